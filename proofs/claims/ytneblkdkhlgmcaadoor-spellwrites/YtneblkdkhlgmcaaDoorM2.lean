/-
  A program as a text, as plain mathematics, by depth; which programs have their parts in place. No program is named. One word more, one piece more: put and glue.
  The writer's small functions: number, inBrackets, ahead, ofOne; what the writer of a part promises.
  The writer of functions: outer, lambda, train, and function of a depth more.
  The document's own texts of a program, by depth: round, applied, function; for all programs that may be written.
-/
import Derived.Test.YtneblkdkhlgmcaaDoorM1
import Derived.Shelf.Strconv.Itoa4
import Derived.Test.YtneblkdkhlgmcaaDoorProg
import Derived.WalkKit
import Derived.Test.YtneblkdkhlgmcaaDoorChecked
import GoSem.Claim
import GoSem.ClaimJoined
import GoSem.ClaimMapViews
import Derived.JoinedTies
import Derived.KernelRfl
import Derived.ProofKit
import Derived.Below
import Derived.Deep.OwnRows
import Derived.Deep.QuietTactic
import Derived.BigQuiet
import Derived.Deep.RegionWith
import Derived.Lib.AppendIntMem
import Derived.Lib.ConvBytes
import Derived.Lib.Builder
import Derived.Lib.AppendStr
import Derived.Lib.UnsafeStr
import Derived.Deep.LoopGhost
import Derived.Deep.RegionHeld3
import Derived.Lib.MakeNoZero
import Derived.Laws.MakeOwn
import Derived.Laws.BitsAllLaws
import Derived.Lib.Bits
import Derived.Deep.Cut
import Derived.Deep.MidRow
import Derived.OpenShut
import Derived.ChangeOld
import Derived.SizedLaws
import Derived.Deep.Slices
import Derived.Deep.Strs
import Derived.Deep.RegionLaw
import GoSem.ClaimSeven
import Derived.LaidByTextLater
import Derived.SevenTiedAt
import Derived.LaidSub
import Derived.LaidOnce
import Derived.Deep.DeepHandedRow
import Derived.Lib.LaidTab
import Derived.Lay
namespace Go.Proofs.YtneblkdkhlgmcaaDoor
open Go.ChangeShapes Go.WideShapes Go.ChangeAt Go.RowKit
set_option maxRecDepth 100000
set_option linter.unusedVariables false
set_option linter.unusedSimpArgs false
def bL (s : ByteArray) : List UInt8 := s.data.toList
def sep (bg : Bool) : List UInt8 := if bg then [32] else []
/-- In round brackets. -/
def rdT (s : List UInt8) : List UInt8 := 40 :: 32 :: (s ++ [32, 41])
def kp (x : Nd) (i : Nat) : Nd := nAt x.kids i
/-- A function ahead of an operand, given functions. -/
def apF (F : Nd → List UInt8) (x : Nd) : List UInt8 := if x.kind = 26 then rdT (F x) else F x
structure Tx where
  E : ByteArray → Nd → List UInt8
  O : ByteArray → Nd → List UInt8
  F : Nd → List UInt8
def fnT (G : Gs) (t : Tx) (x : Nd) : List UInt8 :=
  if x.kind = 21 then bL x.name
  else if x.kind = 22 ∨ x.kind = 23 then bL G.opn ++ ([32] ++ t.E (if x.kind = 22 ∧ G.lone = true then G.left else G.right) (kp x 0)) ++ ([32] ++ bL G.cls)
  else if x.kind = 24 then t.F (kp x 0) ++ bL x.name
  else if x.kind = 26 then t.F (kp x 0) ++ (bL G.power ++ numT x.op (bL G.minus))
  else if x.kind = 25 then bL G.outer ++ ([32] ++ (if (kp x 0).kind = 24 ∨ (kp x 0).kind = 25 ∨ (kp x 0).kind = 26 then rdT (t.F (kp x 0)) else t.F (kp x 0)))
  else if x.kind = 27 then rdT (t.F (kp x 0) ++ ([32] ++ t.F (kp x 1)) ++ ([32] ++ t.F (kp x 2)))
  else rdT (t.F (kp x 0) ++ ([32] ++ t.F (kp x 1)))
def oneT (G : Gs) (t : Tx) (x : Nd) : List UInt8 :=
  if G.lone = true ∧ x.kind = 26 then numT x.op (bL G.minus) ++ ([32] ++ t.F (kp x 0)) ++ [47] else apF t.F x
def exA (G : Gs) (t : Tx) (rt : ByteArray) (x : Nd) : List UInt8 :=
  if x.kind = 5 then oneT G t (kp x 0) ++ ([32] ++ t.E rt (kp x 1))
  else t.O rt (kp x 1) ++ ([32] ++ apF t.F (kp x 0)) ++ ([32] ++ t.E rt (kp x 2))
def opT (G : Gs) (t : Tx) (rt : ByteArray) (x : Nd) : List UInt8 :=
  if x.kind = 1 then litT G x.lit
  else if x.kind = 2 then bL x.name
  else if x.kind = 3 then bL G.left
  else if x.kind = 4 then bL rt
  else if x.kind = 8 then t.O rt (kp x 0) ++ [32, 91] ++ ([32] ++ t.E rt (kp x 1)) ++ [32, 93]
  else rdT (exA G t rt x)
def TX (G : Gs) : Nat → Tx
  | 0 => ⟨fun _ _ => [], fun _ _ => [], fun _ => []⟩
  | m + 1 => ⟨fun rt x => if x.kind = 5 ∨ x.kind = 6 then exA G (TX G m) rt x else opT G (TX G m) rt x, opT G (TX G m), fnT G (TX G m)⟩
/-- How many parts a node of a kind has; -1: there is no such kind. -/
def arK (k : Int) : Int :=
  if k = 1 ∨ k = 2 ∨ k = 3 ∨ k = 4 ∨ k = 21 then 0
  else if k = 22 ∨ k = 23 ∨ k = 24 ∨ k = 25 ∨ k = 26 then 1
  else if k = 5 ∨ k = 8 ∨ k = 28 then 2
  else if k = 6 ∨ k = 27 then 3
  else -1
/-- Whether a part must be a function. -/
def fnP (k : Int) (i : Nat) : Bool := decide (k = 24 ∨ k = 25 ∨ k = 26 ∨ k = 27 ∨ k = 28 ∨ (i = 0 ∧ (k = 5 ∨ k = 6)))
/-- Whether a program may be written, but for numbers that say how often. -/
def okN : Nat → Bool → Nd → Prop
  | 0, _, _ => False
  | m + 1, f, x => (x.kids.length : Int) = arK x.kind ∧ f = decide (21 ≤ x.kind) ∧ (x.kind = 1 → litB x.lit = true) ∧ ∀ i, i < x.kids.length → okN m (fnP x.kind i) (kp x i)
/-- What a machine holds. -/
def sndN : Nat → Nd → Prop
  | 0, _ => True
  | m + 1, x => I64 x.op ∧ x.lit.cells.length ≤ 100000 ∧ (∀ i, i < x.lit.cells.length → I64 (cAt x.lit.cells i).2.1) ∧ ∀ i, i < x.kids.length → sndN m (kp x i)
def sndA (x : Nd) : Prop := ∀ m, sndN m x
theorem sndA.kid {x : Nd} (h : sndA x) {i : Nat} (hi : i < x.kids.length) : sndA (kp x i) := fun m => (h (m + 1)).2.2.2 i hi
theorem sndA.op {x : Nd} (h : sndA x) : I64 x.op := (h 1).1
theorem okN.deeper {m : Nat} {f : Bool} {x : Nd} (h : okN m f x) : okN (m + 1) f x := by
  induction m generalizing f x with
  | zero => exact h.elim
  | succ m ih =>
    obtain ⟨h1, h2, h3, h4⟩ := h
    exact ⟨h1, h2, h3, fun i hi => ih (h4 i hi)⟩
/-- One word more. -/
theorem put1 {B : Nat} {w : World} {p : Nat} {G : Gs} {rt : ByteArray} {bg : Bool} {out : List UInt8} {a v : Value} (h : Wr B w p G rt bg out a v) (s : ByteArray) (hl : out.length + (sep bg).length + s.size ≤ 140737488355328) :
    Calls Tryd.prog 58 #[.pointer (some ⟨p, 0, none⟩), .slice (some ⟨w.heap.size, 0, none⟩) 1 1] (w.alloc (.cells #[.string s] 9)) (GvT B p G rt true (out ++ (sep bg ++ bL s)) w) := by
  have hs : s.data.toList.length = s.size := by simp
  have e : pT bg [s] = sep bg ++ bL s := by simp [pT, sep, bL]
  have h1 := put58 (h.next (alloc_one w (.cells #[.string s] 9))) (ad := some ⟨w.heap.size, 0, none⟩) (ws := [s]) 1 (StrR.one h.lt s) (by rw [e, List.length_append]; unfold bL; omega)
  refine h1.mono ?_
  rintro e' w' ⟨rfl, ⟨a', v', hw⟩, hk⟩
  rw [e] at hw
  have hb : (bg || !([s] : List ByteArray).isEmpty) = true := by simp
  rw [hb] at hw
  exact ⟨rfl, ⟨a', v', hw⟩, (Wk.of (alloc_one w _) (Nat.le_trans h.hB (Nat.le_of_lt h.lt))).trans hk⟩
/-- One piece more. -/
theorem glue1 {B : Nat} {w : World} {p : Nat} {G : Gs} {rt : ByteArray} {bg : Bool} {out : List UInt8} {a v : Value} (h : Wr B w p G rt bg out a v) (s : ByteArray) (hl : out.length + s.size ≤ 140737488355328) :
    Calls Tryd.prog 62 #[.pointer (some ⟨p, 0, none⟩), .slice (some ⟨w.heap.size, 0, none⟩) 1 1] (w.alloc (.cells #[.string s] 9)) (GvT B p G rt bg (out ++ bL s) w) := by
  have hs : s.data.toList.length = s.size := by simp
  have e : fl [s] = bL s := by simp [fl, bL]
  have h1 := glue62 (h.next (alloc_one w (.cells #[.string s] 9))) (ad := some ⟨w.heap.size, 0, none⟩) (ws := [s]) 1 (StrR.one h.lt s) (by rw [e]; unfold bL; omega)
  refine h1.mono ?_
  rintro e' w' ⟨rfl, ⟨a', v', hw⟩, hk⟩
  rw [e] at hw
  exact ⟨rfl, ⟨a', v', hw⟩, (Wk.of (alloc_one w _) (Nat.le_trans h.hB (Nat.le_of_lt h.lt))).trans hk⟩
theorem GvT.trans {B p : Nat} {G : Gs} {rt : ByteArray} {bg : Bool} {out : List UInt8} {w w1 : World} {e : Ending} {w' : World} (hk : Wk B p w w1) (h : GvT B p G rt bg out w1 e w') : GvT B p G rt bg out w e w' :=
  ⟨h.1, h.2.1, hk.trans h.2.2⟩
end Go.Proofs.YtneblkdkhlgmcaaDoor
namespace Go.Proofs.YtneblkdkhlgmcaaDoor
open Go.ChangeShapes Go.WideShapes Go.ChangeAt Go.RowKit
set_option maxRecDepth 100000
set_option linter.unusedVariables false
set_option linter.unusedSimpArgs false
/-- What stands about a writer all the while. -/
structure Am (w0 : World) (B p : Nat) (G : Gs) : Prop where
  hB : w0.heap.size ≤ B
  tab : Rn.Tab w0
  pw : Pw w0
  hm : G.minus.size ≤ 1000000
  hq : G.quote.size ≤ 1000000
/-- A writer at work: its block, and an elder world below. -/
structure St (w0 : World) (B : Nat) (w : World) (p : Nat) (G : Gs) (rt : ByteArray) (bg : Bool) (out : List UInt8) : Prop where
  am : Am w0 B p G
  old : Below w0.heap.size w0 w
  wr : ∃ a v, Wr B w p G rt bg out a v
theorem St.lt {w0 : World} {B : Nat} {w : World} {p : Nat} {G : Gs} {rt : ByteArray} {bg : Bool} {out : List UInt8} (h : St w0 B w p G rt bg out) : p < w.heap.size := by
  obtain ⟨a, v, hw⟩ := h.wr; exact hw.lt
theorem St.next {w0 : World} {B : Nat} {w w' : World} {p : Nat} {G : Gs} {rt : ByteArray} {bg : Bool} {out : List UInt8} (h : St w0 B w p G rt bg out) (hb : Below w.heap.size w w') : St w0 B w' p G rt bg out := by
  obtain ⟨a, v, hw⟩ := h.wr
  exact ⟨h.am, h.old.trans (hb.mono h.old.size), a, v, hw.next hb⟩
theorem St.wkn {w0 : World} {B : Nat} {w w' : World} {p : Nat} {G : Gs} {rt : ByteArray} {bg : Bool} {out : List UInt8} (h : St w0 B w p G rt bg out) (hb : Below w.heap.size w w') : Wk B p w w' := by
  obtain ⟨a, v, hw⟩ := h.wr
  exact Wk.of hb (Nat.le_trans hw.hB (Nat.le_of_lt hw.lt))
/-- What a call that writes leaves. -/
theorem St.got {w0 : World} {B : Nat} {w : World} {p : Nat} {G : Gs} {rt rt' : ByteArray} {bg bg' : Bool} {out out' : List UInt8} (h : St w0 B w p G rt bg out) {e : Ending} {w' : World} (g : GvT B p G rt' bg' out' w e w') : St w0 B w' p G rt' bg' out' :=
  ⟨h.am, h.old.trans (g.2.2.bel.mono h.am.hB), g.2.1⟩
/-- A box of a call's own, kept. -/
theorem Wk.box {B p : Nat} {w w' : World} (h : Wk B p w w') {q : Nat} {cs : Array Value} {T : TypeId} (hq : w.heap[q]? = some (.cells cs T (0, 0))) (hp : q ≠ p) (hT : T ≠ 5) : w'.heap[q]? = some (.cells cs T (0, 0)) :=
  (h.keep q (lt_heap hq) hp (by rintro ⟨cs', fz, h'⟩; rw [hq] at h'; cases h'; exact hT rfl)).trans hq
/-- One word more, of a writer at work. -/
theorem St.put {w0 : World} {B : Nat} {w : World} {p : Nat} {G : Gs} {rt : ByteArray} {bg : Bool} {out : List UInt8} (h : St w0 B w p G rt bg out) (s : ByteArray) (hl : out.length + (sep bg).length + s.size ≤ 140737488355328) :
    Calls Tryd.prog 58 #[.pointer (some ⟨p, 0, none⟩), .slice (some ⟨w.heap.size, 0, none⟩) 1 1] (w.alloc (.cells #[.string s] 9)) (GvT B p G rt true (out ++ (sep bg ++ bL s)) w) := by
  obtain ⟨a, v, hw⟩ := h.wr
  exact put1 hw s hl
theorem St.glue {w0 : World} {B : Nat} {w : World} {p : Nat} {G : Gs} {rt : ByteArray} {bg : Bool} {out : List UInt8} (h : St w0 B w p G rt bg out) (s : ByteArray) (hl : out.length + s.size ≤ 140737488355328) :
    Calls Tryd.prog 62 #[.pointer (some ⟨p, 0, none⟩), .slice (some ⟨w.heap.size, 0, none⟩) 1 1] (w.alloc (.cells #[.string s] 9)) (GvT B p G rt bg (out ++ bL s) w) := by
  obtain ⟨a, v, hw⟩ := h.wr
  exact glue1 hw s hl
theorem number60 {w0 : World} {B : Nat} {w : World} {p : Nat} {G : Gs} {rt : ByteArray} {bg : Bool} {out : List UInt8} (h : St w0 B w p G rt bg out) (z : Int) (hz : I64 z) :
    Calls Tryd.prog 60 #[.pointer (some ⟨p, 0, none⟩), .int .i64 z] w fun e w' => e = .returned (.string (str (numT z (bL G.minus)))) ∧ Below w.heap.size w w' := by
  obtain ⟨a, v, hw⟩ := h.wr
  have c9 := hw.all.2.1.1
  have HN := hide (num5 z G.minus (by have := h.am.hm; omega) hz.1 hz.2 w (Lib.tabBelow_of_tabIs h.am.pw _ h.old))
  clear hw h
  go_enter Tryd.func60, Tryd.ntmps60
  go_wp2_with fail
  refine HN.out.mono ?_
  rintro e w' ⟨rfl, hb⟩
  go_wp2
  go_ret
  exact ⟨rfl, hb⟩
abbrev sv (k o : Int) (nm : ByteArray) (v1 v2 v3 : Value) (ps : Int) : Array Value := #[.int .i64 k, .int .i64 o, .string nm, v1, v2, v3, .int .i64 ps]
set_option maxHeartbeats 2000000 in
theorem brack63_25 {w0 : World} {B : Nat} {w : World} {p : Nat} {G : Gs} {rt : ByteArray} {bg : Bool} {out : List UInt8} (h : St w0 B w p G rt bg out) (T : List UInt8) (k o : Int) (nm : ByteArray) (v1 v2 v3 : Value) (h1 : v1.cells.size = 1) (ps : Int)
    (hl : out.length + (sep bg).length + (rdT T).length ≤ 140737488355328)
    (hc : ∀ w1 out1, St w0 B w1 p G rt true out1 → out1.length + 1 + T.length ≤ 140737488355328 → Calls Tryd.prog 25 #[.pointer (some ⟨p, 0, none⟩), .agg (sv k o nm v1 v2 v3 ps)] w1 (GvT B p G rt true (out1 ++ ([32] ++ T)) w1)) :
    Calls Tryd.prog 63 #[.pointer (some ⟨p, 0, none⟩), .agg (sv k o nm v1 v2 v3 ps), .func (.func 25) #[.pointer (some ⟨p, 0, none⟩)] #[]] w (GvT B p G rt true (out ++ (sep bg ++ rdT T)) w) := by
  obtain ⟨W1, hW1⟩ : ∃ W1, w.alloc (.cells (sv k o nm v1 v2 v3 ps) 34) = W1 := ⟨_, rfl⟩
  have hb1 : Below w.heap.size w W1 := by rw [← hW1]; exact alloc_one _ _
  have s1 : W1.heap.size = w.heap.size + 1 := by rw [← hW1]; simp
  have hbx : W1.heap[w.heap.size]? = some (.cells (sv k o nm v1 v2 v3 ps) 34 (0, 0)) := by rw [← hW1]; exact heap_alloc_new w _
  have hlr : (rdT T).length = T.length + 4 := by simp [rdT]
  have hse : (sep true).length = 1 := rfl
  have hs1 : (⟨#[40]⟩ : ByteArray).size = 1 := rfl
  have hs2 : (⟨#[41]⟩ : ByteArray).size = 1 := rfl
  have hql : w.heap.size ≠ p := Nat.ne_of_gt h.lt
  have H1 := hide (h.next hb1)
  have HK1 := hide (h.wkn hb1)
  have HP := hide ((h.next hb1).put ⟨#[40]⟩ (by omega))
  rw [s1] at HP
  have HBX := hide hbx
  have hv1 : sep bg ++ rdT T = (sep bg ++ bL ⟨#[40]⟩) ++ ([32] ++ T) ++ ([32] ++ bL ⟨#[41]⟩) := by simp [rdT, bL]
  rw [hv1]
  clear hb1 hbx h hv1
  go_enter Tryd.func63, Tryd.ntmps63
  go_wp2_with fail
  refine HP.out.mono ?_
  rintro e w2 g2
  have H2 := hide (H1.out.got g2)
  have HK2 := hide (HK1.out.trans g2.2.2)
  have hb2 := g2.2.2.box HBX.out hql (by decide)
  have HB2 := hide hb2
  obtain rfl := g2.1
  have k0 : w2.cell? ⟨w.heap.size, 0, none⟩ = some (.int .i64 k) := (Lib.cell_of_heap hb2 0).trans rfl
  have k1 : w2.cell? ⟨w.heap.size, 1, none⟩ = some (.int .i64 o) := (Lib.cell_of_heap hb2 1).trans rfl
  have k2 : w2.cell? ⟨w.heap.size, 2, none⟩ = some (.string nm) := (Lib.cell_of_heap hb2 2).trans rfl
  have k3 : w2.cell? ⟨w.heap.size, 3, none⟩ = some (v1) := (Lib.cell_of_heap hb2 3).trans rfl
  have k4 : w2.cell? ⟨w.heap.size, 4, none⟩ = some (v2) := (Lib.cell_of_heap hb2 4).trans rfl
  have k5 : w2.cell? ⟨w.heap.size, 5, none⟩ = some (v3) := (Lib.cell_of_heap hb2 5).trans rfl
  have k6 : w2.cell? ⟨w.heap.size, 6, none⟩ = some (.int .i64 ps) := (Lib.cell_of_heap hb2 6).trans rfl
  have HC := hide (hc w2 _ H2.out (by rw [List.length_append, List.length_append]; show _ + (_ + 1) + 1 + _ ≤ _; omega))
  clear g2 hb2 HP H1 HK1 HBX
  go_wp2_with fail
  refine HC.out.mono ?_
  rintro e w3 g3
  have H3 := hide (H2.out.got g3)
  have HK3 := hide (HK2.out.trans g3.2.2)
  obtain rfl := g3.1
  have HQ := hide (H3.out.put ⟨#[41]⟩ (by rw [List.length_append, List.length_append, List.length_append, List.length_append]; show _ + (_ + 1) + (1 + _) + _ + _ ≤ _; omega))
  clear g3 HC H2 HK2 k0 k1 k2 k3 k4 k5 k6
  go_wp2_with fail
  refine HQ.out.mono ?_
  rintro e w4 ⟨rfl, hx, hk⟩
  have HF := hide (And.intro hx (HK3.out.trans hk))
  clear hx hk HQ H3 HK3
  go_wp2
  go_end0
  refine ⟨rfl, ?_, HF.out.2⟩
  have hx := HF.out.1
  simpa [sep, List.append_assoc] using hx
set_option maxHeartbeats 2000000 in
theorem brack63_61 {w0 : World} {B : Nat} {w : World} {p : Nat} {G : Gs} {rt : ByteArray} {bg : Bool} {out : List UInt8} (h : St w0 B w p G rt bg out) (T : List UInt8) (k o : Int) (nm : ByteArray) (v1 v2 v3 : Value) (h1 : v1.cells.size = 1) (ps : Int)
    (hl : out.length + (sep bg).length + (rdT T).length ≤ 140737488355328)
    (hc : ∀ w1 out1, St w0 B w1 p G rt true out1 → out1.length + 1 + T.length ≤ 140737488355328 → Calls Tryd.prog 61 #[.pointer (some ⟨p, 0, none⟩), .agg (sv k o nm v1 v2 v3 ps)] w1 (GvT B p G rt true (out1 ++ ([32] ++ T)) w1)) :
    Calls Tryd.prog 63 #[.pointer (some ⟨p, 0, none⟩), .agg (sv k o nm v1 v2 v3 ps), .func (.func 61) #[.pointer (some ⟨p, 0, none⟩)] #[]] w (GvT B p G rt true (out ++ (sep bg ++ rdT T)) w) := by
  obtain ⟨W1, hW1⟩ : ∃ W1, w.alloc (.cells (sv k o nm v1 v2 v3 ps) 34) = W1 := ⟨_, rfl⟩
  have hb1 : Below w.heap.size w W1 := by rw [← hW1]; exact alloc_one _ _
  have s1 : W1.heap.size = w.heap.size + 1 := by rw [← hW1]; simp
  have hbx : W1.heap[w.heap.size]? = some (.cells (sv k o nm v1 v2 v3 ps) 34 (0, 0)) := by rw [← hW1]; exact heap_alloc_new w _
  have hlr : (rdT T).length = T.length + 4 := by simp [rdT]
  have hse : (sep true).length = 1 := rfl
  have hs1 : (⟨#[40]⟩ : ByteArray).size = 1 := rfl
  have hs2 : (⟨#[41]⟩ : ByteArray).size = 1 := rfl
  have hql : w.heap.size ≠ p := Nat.ne_of_gt h.lt
  have H1 := hide (h.next hb1)
  have HK1 := hide (h.wkn hb1)
  have HP := hide ((h.next hb1).put ⟨#[40]⟩ (by omega))
  rw [s1] at HP
  have HBX := hide hbx
  have hv1 : sep bg ++ rdT T = (sep bg ++ bL ⟨#[40]⟩) ++ ([32] ++ T) ++ ([32] ++ bL ⟨#[41]⟩) := by simp [rdT, bL]
  rw [hv1]
  clear hb1 hbx h hv1
  go_enter Tryd.func63, Tryd.ntmps63
  go_wp2_with fail
  refine HP.out.mono ?_
  rintro e w2 g2
  have H2 := hide (H1.out.got g2)
  have HK2 := hide (HK1.out.trans g2.2.2)
  have hb2 := g2.2.2.box HBX.out hql (by decide)
  have HB2 := hide hb2
  obtain rfl := g2.1
  have k0 : w2.cell? ⟨w.heap.size, 0, none⟩ = some (.int .i64 k) := (Lib.cell_of_heap hb2 0).trans rfl
  have k1 : w2.cell? ⟨w.heap.size, 1, none⟩ = some (.int .i64 o) := (Lib.cell_of_heap hb2 1).trans rfl
  have k2 : w2.cell? ⟨w.heap.size, 2, none⟩ = some (.string nm) := (Lib.cell_of_heap hb2 2).trans rfl
  have k3 : w2.cell? ⟨w.heap.size, 3, none⟩ = some (v1) := (Lib.cell_of_heap hb2 3).trans rfl
  have k4 : w2.cell? ⟨w.heap.size, 4, none⟩ = some (v2) := (Lib.cell_of_heap hb2 4).trans rfl
  have k5 : w2.cell? ⟨w.heap.size, 5, none⟩ = some (v3) := (Lib.cell_of_heap hb2 5).trans rfl
  have k6 : w2.cell? ⟨w.heap.size, 6, none⟩ = some (.int .i64 ps) := (Lib.cell_of_heap hb2 6).trans rfl
  have HC := hide (hc w2 _ H2.out (by rw [List.length_append, List.length_append]; show _ + (_ + 1) + 1 + _ ≤ _; omega))
  clear g2 hb2 HP H1 HK1 HBX
  go_wp2_with fail
  refine HC.out.mono ?_
  rintro e w3 g3
  have H3 := hide (H2.out.got g3)
  have HK3 := hide (HK2.out.trans g3.2.2)
  obtain rfl := g3.1
  have HQ := hide (H3.out.put ⟨#[41]⟩ (by rw [List.length_append, List.length_append, List.length_append, List.length_append]; show _ + (_ + 1) + (1 + _) + _ + _ ≤ _; omega))
  clear g3 HC H2 HK2 k0 k1 k2 k3 k4 k5 k6
  go_wp2_with fail
  refine HQ.out.mono ?_
  rintro e w4 ⟨rfl, hx, hk⟩
  have HF := hide (And.intro hx (HK3.out.trans hk))
  clear hx hk HQ H3 HK3
  go_wp2
  go_end0
  refine ⟨rfl, ?_, HF.out.2⟩
  have hx := HF.out.1
  simpa [sep, List.append_assoc] using hx
theorem nd_form {m n lo : Nat} {w : World} {x : Nd} {v : Value} (h : NdIn m n lo w x v) : ∃ v1 v2 v3, v = .agg (sv x.kind x.op x.name v1 v2 v3 x.pos) ∧ v1.cells.size = 1 := by
  cases m with
  | zero => exact h.elim
  | succ m =>
    obtain ⟨a1, c1, a2, c2, ak, ck, hv, -⟩ := h
    exact ⟨_, _, _, hv, rfl⟩
/-- Seven cells of a node from a place on. -/
def Sv7 (W : World) (b d : Nat) (k o : Int) (nm : ByteArray) (u1 u2 u3 : Value) (ps : Int) : Prop :=
  W.cell? ⟨b, d, none⟩ = some (.int .i64 k) ∧ W.cell? ⟨b, d + 1, none⟩ = some (.int .i64 o) ∧ W.cell? ⟨b, d + 2, none⟩ = some (.string nm) ∧ W.cell? ⟨b, d + 3, none⟩ = some u1 ∧ W.cell? ⟨b, d + 4, none⟩ = some u2 ∧ W.cell? ⟨b, d + 5, none⟩ = some u3 ∧ W.cell? ⟨b, d + 6, none⟩ = some (.int .i64 ps)
theorem nd_kids {m n : Nat} {w : World} {x : Nd} {v : Value} (h : NdIn (m + 1) n 0 w x v) : ∃ v1 v2 ak ck, v = .agg (sv x.kind x.op x.name v1 v2 (.slice ak x.kids.length ck) x.pos) ∧ v1.cells.size = 1 ∧ ArIn n 0 w x.lit (.agg #[v1, v2]) ∧
    ∀ j, j < x.kids.length → ∃ b off u1 u2 u3, ak = some ⟨b, off, none⟩ ∧ NdIn m n 0 w (kp x j) (.agg (sv (kp x j).kind (kp x j).op (kp x j).name u1 u2 u3 (kp x j).pos)) ∧ ∀ W, Below w.heap.size w W → Sv7 W b (off + j * 7) (kp x j).kind (kp x j).op (kp x j).name u1 u2 u3 (kp x j).pos := by
  obtain ⟨a1, c1, a2, c2, ak, ck, hv, hA, -, -, hc⟩ := h
  refine ⟨_, _, ak, ck, hv, rfl, hA, fun j hj => ?_⟩
  rcases hc with hc | ⟨b, off, ha, hlo, hb, hc⟩
  · rw [hc] at hj; exact absurd hj (by simp)
  · obtain ⟨d1, e1, d2, e2, dk, ek, s7, hk⟩ := hc j hj
    exact ⟨b, off, _, _, _, ha, hk, fun W hW => s7.next hW hb⟩
theorem sep_true : sep true = [32] := rfl
theorem sep_le (bg : Bool) : (sep bg).length ≤ 1 := by cases bg <;> simp [sep]
/-- What the writer of a function promises. -/
def CF (n m : Nat) (w0 : World) (B p : Nat) (G : Gs) : Prop := ∀ (rt : ByteArray) (bg : Bool) (out : List UInt8) (w : World) (x : Nd) (v : Value), NdIn m n 0 w0 x v → okN m true x → sndA x → St w0 B w p G rt bg out → out.length + 1 + ((TX G m).F x).length ≤ 140737488355328 →
  Calls Tryd.prog 61 #[.pointer (some ⟨p, 0, none⟩), v] w (GvT B p G rt true (out ++ (sep bg ++ (TX G m).F x)) w)
/-- What the writer of an expression promises. -/
def CE (n m : Nat) (w0 : World) (B p : Nat) (G : Gs) : Prop := ∀ (rt : ByteArray) (bg : Bool) (out : List UInt8) (w : World) (x : Nd) (v : Value), NdIn m n 0 w0 x v → okN m false x → sndA x → St w0 B w p G rt bg out → out.length + 1 + ((TX G m).E rt x).length ≤ 140737488355328 →
  Calls Tryd.prog 25 #[.pointer (some ⟨p, 0, none⟩), v] w (GvT B p G rt true (out ++ (sep bg ++ (TX G m).E rt x)) w)
/-- What the writer of an operand promises. -/
def CO (n m : Nat) (w0 : World) (B p : Nat) (G : Gs) : Prop := ∀ (rt : ByteArray) (bg : Bool) (out : List UInt8) (w : World) (x : Nd) (v : Value), NdIn m n 0 w0 x v → okN m false x → sndA x → St w0 B w p G rt bg out → out.length + 1 + ((TX G m).O rt x).length ≤ 140737488355328 →
  Calls Tryd.prog 40 #[.pointer (some ⟨p, 0, none⟩), v] w (GvT B p G rt true (out ++ (sep bg ++ (TX G m).O rt x)) w)
set_option maxHeartbeats 2000000 in
theorem ahead41 {n m : Nat} {w0 : World} {B p : Nat} {G : Gs} (IF : CF n m w0 B p G) (rt : ByteArray) (bg : Bool) (out : List UInt8) (w : World) (x : Nd) (v : Value) (hx : NdIn m n 0 w0 x v) (hk : okN m true x) (hs : sndA x) (h : St w0 B w p G rt bg out) (hl : out.length + 1 + (apF (TX G m).F x).length ≤ 140737488355328) :
    Calls Tryd.prog 41 #[.pointer (some ⟨p, 0, none⟩), v] w (GvT B p G rt true (out ++ (sep bg ++ apF (TX G m).F x)) w) := by
  obtain ⟨v1, v2, v3, rfl, hv1⟩ := nd_form hx
  have HF := hide (fun bg out w (hst : St w0 B w p G rt bg out) hl => IF rt bg out w x _ hx hk hs hst hl)
  have HAP : Hid ((x.kind = 26 → apF (TX G m).F x = rdT ((TX G m).F x)) ∧ (x.kind ≠ 26 → apF (TX G m).F x = (TX G m).F x)) := hide (by
    unfold apF
    exact ⟨fun h => by rw [if_pos h], fun h => by rw [if_neg h]⟩)
  obtain ⟨T, hT⟩ : ∃ T, apF (TX G m).F x = T := ⟨_, rfl⟩
  obtain ⟨FT, hFT⟩ : ∃ FT, (TX G m).F x = FT := ⟨_, rfl⟩
  rw [hT] at HAP hl ⊢
  rw [hFT] at HAP HF
  have hse := sep_le bg
  generalize x.kind = k at *
  generalize x.op = o at *
  generalize x.name = nm at *
  generalize x.pos = ps at *
  clear hT hFT hx hk hs IF
  obtain ⟨W1, hW1⟩ : ∃ W1, w.alloc (.cells (sv k o nm v1 v2 v3 ps) 34) = W1 := ⟨_, rfl⟩
  have hb1 : Below w.heap.size w W1 := by rw [← hW1]; exact alloc_one _ _
  have s1 : W1.heap.size = w.heap.size + 1 := by rw [← hW1]; simp
  have hbx : W1.heap[w.heap.size]? = some (.cells (sv k o nm v1 v2 v3 ps) 34 (0, 0)) := by rw [← hW1]; exact heap_alloc_new w _
  have hql : w.heap.size ≠ p := Nat.ne_of_gt h.lt
  have H1 := hide (h.next hb1)
  have HK1 := hide (h.wkn hb1)
  have HBX := hide hbx
  have k0 : W1.cell? ⟨w.heap.size, 0, none⟩ = some (.int .i64 k) := (Lib.cell_of_heap hbx 0).trans rfl
  have k1 : W1.cell? ⟨w.heap.size, 1, none⟩ = some (.int .i64 o) := (Lib.cell_of_heap hbx 1).trans rfl
  have k2 : W1.cell? ⟨w.heap.size, 2, none⟩ = some (.string nm) := (Lib.cell_of_heap hbx 2).trans rfl
  have k3 : W1.cell? ⟨w.heap.size, 3, none⟩ = some (v1) := (Lib.cell_of_heap hbx 3).trans rfl
  have k4 : W1.cell? ⟨w.heap.size, 4, none⟩ = some (v2) := (Lib.cell_of_heap hbx 4).trans rfl
  have k5 : W1.cell? ⟨w.heap.size, 5, none⟩ = some (v3) := (Lib.cell_of_heap hbx 5).trans rfl
  have k6 : W1.cell? ⟨w.heap.size, 6, none⟩ = some (.int .i64 ps) := (Lib.cell_of_heap hbx 6).trans rfl
  clear hb1 hbx
  by_cases h26 : k = 26
  · subst h26
    obtain rfl := HAP.out.1 rfl
    have hlr : (rdT FT).length = FT.length + 4 := by simp [rdT]
    have HC := hide (brack63_61 (h.next (by rw [← hW1]; exact alloc_one _ _) : St w0 B W1 p G rt bg out) FT 26 o nm v1 v2 v3 hv1 ps (by omega) (fun w1 out1 hst hb => HF.out true out1 w1 hst hb))
    clear h HF
    go_enter Tryd.func41, Tryd.ntmps41
    go_wp2_with fail
    refine HC.out.mono ?_
    rintro e w2 ⟨rfl, hx, hk⟩
    have HF := hide (And.intro hx (HK1.out.trans hk))
    clear hx hk HC
    go_wp2
    go_end0
    exact ⟨rfl, HF.out⟩
  · obtain rfl := HAP.out.2 h26
    have h26' : (k == 26) = false := beq_eq_false_iff_ne.2 h26
    have HC := hide (HF.out bg out W1 H1.out (by omega))
    clear h HF
    go_enter Tryd.func41, Tryd.ntmps41
    go_wp2_with fail
    refine HC.out.mono ?_
    rintro e w2 ⟨rfl, hx, hk⟩
    have HF := hide (And.intro hx (HK1.out.trans hk))
    clear hx hk HC
    go_wp2
    go_end0
    exact ⟨rfl, HF.out⟩
set_option maxHeartbeats 4000000 in
theorem one39 {n m : Nat} {w0 : World} {B p : Nat} {G : Gs} (IF : CF n m w0 B p G) (rt : ByteArray) (bg : Bool) (out : List UInt8) (w : World) (x : Nd) (v : Value) (hx : NdIn m n 0 w0 x v) (hk : okN m true x) (hs : sndA x) (h : St w0 B w p G rt bg out) (hl : out.length + 1 + (oneT G (TX G m) x).length ≤ 140737488355328) :
    Calls Tryd.prog 39 #[.pointer (some ⟨p, 0, none⟩), v] w (GvT B p G rt true (out ++ (sep bg ++ oneT G (TX G m) x)) w) := by
  cases m with
  | zero => exact hx.elim
  | succ m =>
  have HA := hide (fun W (hst : St w0 B W p G rt bg out) hl => ahead41 IF rt bg out W x v hx hk hs hst hl)
  have hsx := hs
  obtain ⟨v1, v2, ak, ck, rfl, hv1, -, hkid⟩ := nd_kids hx
  have hse := sep_le bg
  by_cases hc : G.lone = true ∧ x.kind = 26
  · obtain ⟨hlo, h26⟩ := hc
    have hT : oneT G (TX G (m + 1)) x = numT x.op (bL G.minus) ++ ([32] ++ (TX G (m + 1)).F (kp x 0)) ++ [47] := by unfold oneT; rw [if_pos ⟨hlo, h26⟩]
    have hkl : x.kids.length = 1 := by have := hk.1; rw [h26] at this; unfold arK at this; simp at this; omega
    obtain ⟨b, off, u1, u2, u3, rfl, hnk, h7⟩ := hkid 0 (by omega)
    have hok := (hk.2.2.2 0 (by omega)).deeper
    rw [h26] at hok
    have hsk := hsx.kid (i := 0) (by omega)
    have HF := hide (fun out w (hst : St w0 B w p G rt true out) hl => IF rt true out w (kp x 0) _ hnk.deeper hok hsk hst hl)
    rw [hT] at hl ⊢
    have H7 : Hid (∀ W, Below w0.heap.size w0 W → Sv7 W b off (kp x 0).kind (kp x 0).op (kp x 0).name u1 u2 u3 (kp x 0).pos) := hide (by simpa only [Nat.zero_mul, Nat.add_zero] using h7)
    have ho := hs.op
    rw [h26, hkl] at HA ⊢
    obtain ⟨FT, hFT⟩ : ∃ FT, (TX G (m + 1)).F (kp x 0) = FT := ⟨_, rfl⟩
    rw [hFT] at HF hl ⊢
    have hNL : (numT x.op (bL G.minus)).length ≤ 140737488355328 := by rw [List.length_append, List.length_append] at hl; omega
    obtain ⟨NT, hNT⟩ : ∃ NT, numT x.op (bL G.minus) = NT := ⟨_, rfl⟩
    rw [hNT] at hl hNL ⊢
    simp only [List.length_append, List.length_cons, List.length_nil] at hl
    generalize (kp x 0).kind = k' at *
    generalize (kp x 0).op = o' at *
    generalize (kp x 0).name = nm' at *
    generalize (kp x 0).pos = ps' at *
    have HNT := hide hNT
    generalize x.op = o at *
    generalize x.name = nm at *
    generalize x.pos = ps at *
    clear hx hk hs hsx hnk h7 hok hsk IF hkid hT h26 hkl hFT hNT HA
    obtain ⟨W1, hW1⟩ : ∃ W1, w.alloc (.cells (sv 26 o nm v1 v2 (.slice (some ⟨b, off, none⟩) 1 ck) ps) 34) = W1 := ⟨_, rfl⟩
    have hb1 : Below w.heap.size w W1 := by rw [← hW1]; exact alloc_one _ _
    have s1 : W1.heap.size = w.heap.size + 1 := by rw [← hW1]; simp
    have hbx : W1.heap[w.heap.size]? = some (.cells (sv 26 o nm v1 v2 (.slice (some ⟨b, off, none⟩) 1 ck) ps) 34 (0, 0)) := by rw [← hW1]; exact heap_alloc_new w _
    have hql : w.heap.size ≠ p := Nat.ne_of_gt h.lt
    have H1 := hide (h.next hb1)
    have HK1 := hide (h.wkn hb1)
    have HBX := hide hbx
    have k0 : W1.cell? ⟨w.heap.size, 0, none⟩ = some (.int .i64 26) := (Lib.cell_of_heap hbx 0).trans rfl
    have k1 : W1.cell? ⟨w.heap.size, 1, none⟩ = some (.int .i64 o) := (Lib.cell_of_heap hbx 1).trans rfl
    have k2 : W1.cell? ⟨w.heap.size, 2, none⟩ = some (.string nm) := (Lib.cell_of_heap hbx 2).trans rfl
    have k3 : W1.cell? ⟨w.heap.size, 3, none⟩ = some (v1) := (Lib.cell_of_heap hbx 3).trans rfl
    have k4 : W1.cell? ⟨w.heap.size, 4, none⟩ = some (v2) := (Lib.cell_of_heap hbx 4).trans rfl
    have k5 : W1.cell? ⟨w.heap.size, 5, none⟩ = some (.slice (some ⟨b, off, none⟩) 1 ck) := (Lib.cell_of_heap hbx 5).trans rfl
    have k6 : W1.cell? ⟨w.heap.size, 6, none⟩ = some (.int .i64 ps) := (Lib.cell_of_heap hbx 6).trans rfl
    obtain ⟨aw, vw, hw⟩ := H1.out.wr
    have c12 : W1.cell? ⟨p, 12, none⟩ = some (.bool true) := by rw [hw.all.2.1.2.2.1, hlo]
    have HN := hide (number60 H1.out o ho)
    clear hb1 hbx hw
    go_enter Tryd.func39, Tryd.ntmps39
    go_wp2_with fail
    refine HN.out.mono ?_
    rintro e w2 ⟨rfl, hb2⟩
    rw [HNT.out]
    have H2 := hide (H1.out.next hb2)
    have HK2 := hide (HK1.out.trans (H1.out.wkn hb2))
    have HB2 := hide ((H1.out.wkn hb2).box HBX.out hql (by decide))
    have HP := hide (H2.out.put (str NT) (by show _ + _ + (str NT).data.size ≤ _; simp only [str, List.size_toArray]; omega))
    clear hb2 HN H1 HK1 HBX k0 k1 k2 k3 k4 k5 k6 c12
    go_wp2_with fail
    refine HP.out.mono ?_
    rintro e w3 g3
    have H3 := hide (H2.out.got g3)
    have HK3 := hide (HK2.out.trans g3.2.2)
    have hb3 := g3.2.2.box HB2.out hql (by decide)
    have HB3 := hide hb3
    obtain rfl := g3.1
    clear g3 HP
    have k0 : w3.cell? ⟨w.heap.size, 0, none⟩ = some (.int .i64 26) := (Lib.cell_of_heap hb3 0).trans rfl
    have k1 : w3.cell? ⟨w.heap.size, 1, none⟩ = some (.int .i64 o) := (Lib.cell_of_heap hb3 1).trans rfl
    have k2 : w3.cell? ⟨w.heap.size, 2, none⟩ = some (.string nm) := (Lib.cell_of_heap hb3 2).trans rfl
    have k3 : w3.cell? ⟨w.heap.size, 3, none⟩ = some (v1) := (Lib.cell_of_heap hb3 3).trans rfl
    have k4 : w3.cell? ⟨w.heap.size, 4, none⟩ = some (v2) := (Lib.cell_of_heap hb3 4).trans rfl
    have k5 : w3.cell? ⟨w.heap.size, 5, none⟩ = some (.slice (some ⟨b, off, none⟩) 1 ck) := (Lib.cell_of_heap hb3 5).trans rfl
    have k6 : w3.cell? ⟨w.heap.size, 6, none⟩ = some (.int .i64 ps) := (Lib.cell_of_heap hb3 6).trans rfl
    clear hb3
    obtain ⟨y0, y1, y2, y3, y4, y5, y6⟩ := H7.out w3 H3.out.old
    have HC := hide (HF.out _ w3 H3.out (by simp [bL, str, sep_true]; omega))
    go_wp2_with fail
    refine HC.out.mono ?_
    rintro e w4 g4
    have H4 := hide (H3.out.got g4)
    have HK4 := hide (HK3.out.trans g4.2.2)
    have hb4 := g4.2.2.box HB3.out hql (by decide)
    have HB4 := hide hb4
    obtain rfl := g4.1
    clear g4 HC k0 k1 k2 k3 k4 k5 k6 y0 y1 y2 y3 y4 y5 y6
    clear hb4
    have HC := hide (H4.out.glue ⟨#[47]⟩ (by simp [bL, str, sep_true]; show _ + 1 ≤ _; omega))
    go_wp2_with fail
    refine HC.out.mono ?_
    rintro e w9 ⟨rfl, hx9, hk9⟩
    have HF9 := hide (And.intro hx9 (HK4.out.trans hk9))
    clear hx9 hk9 HC 
    go_wp2
    go_end0
    refine ⟨rfl, ?_, HF9.out.2⟩
    have hx := HF9.out.1
    simpa [sep, rdT, bL, str, List.append_assoc] using hx
  · have hT : oneT G (TX G (m + 1)) x = apF (TX G (m + 1)).F x := by unfold oneT; rw [if_neg hc]
    rw [hT] at hl ⊢
    obtain ⟨FT, hFT⟩ : ∃ FT, apF (TX G (m + 1)).F x = FT := ⟨_, rfl⟩
    rw [hFT] at HA hl ⊢
    generalize hk' : x.kind = k at *
    generalize x.op = o at *
    generalize x.name = nm at *
    generalize x.pos = ps at *
    generalize x.kids.length = KL at *
    obtain ⟨LO, hLO⟩ : ∃ LO, G.lone = LO := ⟨_, rfl⟩
    rw [hLO] at hc
    clear hx hk hs hsx IF hkid hT hk' hFT
    obtain ⟨W1, hW1⟩ : ∃ W1, w.alloc (.cells (sv (k) (o) nm (v1) (v2) (.slice ak KL ck) (ps)) 34) = W1 := ⟨_, rfl⟩
    have hb1 : Below w.heap.size w W1 := by rw [← hW1]; exact alloc_one _ _
    have s1 : W1.heap.size = w.heap.size + 1 := by rw [← hW1]; simp
    have hbx : W1.heap[w.heap.size]? = some (.cells (sv (k) (o) nm (v1) (v2) (.slice ak KL ck) (ps)) 34 (0, 0)) := by rw [← hW1]; exact heap_alloc_new w _
    have hql : w.heap.size ≠ p := Nat.ne_of_gt h.lt
    have H1 := hide (h.next hb1)
    have HK1 := hide (h.wkn hb1)
    have HB1 := hide hbx
    have k0 : W1.cell? ⟨w.heap.size, 0, none⟩ = some (.int .i64 k) := (Lib.cell_of_heap hbx 0).trans rfl
    have k1 : W1.cell? ⟨w.heap.size, 1, none⟩ = some (.int .i64 o) := (Lib.cell_of_heap hbx 1).trans rfl
    have k2 : W1.cell? ⟨w.heap.size, 2, none⟩ = some (.string nm) := (Lib.cell_of_heap hbx 2).trans rfl
    have k3 : W1.cell? ⟨w.heap.size, 3, none⟩ = some (v1) := (Lib.cell_of_heap hbx 3).trans rfl
    have k4 : W1.cell? ⟨w.heap.size, 4, none⟩ = some (v2) := (Lib.cell_of_heap hbx 4).trans rfl
    have k5 : W1.cell? ⟨w.heap.size, 5, none⟩ = some (.slice ak KL ck) := (Lib.cell_of_heap hbx 5).trans rfl
    have k6 : W1.cell? ⟨w.heap.size, 6, none⟩ = some (.int .i64 ps) := (Lib.cell_of_heap hbx 6).trans rfl
    clear hb1 hbx
    obtain ⟨aw, vw, hw⟩ := H1.out.wr
    have c12 : W1.cell? ⟨p, 12, none⟩ = some (.bool LO) := by rw [hw.all.2.1.2.2.1, hLO]
    have HC := hide (HA.out W1 H1.out hl)
    clear hw HA hLO h
    cases LO with
    | false =>
      go_enter Tryd.func39, Tryd.ntmps39
      go_wp2_with fail
      refine HC.out.mono ?_
      rintro e w9 ⟨rfl, hx9, hk9⟩
      have HF9 := hide (And.intro hx9 (HK1.out.trans hk9))
      clear hx9 hk9 HC 
      go_wp2
      go_end0
      refine ⟨rfl, ?_, HF9.out.2⟩
      have hx := HF9.out.1
      simpa [sep, rdT, bL, str, List.append_assoc] using hx
    | true =>
      have h26 : (k != 26) = true := bne_iff_ne.2 (fun h9 => hc ⟨rfl, h9⟩)
      have h26' : (k == 26) = false := beq_eq_false_iff_ne.2 (fun h9 => hc ⟨rfl, h9⟩)
      go_enter Tryd.func39, Tryd.ntmps39
      go_wp2_with fail
      refine HC.out.mono ?_
      rintro e w9 ⟨rfl, hx9, hk9⟩
      have HF9 := hide (And.intro hx9 (HK1.out.trans hk9))
      clear hx9 hk9 HC 
      go_wp2
      go_end0
      refine ⟨rfl, ?_, HF9.out.2⟩
      have hx := HF9.out.1
      simpa [sep, rdT, bL, str, List.append_assoc] using hx
end Go.Proofs.YtneblkdkhlgmcaaDoor
namespace Go.Proofs.YtneblkdkhlgmcaaDoor
open Go.ChangeShapes Go.WideShapes Go.ChangeAt Go.RowKit
set_option maxRecDepth 100000
set_option linter.unusedVariables false
set_option linter.unusedSimpArgs false
def outT (G : Gs) (t : Tx) (x : Nd) : List UInt8 := bL G.outer ++ ([32] ++ (if x.kind = 24 ∨ x.kind = 25 ∨ x.kind = 26 then rdT (t.F x) else t.F x))
set_option maxHeartbeats 4000000 in
theorem outer77 {n m : Nat} {w0 : World} {B p : Nat} {G : Gs} (IF : CF n m w0 B p G) (rt : ByteArray) (bg : Bool) (out : List UInt8) (w : World) (x : Nd) (v : Value) (hx : NdIn m n 0 w0 x v) (hk : okN m true x) (hs : sndA x) (h : St w0 B w p G rt bg out) (hl : out.length + 1 + (outT G (TX G m) x).length ≤ 140737488355328) :
    Calls Tryd.prog 77 #[.pointer (some ⟨p, 0, none⟩), v] w (GvT B p G rt true (out ++ (sep bg ++ outT G (TX G m) x)) w) := by
  obtain ⟨v1, v2, v3, rfl, hv1⟩ := nd_form hx
  have HF := hide (fun bg out w (hst : St w0 B w p G rt bg out) hl => IF rt bg out w x _ hx hk hs hst hl)
  have hse := sep_le bg
  unfold outT at hl ⊢
  obtain ⟨FT, hFT⟩ : ∃ FT, (TX G m).F x = FT := ⟨_, rfl⟩
  rw [hFT] at HF hl ⊢
  generalize x.kind = k at *
  generalize x.op = o at *
  generalize x.name = nm at *
  generalize x.pos = ps at *
  have hob : (bL G.outer).length = G.outer.size := by simp [bL]
  clear hFT hx hk hs IF
  obtain ⟨W1, hW1⟩ : ∃ W1, w.alloc (.cells (sv (k) (o) nm (v1) (v2) (v3) (ps)) 34) = W1 := ⟨_, rfl⟩
  have hb1 : Below w.heap.size w W1 := by rw [← hW1]; exact alloc_one _ _
  have s1 : W1.heap.size = w.heap.size + 1 := by rw [← hW1]; simp
  have hbx : W1.heap[w.heap.size]? = some (.cells (sv (k) (o) nm (v1) (v2) (v3) (ps)) 34 (0, 0)) := by rw [← hW1]; exact heap_alloc_new w _
  have hql : w.heap.size ≠ p := Nat.ne_of_gt h.lt
  have H1 := hide (h.next hb1)
  have HK1 := hide (h.wkn hb1)
  have HB1 := hide hbx
  have k0 : W1.cell? ⟨w.heap.size, 0, none⟩ = some (.int .i64 k) := (Lib.cell_of_heap hbx 0).trans rfl
  have k1 : W1.cell? ⟨w.heap.size, 1, none⟩ = some (.int .i64 o) := (Lib.cell_of_heap hbx 1).trans rfl
  have k2 : W1.cell? ⟨w.heap.size, 2, none⟩ = some (.string nm) := (Lib.cell_of_heap hbx 2).trans rfl
  have k3 : W1.cell? ⟨w.heap.size, 3, none⟩ = some (v1) := (Lib.cell_of_heap hbx 3).trans rfl
  have k4 : W1.cell? ⟨w.heap.size, 4, none⟩ = some (v2) := (Lib.cell_of_heap hbx 4).trans rfl
  have k5 : W1.cell? ⟨w.heap.size, 5, none⟩ = some (v3) := (Lib.cell_of_heap hbx 5).trans rfl
  have k6 : W1.cell? ⟨w.heap.size, 6, none⟩ = some (.int .i64 ps) := (Lib.cell_of_heap hbx 6).trans rfl
  clear hb1 hbx
  obtain ⟨aw, vw, hw⟩ := H1.out.wr
  have c3 : W1.cell? ⟨p, 3, none⟩ = some (.string G.outer) := hw.all.1.1
  have HP := hide (H1.out.put G.outer (by simp only [List.length_append] at hl; omega))
  rw [s1] at HP
  clear hw h
  by_cases hc : k = 24 ∨ k = 25 ∨ k = 26
  · rw [if_pos hc] at hl ⊢
    have hlr : (rdT FT).length = FT.length + 4 := by simp [rdT]
    simp only [List.length_append, List.length_cons, List.length_nil] at hl
    go_enter Tryd.func77, Tryd.ntmps77
    go_wp2_with fail
    refine HP.out.mono ?_
    rintro e w2 g2
    have H2 := hide (H1.out.got g2)
    have HK2 := hide (HK1.out.trans g2.2.2)
    have hb2 := g2.2.2.box HB1.out hql (by decide)
    have HB2 := hide hb2
    obtain rfl := g2.1
    clear g2 k0 k1 k2 k3 k4 k5 k6 c3 HP
    have k0 : w2.cell? ⟨w.heap.size, 0, none⟩ = some (.int .i64 k) := (Lib.cell_of_heap hb2 0).trans rfl
    have k1 : w2.cell? ⟨w.heap.size, 1, none⟩ = some (.int .i64 o) := (Lib.cell_of_heap hb2 1).trans rfl
    have k2 : w2.cell? ⟨w.heap.size, 2, none⟩ = some (.string nm) := (Lib.cell_of_heap hb2 2).trans rfl
    have k3 : w2.cell? ⟨w.heap.size, 3, none⟩ = some (v1) := (Lib.cell_of_heap hb2 3).trans rfl
    have k4 : w2.cell? ⟨w.heap.size, 4, none⟩ = some (v2) := (Lib.cell_of_heap hb2 4).trans rfl
    have k5 : w2.cell? ⟨w.heap.size, 5, none⟩ = some (v3) := (Lib.cell_of_heap hb2 5).trans rfl
    have k6 : w2.cell? ⟨w.heap.size, 6, none⟩ = some (.int .i64 ps) := (Lib.cell_of_heap hb2 6).trans rfl
    clear hb2
    have HC := hide (brack63_61 H2.out FT k o nm v1 v2 v3 hv1 ps (by simp only [List.length_append, hob, hlr, sep_true, List.length_cons, List.length_nil]; omega) (fun w1 out1 hst hb => HF.out true out1 w1 hst hb))
    rcases hc with rfl | rfl | rfl
    · go_wp2_with fail
      refine HC.out.mono ?_
      rintro e w9 ⟨rfl, hx9, hk9⟩
      have HF9 := hide (And.intro hx9 (HK2.out.trans hk9))
      clear hx9 hk9 HC 
      go_wp2
      go_end0
      refine ⟨rfl, ?_, HF9.out.2⟩
      have hx := HF9.out.1
      simpa [sep, rdT, bL, str, List.append_assoc] using hx
    · go_wp2_with fail
      refine HC.out.mono ?_
      rintro e w9 ⟨rfl, hx9, hk9⟩
      have HF9 := hide (And.intro hx9 (HK2.out.trans hk9))
      clear hx9 hk9 HC 
      go_wp2
      go_end0
      refine ⟨rfl, ?_, HF9.out.2⟩
      have hx := HF9.out.1
      simpa [sep, rdT, bL, str, List.append_assoc] using hx
    · go_wp2_with fail
      refine HC.out.mono ?_
      rintro e w9 ⟨rfl, hx9, hk9⟩
      have HF9 := hide (And.intro hx9 (HK2.out.trans hk9))
      clear hx9 hk9 HC 
      go_wp2
      go_end0
      refine ⟨rfl, ?_, HF9.out.2⟩
      have hx := HF9.out.1
      simpa [sep, rdT, bL, str, List.append_assoc] using hx
  · rw [if_neg hc] at hl ⊢
    simp only [List.length_append, List.length_cons, List.length_nil] at hl
    have n1 : (k == 24) = false := beq_eq_false_iff_ne.2 (fun h => hc (Or.inl h))
    have n2 : (k == 25) = false := beq_eq_false_iff_ne.2 (fun h => hc (Or.inr (Or.inl h)))
    have n3 : (k == 26) = false := beq_eq_false_iff_ne.2 (fun h => hc (Or.inr (Or.inr h)))
    go_enter Tryd.func77, Tryd.ntmps77
    go_wp2_with fail
    refine HP.out.mono ?_
    rintro e w2 g2
    have H2 := hide (H1.out.got g2)
    have HK2 := hide (HK1.out.trans g2.2.2)
    have hb2 := g2.2.2.box HB1.out hql (by decide)
    have HB2 := hide hb2
    obtain rfl := g2.1
    clear g2 k0 k1 k2 k3 k4 k5 k6 c3 HP
    have k0 : w2.cell? ⟨w.heap.size, 0, none⟩ = some (.int .i64 k) := (Lib.cell_of_heap hb2 0).trans rfl
    have k1 : w2.cell? ⟨w.heap.size, 1, none⟩ = some (.int .i64 o) := (Lib.cell_of_heap hb2 1).trans rfl
    have k2 : w2.cell? ⟨w.heap.size, 2, none⟩ = some (.string nm) := (Lib.cell_of_heap hb2 2).trans rfl
    have k3 : w2.cell? ⟨w.heap.size, 3, none⟩ = some (v1) := (Lib.cell_of_heap hb2 3).trans rfl
    have k4 : w2.cell? ⟨w.heap.size, 4, none⟩ = some (v2) := (Lib.cell_of_heap hb2 4).trans rfl
    have k5 : w2.cell? ⟨w.heap.size, 5, none⟩ = some (v3) := (Lib.cell_of_heap hb2 5).trans rfl
    have k6 : w2.cell? ⟨w.heap.size, 6, none⟩ = some (.int .i64 ps) := (Lib.cell_of_heap hb2 6).trans rfl
    clear hb2
    have HC := hide (HF.out true _ w2 H2.out (by simp only [List.length_append, hob]; omega))
    go_wp2_with fail
    refine HC.out.mono ?_
    rintro e w9 ⟨rfl, hx9, hk9⟩
    have HF9 := hide (And.intro hx9 (HK2.out.trans hk9))
    clear hx9 hk9 HC 
    go_wp2
    go_end0
    refine ⟨rfl, ?_, HF9.out.2⟩
    have hx := HF9.out.1
    simpa [sep, rdT, bL, str, List.append_assoc] using hx
/-- Another name for the right argument. -/
theorem St.setRt {w0 : World} {B : Nat} {w : World} {p : Nat} {G : Gs} {rt : ByteArray} {bg : Bool} {out : List UInt8} (h : St w0 B w p G rt bg out) (r : ByteArray) : St w0 B (w.setCell ⟨p, 14, none⟩ (.string r)) p G r bg out ∧ Wk B p w (w.setCell ⟨p, 14, none⟩ (.string r)) := by
  obtain ⟨a, v, hw⟩ := h.wr
  have hk := Wr.wk_set (w := w) hw.hB 14 (.string r)
  exact ⟨⟨h.am, h.old.trans (hk.bel.mono h.am.hB), a, v, ⟨hw.hB, hw.ha, by rw [heap_set hw.blk]; rfl, hw.own_set 14 _⟩⟩, hk⟩
def lamR (G : Gs) (k : Int) : ByteArray := if k = 22 ∧ G.lone = true then G.left else G.right
def lamT (G : Gs) (t : Tx) (x : Nd) : List UInt8 := bL G.opn ++ ([32] ++ t.E (lamR G x.kind) (kp x 0)) ++ ([32] ++ bL G.cls)
set_option maxHeartbeats 4000000 in
theorem lambda76 {n m : Nat} {w0 : World} {B p : Nat} {G : Gs} (IE : CE n m w0 B p G) (rt : ByteArray) (bg : Bool) (out : List UInt8) (w : World) (x : Nd) (v : Value) (hx : NdIn (m + 1) n 0 w0 x v) (hk : okN (m + 1) true x) (hkk : x.kind = 22 ∨ x.kind = 23) (hs : sndA x) (h : St w0 B w p G rt bg out) (hl : out.length + 1 + (lamT G (TX G m) x).length ≤ 140737488355328) :
    Calls Tryd.prog 76 #[.pointer (some ⟨p, 0, none⟩), v] w (GvT B p G rt true (out ++ (sep bg ++ lamT G (TX G m) x)) w) := by
  obtain ⟨v1, v2, ak, ck, rfl, hv1, -, hkid⟩ := nd_kids hx
  have hse := sep_le bg
  have hkl : x.kids.length = 1 := by have := hk.1; rcases hkk with h | h <;> (rw [h] at this; unfold arK at this; simp at this; omega)
  obtain ⟨b, off, u1, u2, u3, rfl, hnk, h7⟩ := hkid 0 (by omega)
  have hok := hk.2.2.2 0 (by omega)
  have hfp : fnP x.kind 0 = false := by rcases hkk with h | h <;> (rw [h]; rfl)
  rw [hfp] at hok
  have hsk := hs.kid (i := 0) (by omega)
  have H7 : Hid (∀ W, Below w0.heap.size w0 W → Sv7 W b off (kp x 0).kind (kp x 0).op (kp x 0).name u1 u2 u3 (kp x 0).pos) := hide (by simpa only [Nat.zero_mul, Nat.add_zero] using h7)
  have HE := hide (fun out w (hst : St w0 B w p G (lamR G x.kind) true out) hl => IE (lamR G x.kind) true out w (kp x 0) _ hnk hok hsk hst hl)
  unfold lamT at hl ⊢
  obtain ⟨ET, hET⟩ : ∃ ET, (TX G m).E (lamR G x.kind) (kp x 0) = ET := ⟨_, rfl⟩
  rw [hET] at HE hl ⊢
  rw [hkl]
  simp only [List.length_append, List.length_cons, List.length_nil] at hl
  have hob : (bL G.opn).length = G.opn.size := by simp [bL]
  have hcb : (bL G.cls).length = G.cls.size := by simp [bL]
  have HRR : Hid ((x.kind = 22 ∧ G.lone = true → lamR G x.kind = G.left) ∧ (¬ (x.kind = 22 ∧ G.lone = true) → lamR G x.kind = G.right)) := hide ⟨fun h => if_pos h, fun h => if_neg h⟩
  obtain ⟨R, hR⟩ : ∃ R, lamR G x.kind = R := ⟨_, rfl⟩
  rw [hR] at HE HRR
  generalize (kp x 0).kind = k' at *
  generalize (kp x 0).op = o' at *
  generalize (kp x 0).name = nm' at *
  generalize (kp x 0).pos = ps' at *
  generalize x.kind = k at *
  generalize x.op = o at *
  generalize x.name = nm at *
  generalize x.pos = ps at *
  clear hET hx hk hs IE hnk h7 hok hsk hfp hkl hkid hR
  obtain ⟨W1, hW1⟩ : ∃ W1, w.alloc (.cells (sv (k) (o) nm (v1) (v2) (.slice (some ⟨b, off, none⟩) 1 ck) (ps)) 34) = W1 := ⟨_, rfl⟩
  have hb1 : Below w.heap.size w W1 := by rw [← hW1]; exact alloc_one _ _
  have s1 : W1.heap.size = w.heap.size + 1 := by rw [← hW1]; simp
  have hbx : W1.heap[w.heap.size]? = some (.cells (sv (k) (o) nm (v1) (v2) (.slice (some ⟨b, off, none⟩) 1 ck) (ps)) 34 (0, 0)) := by rw [← hW1]; exact heap_alloc_new w _
  have hql : w.heap.size ≠ p := Nat.ne_of_gt h.lt
  have H1 := hide (h.next hb1)
  have HK1 := hide (h.wkn hb1)
  have HB1 := hide hbx
  have k0 : W1.cell? ⟨w.heap.size, 0, none⟩ = some (.int .i64 k) := (Lib.cell_of_heap hbx 0).trans rfl
  have k1 : W1.cell? ⟨w.heap.size, 1, none⟩ = some (.int .i64 o) := (Lib.cell_of_heap hbx 1).trans rfl
  have k2 : W1.cell? ⟨w.heap.size, 2, none⟩ = some (.string nm) := (Lib.cell_of_heap hbx 2).trans rfl
  have k3 : W1.cell? ⟨w.heap.size, 3, none⟩ = some (v1) := (Lib.cell_of_heap hbx 3).trans rfl
  have k4 : W1.cell? ⟨w.heap.size, 4, none⟩ = some (v2) := (Lib.cell_of_heap hbx 4).trans rfl
  have k5 : W1.cell? ⟨w.heap.size, 5, none⟩ = some (.slice (some ⟨b, off, none⟩) 1 ck) := (Lib.cell_of_heap hbx 5).trans rfl
  have k6 : W1.cell? ⟨w.heap.size, 6, none⟩ = some (.int .i64 ps) := (Lib.cell_of_heap hbx 6).trans rfl
  clear hb1 hbx
  obtain ⟨aw, vw, hw⟩ := H1.out.wr
  obtain ⟨⟨-, -, c5, c6, c7, c8⟩, ⟨-, -, c12, c14⟩, -⟩ := hw.all
  have f14 := hw.frozen 14
  obtain ⟨LO, hLO⟩ : ∃ LO, G.lone = LO := ⟨_, rfl⟩
  rw [hLO] at c12 HRR
  have H2 := hide (H1.out.setRt G.right)
  have hpl := H1.out.lt
  clear hw h hLO
  go_enter Tryd.func76, Tryd.ntmps76
  go_upto_region 3 with fail
  obtain ⟨W2, hW2⟩ : ∃ W2, W1.setCell ⟨p, 14, none⟩ (.string G.right) = W2 := ⟨_, rfl⟩
  rw [hW2] at H2
  try rw [hW2]
  have HK2 := hide (HK1.out.trans H2.out.2)
  have hb2 := H2.out.2.box HB1.out hql (by decide)
  have HB2 := hide hb2
  have H2 := hide H2.out.1
  obtain ⟨aw2, vw2, hw2⟩ := H2.out.wr
  have q7 : W2.cell? ⟨p, 7, none⟩ = some (.string G.left) := hw2.all.1.2.2.2.2.1
  have q12 : W2.cell? ⟨p, 12, none⟩ = some (.bool G.lone) := hw2.all.2.1.2.2.1
  have q14 : W2.cell? ⟨p, 14, none⟩ = some (.string G.right) := hw2.all.2.1.2.2.2
  have f14' := hw2.frozen 14
  have hp2 := H2.out.lt
  have hLO : G.lone = LO := by
    have := hw2.all.2.1.2.2.1
    have e1 := H1.out.wr
    obtain ⟨x1, x2, x3⟩ := e1
    have e2 := x3.all.2.1.2.2.1
    rw [c12] at e2
    cases e2
    rfl
  rw [hLO] at q12
  clear hw2 hW2 c5 c6 c7 c8 c12 c14 f14 hpl hLO k0 k1 k2 k3 k4 k5 k6
  have k0 : W2.cell? ⟨w.heap.size, 0, none⟩ = some (.int .i64 k) := (Lib.cell_of_heap hb2 0).trans rfl
  have k1 : W2.cell? ⟨w.heap.size, 1, none⟩ = some (.int .i64 o) := (Lib.cell_of_heap hb2 1).trans rfl
  have k2 : W2.cell? ⟨w.heap.size, 2, none⟩ = some (.string nm) := (Lib.cell_of_heap hb2 2).trans rfl
  have k3 : W2.cell? ⟨w.heap.size, 3, none⟩ = some (v1) := (Lib.cell_of_heap hb2 3).trans rfl
  have k4 : W2.cell? ⟨w.heap.size, 4, none⟩ = some (v2) := (Lib.cell_of_heap hb2 4).trans rfl
  have k5 : W2.cell? ⟨w.heap.size, 5, none⟩ = some (.slice (some ⟨b, off, none⟩) 1 ck) := (Lib.cell_of_heap hb2 5).trans rfl
  have k6 : W2.cell? ⟨w.heap.size, 6, none⟩ = some (.int .i64 ps) := (Lib.cell_of_heap hb2 6).trans rfl
  clear hb2
  by_cases hc : k = 22 ∧ LO = true
  · obtain ⟨rfl, rfl⟩ := hc
    obtain rfl := HRR.out.1 ⟨rfl, rfl⟩
    have H3 := hide (H2.out.setRt G.left)
    go_upto_region 5 with fail
    obtain ⟨W3, hW3⟩ : ∃ W3, W2.setCell ⟨p, 14, none⟩ (.string G.left) = W3 := ⟨_, rfl⟩
    rw [hW3] at H3
    try rw [hW3]
    have HK3 := hide (HK2.out.trans H3.out.2)
    have hb3 := H3.out.2.box HB2.out hql (by decide)
    have HB3 := hide hb3
    have H3 := hide H3.out.1
    clear q7 q12 q14 f14' hp2 hb3 hW3 H1 HK1 HB1 HRR k0 k1 k2 k3 k4 k5 k6
    obtain ⟨awj, vwj, hwj⟩ := H3.out.wr
    have d5 : W3.cell? ⟨p, 5, none⟩ = some (.string G.opn) := hwj.all.1.2.2.1
    have HP := hide (H3.out.put G.opn (by omega))
    clear hwj H2 HK2 HB2
    go_wp2_with fail
    refine HP.out.mono ?_
    rintro e w4 g4
    have H4 := hide (H3.out.got g4)
    have HK4 := hide (HK3.out.trans g4.2.2)
    have hb4 := g4.2.2.box HB3.out hql (by decide)
    have HB4 := hide hb4
    obtain rfl := g4.1
    clear g4 HP d5
    have k0 : w4.cell? ⟨w.heap.size, 0, none⟩ = some (.int .i64 22) := (Lib.cell_of_heap hb4 0).trans rfl
    have k1 : w4.cell? ⟨w.heap.size, 1, none⟩ = some (.int .i64 o) := (Lib.cell_of_heap hb4 1).trans rfl
    have k2 : w4.cell? ⟨w.heap.size, 2, none⟩ = some (.string nm) := (Lib.cell_of_heap hb4 2).trans rfl
    have k3 : w4.cell? ⟨w.heap.size, 3, none⟩ = some (v1) := (Lib.cell_of_heap hb4 3).trans rfl
    have k4 : w4.cell? ⟨w.heap.size, 4, none⟩ = some (v2) := (Lib.cell_of_heap hb4 4).trans rfl
    have k5 : w4.cell? ⟨w.heap.size, 5, none⟩ = some (.slice (some ⟨b, off, none⟩) 1 ck) := (Lib.cell_of_heap hb4 5).trans rfl
    have k6 : w4.cell? ⟨w.heap.size, 6, none⟩ = some (.int .i64 ps) := (Lib.cell_of_heap hb4 6).trans rfl
    clear hb4
    obtain ⟨y0, y1, y2, y3, y4, y5, y6⟩ := H7.out w4 H4.out.old
    have HC := hide (HE.out _ w4 H4.out (by simp only [List.length_append]; omega))
    go_wp2_with fail
    refine HC.out.mono ?_
    rintro e w5 g5
    have H5 := hide (H4.out.got g5)
    have HK5 := hide (HK4.out.trans g5.2.2)
    have hb5 := g5.2.2.box HB4.out hql (by decide)
    have HB5 := hide hb5
    obtain rfl := g5.1
    clear g5 HC k0 k1 k2 k3 k4 k5 k6 y0 y1 y2 y3 y4 y5 y6 HE
    clear hb5
    obtain ⟨awk, vwk, hwk⟩ := H5.out.wr
    have d6 : w5.cell? ⟨p, 6, none⟩ = some (.string G.cls) := hwk.all.1.2.2.2.1
    have HP := hide (H5.out.put G.cls (by simp only [List.length_append, sep_true, List.length_cons, List.length_nil]; omega))
    clear hwk
    go_wp2_with fail
    refine HP.out.mono ?_
    rintro e w6 g6
    have H6 := hide (H5.out.got g6)
    have HK6 := hide (HK5.out.trans g6.2.2)
    have hb6 := g6.2.2.box HB5.out hql (by decide)
    have HB6 := hide hb6
    obtain rfl := g6.1
    clear g6 HP d6
    clear hb6
    obtain ⟨awl, vwl, hwl⟩ := H6.out.wr
    have f14 := hwl.frozen 14
    have e14 := hwl.all.2.1.2.2.2
    have HZ := hide (H6.out.setRt rt)
    have hpz := H6.out.lt
    clear hwl
    go_wp2
    go_end0
    refine ⟨rfl, ?_, HK6.out.trans HZ.out.2⟩
    have hx := HZ.out.1.wr
    simpa [sep, rdT, bL, str, List.append_assoc] using hx
  · obtain rfl := HRR.out.2 hc
    rcases hkk with rfl | rfl
    · have hLF : LO = false := by cases LO with
        | false => rfl
        | true => exact absurd ⟨rfl, rfl⟩ hc
      subst hLF
      go_upto_region 5 with fail
      clear q7 q12 q14 f14' hp2 H1 HK1 HB1 HRR k0 k1 k2 k3 k4 k5 k6
      obtain ⟨awj, vwj, hwj⟩ := H2.out.wr
      have d5 : W2.cell? ⟨p, 5, none⟩ = some (.string G.opn) := hwj.all.1.2.2.1
      have HP := hide (H2.out.put G.opn (by omega))
      clear hwj 
      go_wp2_with fail
      refine HP.out.mono ?_
      rintro e w3 g3
      have H3 := hide (H2.out.got g3)
      have HK3 := hide (HK2.out.trans g3.2.2)
      have hb3 := g3.2.2.box HB2.out hql (by decide)
      have HB3 := hide hb3
      obtain rfl := g3.1
      clear g3 HP d5
      have k0 : w3.cell? ⟨w.heap.size, 0, none⟩ = some (.int .i64 22) := (Lib.cell_of_heap hb3 0).trans rfl
      have k1 : w3.cell? ⟨w.heap.size, 1, none⟩ = some (.int .i64 o) := (Lib.cell_of_heap hb3 1).trans rfl
      have k2 : w3.cell? ⟨w.heap.size, 2, none⟩ = some (.string nm) := (Lib.cell_of_heap hb3 2).trans rfl
      have k3 : w3.cell? ⟨w.heap.size, 3, none⟩ = some (v1) := (Lib.cell_of_heap hb3 3).trans rfl
      have k4 : w3.cell? ⟨w.heap.size, 4, none⟩ = some (v2) := (Lib.cell_of_heap hb3 4).trans rfl
      have k5 : w3.cell? ⟨w.heap.size, 5, none⟩ = some (.slice (some ⟨b, off, none⟩) 1 ck) := (Lib.cell_of_heap hb3 5).trans rfl
      have k6 : w3.cell? ⟨w.heap.size, 6, none⟩ = some (.int .i64 ps) := (Lib.cell_of_heap hb3 6).trans rfl
      clear hb3
      obtain ⟨y0, y1, y2, y3, y4, y5, y6⟩ := H7.out w3 H3.out.old
      have HC := hide (HE.out _ w3 H3.out (by simp only [List.length_append]; omega))
      go_wp2_with fail
      refine HC.out.mono ?_
      rintro e w4 g4
      have H4 := hide (H3.out.got g4)
      have HK4 := hide (HK3.out.trans g4.2.2)
      have hb4 := g4.2.2.box HB3.out hql (by decide)
      have HB4 := hide hb4
      obtain rfl := g4.1
      clear g4 HC k0 k1 k2 k3 k4 k5 k6 y0 y1 y2 y3 y4 y5 y6 HE
      clear hb4
      obtain ⟨awk, vwk, hwk⟩ := H4.out.wr
      have d6 : w4.cell? ⟨p, 6, none⟩ = some (.string G.cls) := hwk.all.1.2.2.2.1
      have HP := hide (H4.out.put G.cls (by simp only [List.length_append, sep_true, List.length_cons, List.length_nil]; omega))
      clear hwk
      go_wp2_with fail
      refine HP.out.mono ?_
      rintro e w5 g5
      have H5 := hide (H4.out.got g5)
      have HK5 := hide (HK4.out.trans g5.2.2)
      have hb5 := g5.2.2.box HB4.out hql (by decide)
      have HB5 := hide hb5
      obtain rfl := g5.1
      clear g5 HP d6
      clear hb5
      obtain ⟨awl, vwl, hwl⟩ := H5.out.wr
      have f14 := hwl.frozen 14
      have e14 := hwl.all.2.1.2.2.2
      have HZ := hide (H5.out.setRt rt)
      have hpz := H5.out.lt
      clear hwl
      go_wp2
      go_end0
      refine ⟨rfl, ?_, HK5.out.trans HZ.out.2⟩
      have hx := HZ.out.1.wr
      simpa [sep, rdT, bL, str, List.append_assoc] using hx
    · go_upto_region 5 with fail
      clear q7 q12 q14 f14' hp2 H1 HK1 HB1 HRR k0 k1 k2 k3 k4 k5 k6
      obtain ⟨awj, vwj, hwj⟩ := H2.out.wr
      have d5 : W2.cell? ⟨p, 5, none⟩ = some (.string G.opn) := hwj.all.1.2.2.1
      have HP := hide (H2.out.put G.opn (by omega))
      clear hwj 
      go_wp2_with fail
      refine HP.out.mono ?_
      rintro e w3 g3
      have H3 := hide (H2.out.got g3)
      have HK3 := hide (HK2.out.trans g3.2.2)
      have hb3 := g3.2.2.box HB2.out hql (by decide)
      have HB3 := hide hb3
      obtain rfl := g3.1
      clear g3 HP d5
      have k0 : w3.cell? ⟨w.heap.size, 0, none⟩ = some (.int .i64 23) := (Lib.cell_of_heap hb3 0).trans rfl
      have k1 : w3.cell? ⟨w.heap.size, 1, none⟩ = some (.int .i64 o) := (Lib.cell_of_heap hb3 1).trans rfl
      have k2 : w3.cell? ⟨w.heap.size, 2, none⟩ = some (.string nm) := (Lib.cell_of_heap hb3 2).trans rfl
      have k3 : w3.cell? ⟨w.heap.size, 3, none⟩ = some (v1) := (Lib.cell_of_heap hb3 3).trans rfl
      have k4 : w3.cell? ⟨w.heap.size, 4, none⟩ = some (v2) := (Lib.cell_of_heap hb3 4).trans rfl
      have k5 : w3.cell? ⟨w.heap.size, 5, none⟩ = some (.slice (some ⟨b, off, none⟩) 1 ck) := (Lib.cell_of_heap hb3 5).trans rfl
      have k6 : w3.cell? ⟨w.heap.size, 6, none⟩ = some (.int .i64 ps) := (Lib.cell_of_heap hb3 6).trans rfl
      clear hb3
      obtain ⟨y0, y1, y2, y3, y4, y5, y6⟩ := H7.out w3 H3.out.old
      have HC := hide (HE.out _ w3 H3.out (by simp only [List.length_append]; omega))
      go_wp2_with fail
      refine HC.out.mono ?_
      rintro e w4 g4
      have H4 := hide (H3.out.got g4)
      have HK4 := hide (HK3.out.trans g4.2.2)
      have hb4 := g4.2.2.box HB3.out hql (by decide)
      have HB4 := hide hb4
      obtain rfl := g4.1
      clear g4 HC k0 k1 k2 k3 k4 k5 k6 y0 y1 y2 y3 y4 y5 y6 HE
      clear hb4
      obtain ⟨awk, vwk, hwk⟩ := H4.out.wr
      have d6 : w4.cell? ⟨p, 6, none⟩ = some (.string G.cls) := hwk.all.1.2.2.2.1
      have HP := hide (H4.out.put G.cls (by simp only [List.length_append, sep_true, List.length_cons, List.length_nil]; omega))
      clear hwk
      go_wp2_with fail
      refine HP.out.mono ?_
      rintro e w5 g5
      have H5 := hide (H4.out.got g5)
      have HK5 := hide (HK4.out.trans g5.2.2)
      have hb5 := g5.2.2.box HB4.out hql (by decide)
      have HB5 := hide hb5
      obtain rfl := g5.1
      clear g5 HP d6
      clear hb5
      obtain ⟨awl, vwl, hwl⟩ := H5.out.wr
      have f14 := hwl.frozen 14
      have e14 := hwl.all.2.1.2.2.2
      have HZ := hide (H5.out.setRt rt)
      have hpz := H5.out.lt
      clear hwl
      go_wp2
      go_end0
      refine ⟨rfl, ?_, HK5.out.trans HZ.out.2⟩
      have hx := HZ.out.1.wr
      simpa [sep, rdT, bL, str, List.append_assoc] using hx
theorem nd_slices {m n lo : Nat} {w : World} {x : Nd} {k o : Int} {nm : ByteArray} {u1 u2 u3 : Value} {ps : Int} (h : NdIn m n lo w x (.agg (sv k o nm u1 u2 u3 ps))) : (∃ a l c, u1 = .slice a l c) ∧ (∃ a l c, u2 = .slice a l c) ∧ ∃ a l c, u3 = .slice a l c := by
  cases m with
  | zero => exact h.elim
  | succ m =>
    obtain ⟨a1, c1, a2, c2, ak, ck, hv, -⟩ := h
    unfold ndV at hv
    simp only [Value.agg.injEq, Array.mk.injEq, List.cons.injEq] at hv
    exact ⟨⟨_, _, _, hv.2.2.2.1⟩, ⟨_, _, _, hv.2.2.2.2.1⟩, ⟨_, _, _, hv.2.2.2.2.2.1⟩⟩
/-- The first parts, a blank ahead of each. -/
def trT (F : Nd → List UInt8) (x : Nd) (j : Nat) : List UInt8 := (List.range j).flatMap fun i => [32] ++ F (kp x i)
theorem trT_step (F : Nd → List UInt8) (x : Nd) (j : Nat) : trT F x (j + 1) = trT F x j ++ ([32] ++ F (kp x j)) := by
  unfold trT
  rw [List.range_succ, List.flatMap_append]
  simp
theorem trT_le (F : Nd → List UInt8) (x : Nd) {j k : Nat} (h : j ≤ k) : (trT F x j).length ≤ (trT F x k).length := by
  induction h with
  | refl => exact Nat.le_refl _
  | step _ ih => rw [trT_step, List.length_append]; omega
set_option maxHeartbeats 4000000 in
theorem train78 {n m : Nat} {w0 : World} {B p : Nat} {G : Gs} (IF : CF n m w0 B p G) (rt : ByteArray) (bg : Bool) (out : List UInt8) (w : World) (x : Nd) (ak : Option Addr) (KL ck : Nat) (hKL : KL ≤ 1000)
    (hkid : ∀ j, j < KL → ∃ b off u1 u2 u3, ak = some ⟨b, off, none⟩ ∧ NdIn m n 0 w0 (kp x j) (.agg (sv (kp x j).kind (kp x j).op (kp x j).name u1 u2 u3 (kp x j).pos)) ∧ ∀ W, Below w0.heap.size w0 W → Sv7 W b (off + j * 7) (kp x j).kind (kp x j).op (kp x j).name u1 u2 u3 (kp x j).pos)
    (hok : ∀ j, j < KL → okN m true (kp x j)) (hs : ∀ j, j < KL → sndA (kp x j)) (h : St w0 B w p G rt bg out) (hl : out.length + 1 + (trT (TX G m).F x KL).length + 3 ≤ 140737488355328) :
    Calls Tryd.prog 78 #[.pointer (some ⟨p, 0, none⟩), .slice ak KL ck] w (GvT B p G rt true (out ++ (sep bg ++ (40 :: (trT (TX G m).F x KL ++ [32, 41])))) w) := by
  have hse := sep_le bg
  have HKID := hide hkid
  have HF := hide (fun j (hj : j < KL) out w (hst : St w0 B w p G rt true out) u1 u2 u3 (hn : NdIn m n 0 w0 (kp x j) (.agg (sv (kp x j).kind (kp x j).op (kp x j).name u1 u2 u3 (kp x j).pos))) hl => IF rt true out w (kp x j) _ hn (hok j hj) (hs j hj) hst hl)
  have HST := hide (fun j => trT_step (TX G m).F x j)
  have HLE := hide (fun j (hj : j ≤ KL) => trT_le (TX G m).F x hj)
  have hs1 : (⟨#[40]⟩ : ByteArray).size = 1 := rfl
  have hs2 : (⟨#[41]⟩ : ByteArray).size = 1 := rfl
  have HP := hide (h.put ⟨#[40]⟩ (by omega))
  have H0 := hide h
  have HT0 : Hid (trT (TX G m).F x 0 = []) := rfl
  obtain ⟨TR, hTR⟩ : ∃ TR, (fun j => trT (TX G m).F x j) = TR := ⟨_, rfl⟩
  have HTR : ∀ j, trT (TX G m).F x j = TR j := fun j => by rw [← hTR]
  simp only [HTR] at HST HLE hl HT0 ⊢
  clear hkid hok hs IF h hTR HTR
  go_enter Tryd.func78, Tryd.ntmps78
  go_wp2_with fail
  refine HP.out.mono ?_
  rintro e w1 g1
  have H1 := hide (H0.out.got g1)
  have HK1 := hide g1.2.2
  obtain rfl := g1.1
  clear g1 HP
  go_wp2
  go_loopw [11] (fun i wr => ∃ j : Nat, j ≤ KL ∧ i = .int .i64 j ∧ St w0 B wr p G rt true (out ++ (sep bg ++ [40]) ++ TR j) ∧ Wk B p w wr) (fun i _ => KL - (match i with | .int _ z => z.toNat | _ => 0))
  case atStart => exact ⟨0, Nat.zero_le _, rfl, by rw [HT0.out, List.append_nil]; exact H1.out, HK1.out⟩
  case round =>
    obtain ⟨j, hj, rfl, hst, hwk⟩ := hrel
    have HS := hide hst
    have HW := hide hwk
    clear hst hwk
    by_cases hlt : j < KL
    · obtain ⟨b, off, u1, u2, u3, rfl, hn, h7⟩ := HKID.out j hlt
      obtain ⟨⟨d1, l1, e1, rfl⟩, ⟨d2, l2, e2, rfl⟩, ⟨d3, l3, e3, rfl⟩⟩ := nd_slices hn
      obtain ⟨y0, y1, y2, y3, y4, y5, y6⟩ := h7 wr HS.out.old
      have hle := HLE.out (j + 1) hlt
      rw [HST.out j, List.length_append, List.length_append] at hle
      have hb1 := alloc_one wr (.cells (sv (kp x j).kind (kp x j).op (kp x j).name (.slice d1 l1 e1) (.slice d2 l2 e2) (.slice d3 l3 e3) (kp x j).pos) 34)
      have HC := hide (HF.out j hlt _ _ (HS.out.next hb1) _ _ _ hn (by simp only [List.length_append, List.length_cons, List.length_nil] at hle ⊢; omega))
      have HKB := hide (HW.out.trans (HS.out.wkn hb1))
      have HS1 := hide (HS.out.next hb1)
      have HE := hide (HST.out j)
      obtain ⟨FT, hFT⟩ : ∃ FT, (TX G m).F (kp x j) = FT := ⟨_, rfl⟩
      rw [hFT] at HC HE
      generalize (kp x j).kind = k' at *
      generalize (kp x j).op = o' at *
      generalize (kp x j).name = nm' at *
      generalize (kp x j).pos = ps' at *
      clear hn h7 hb1 hFT hle HF HKID HST HLE HS HW
      go_wp2_with fail
      refine HC.out.mono ?_
      rintro e w2 g2
      have H2 := hide (HS1.out.got g2)
      have HK2 := hide (HKB.out.trans g2.2.2)
      obtain rfl := g2.1
      clear g2 HC y0 y1 y2 y3 y4 y5 y6
      go_wp2
      refine ⟨⟨j + 1, by omega, by go_num, ?_, HK2.out⟩, ?_⟩
      · have hx := H2.out
        rw [HE.out]
        simpa [sep, List.append_assoc] using hx
      · show KL - _ < KL - _
        simp
        omega
    · have hje : j = KL := by omega
      subst hje
      have HC := hide (HS.out.put ⟨#[41]⟩ (by simp only [List.length_append, List.length_cons, List.length_nil, sep_true]; omega))
      clear HF HKID HST HLE
      go_wp2_with fail
      refine HC.out.mono ?_
      rintro e w9 ⟨rfl, hx9, hk9⟩
      have HF9 := hide (And.intro hx9 (HW.out.trans hk9))
      clear hx9 hk9 HC
      go_wp2
      go_end0
      refine ⟨rfl, ?_, HF9.out.2⟩
      have hx := HF9.out.1
      simpa [sep, rdT, bL, str, List.append_assoc] using hx
end Go.Proofs.YtneblkdkhlgmcaaDoor
namespace Go.Proofs.YtneblkdkhlgmcaaDoor
open Go.ChangeShapes Go.WideShapes Go.ChangeAt Go.RowKit
set_option maxRecDepth 100000
set_option linter.unusedVariables false
set_option linter.unusedSimpArgs false
def tV (G : Gs) (rt : ByteArray) : Value := .agg #[G.s1, G.s2, G.s3, .string G.outer, .string G.power, .string G.opn, .string G.cls, .string G.left, .string G.right, .string G.minus, .string G.quote, .bool G.trains, .bool G.lone, .bool G.square, .string rt]
structure Rm (G : Gs) : Prop where
  hm : G.minus.size ≤ 1000000
  hq : G.quote.size ≤ 1000000
  hsl : ∃ a1 n1 c1 a2 n2 c2 a3 n3 c3, G.s1 = .slice a1 n1 c1 ∧ G.s2 = .slice a2 n2 c2 ∧ G.s3 = .slice a3 n3 c3
/-- What the document's text of a function is. -/
def RF (n m : Nat) (w0 : World) (G : Gs) : Prop := ∀ (rt : ByteArray) (w : World) (x : Nd) (v : Value), NdIn m n 0 w0 x v → okN m true x → sndA x → Below w0.heap.size w0 w → ((TX G m).F x).length ≤ 140737488355328 →
  Calls Tryd.prog 44 #[tV G rt, v] w fun e w' => e = .returned (.string (str ((TX G m).F x))) ∧ Below w.heap.size w w'
def RE (n m : Nat) (w0 : World) (G : Gs) : Prop := ∀ (rt : ByteArray) (w : World) (x : Nd) (v : Value), NdIn m n 0 w0 x v → okN m false x → sndA x → Below w0.heap.size w0 w → ((TX G m).E rt x).length ≤ 140737488355328 →
  Calls Tryd.prog 30 #[tV G rt, v] w fun e w' => e = .returned (.string (str ((TX G m).E rt x))) ∧ Below w.heap.size w w'
def RO (n m : Nat) (w0 : World) (G : Gs) : Prop := ∀ (rt : ByteArray) (w : World) (x : Nd) (v : Value), NdIn m n 0 w0 x v → okN m false x → sndA x → Below w0.heap.size w0 w → ((TX G m).O rt x).length ≤ 140737488355328 →
  Calls Tryd.prog 46 #[tV G rt, v] w fun e w' => e = .returned (.string (str ((TX G m).O rt x))) ∧ Below w.heap.size w w'
theorem round65 (T : List UInt8) (w : World) (hl : T.length ≤ 140737488355328) : Calls Tryd.prog 65 #[.string ⟨T.toArray⟩] w fun e w' => e = .returned (.string ⟨(rdT T).toArray⟩) ∧ w' = w := by
  have h1 : ¬ (9223372036854775807 < 2 + T.length) := by omega
  have h2 : ¬ (9223372036854775807 < 2 + T.length + 2) := by omega
  go_enter Tryd.func65, Tryd.ntmps65
  go_wp2
  go_ret
  refine ⟨?_, rfl⟩
  have e : (⟨#[40, 32]⟩ : ByteArray) ++ ⟨T.toArray⟩ ++ ⟨#[32, 41]⟩ = ⟨(rdT T).toArray⟩ := by
    have e1 : (⟨#[40, 32]⟩ : ByteArray) = ⟨[40, 32].toArray⟩ := rfl
    have e2 : (⟨#[32, 41]⟩ : ByteArray) = ⟨[32, 41].toArray⟩ := rfl
    rw [e1, e2, cat_mk, cat_mk]
    rfl
  rw [← e]
  rfl
theorem cat_r (a : List UInt8) (m : ByteArray) : (⟨a.toArray⟩ : ByteArray) ++ m = ⟨(a ++ bL m).toArray⟩ := by
  have e := cat_mk a m.data.toList
  rw [← str_mk m] at e
  exact e
theorem catO (a : ByteArray) (T : List UInt8) : a ++ (⟨#[32]⟩ : ByteArray) ++ ⟨T.toArray⟩ = str (bL a ++ ([32] ++ T)) := by
  have e : (⟨#[32]⟩ : ByteArray) = ⟨[32].toArray⟩ := rfl
  rw [e, cat_l, cat_mk, List.append_assoc]
  rfl
theorem rf21 {n m : Nat} {w0 : World} {G : Gs} (rt : ByteArray) (w : World) (x : Nd) (v : Value) (hx : NdIn (m + 1) n 0 w0 x v) (hK : x.kind = 21) :
    Calls Tryd.prog 44 #[tV G rt, v] w fun e w' => e = .returned (.string (str (fnT G (TX G m) x))) ∧ Below w.heap.size w w' := by
  obtain ⟨v1, v2, v3, rfl, hv1⟩ := nd_form hx
  have hT : fnT G (TX G m) x = bL x.name := by simp [fnT, hK]
  rw [hT, hK]
  generalize x.op = o at *
  generalize x.name = nm at *
  generalize x.pos = ps at *
  clear hx hT hK
  obtain ⟨W2, hW2⟩ : ∃ W2, (w.alloc (.cells #[G.s1, G.s2, G.s3, .string G.outer, .string G.power, .string G.opn, .string G.cls, .string G.left, .string G.right, .string G.minus, .string G.quote, .bool G.trains, .bool G.lone, .bool G.square, .string rt] 66)).alloc (.cells (sv (21) (o) nm (v1) (v2) (v3) (ps)) 34) = W2 := ⟨_, rfl⟩
  have hb2 : Below w.heap.size w W2 := by rw [← hW2]; exact two_allocs _ _ _
  have s2 : W2.heap.size = w.heap.size + 2 := by rw [← hW2]; simp
  have hA : W2.heap[w.heap.size]? = some (.cells #[G.s1, G.s2, G.s3, .string G.outer, .string G.power, .string G.opn, .string G.cls, .string G.left, .string G.right, .string G.minus, .string G.quote, .bool G.trains, .bool G.lone, .bool G.square, .string rt] 66 (0, 0)) := by
    rw [← hW2]; exact (Lib.alloc_old _ _ w.heap.size (by simp)).trans (heap_alloc_new w _)
  have hNb : W2.heap[w.heap.size + 1]? = some (.cells (sv (21) (o) nm (v1) (v2) (v3) (ps)) 34 (0, 0)) := by
    have h := heap_alloc_new (w.alloc (.cells #[G.s1, G.s2, G.s3, .string G.outer, .string G.power, .string G.opn, .string G.cls, .string G.left, .string G.right, .string G.minus, .string G.quote, .bool G.trains, .bool G.lone, .bool G.square, .string rt] 66)) (.cells (sv (21) (o) nm (v1) (v2) (v3) (ps)) 34)
    have e : (w.alloc (.cells #[G.s1, G.s2, G.s3, .string G.outer, .string G.power, .string G.opn, .string G.cls, .string G.left, .string G.right, .string G.minus, .string G.quote, .bool G.trains, .bool G.lone, .bool G.square, .string rt] 66)).heap.size = w.heap.size + 1 := by simp
    rw [e] at h
    rw [← hW2]; exact h
  have n0 : W2.cell? ⟨w.heap.size + 1, 0, none⟩ = some (.int .i64 21) := (Lib.cell_of_heap hNb 0).trans rfl
  have n2 : W2.cell? ⟨w.heap.size + 1, 2, none⟩ = some (.string nm) := (Lib.cell_of_heap hNb 2).trans rfl
  unfold tV
  go_enter Tryd.func44, Tryd.ntmps44
  go_upto_region 1 with fail
  try rw [hW2]
  have HB2 := hide hb2
  clear hW2 hA hNb hb2
  go_wp2
  go_ret
  refine ⟨?_, HB2.out⟩
  show Ending.returned (Value.string nm) = _
  have e := str_mk nm
  unfold str bL
  rw [← e]
set_option maxHeartbeats 4000000 in
theorem rf24 {n m : Nat} {w0 : World} {G : Gs} (AM : Rm G) (IF : RF n m w0 G) (IE : RE n m w0 G) (rt : ByteArray) (w : World) (x : Nd) (v : Value) (hx : NdIn (m + 1) n 0 w0 x v) (hk : okN (m + 1) true x) (hs : sndA x) (hb : Below w0.heap.size w0 w) (hK : x.kind = 24) (hl : (fnT G (TX G m) x).length ≤ 140737488355328) :
    Calls Tryd.prog 44 #[tV G rt, v] w fun e w' => e = .returned (.string (str (fnT G (TX G m) x))) ∧ Below w.heap.size w w' := by
  obtain ⟨v1, v2, ak, ck, rfl, hv1, hA0, hkid⟩ := nd_kids hx
  have hkl : x.kids.length = 1 := by have := hk.1; rw [hK] at this; unfold arK at this; simp at this; first | omega | (rw [this]; rfl)
  have hT : fnT G (TX G m) x = (TX G m).F (kp x 0) ++ bL x.name := by simp [fnT, hK]
  rw [hT] at hl ⊢
  obtain ⟨b, off, x0, y0, z0, rfl, hn0, hs0⟩ := hkid 0 (by omega)
  have ok0 := hk.2.2.2 0 (by omega)
  rw [show fnP x.kind 0 = true by rw [hK]; rfl] at ok0
  have HC0 := hide (fun W (hW : Below w.heap.size w W) hl => IF rt W (kp x 0) _ hn0 ok0 (hs.kid (by omega)) (hb.trans (hW.mono hb.size)) hl)
  rw [hK, hkl]
  have hm := AM.hm
  have HOP := hide hs.op
  obtain ⟨T0, hT0⟩ : ∃ T0, (TX G m).F (kp x 0) = T0 := ⟨_, rfl⟩
  rw [hT0] at HC0 hl ⊢
  clear hx hk hs IF IE hkid hT hkl hK ok0 hn0 hT0
  generalize x.op = o at *
  generalize x.name = nm at *
  generalize x.pos = ps at *
  generalize (kp x 0).kind = ki0 at *
  generalize (kp x 0).op = op0 at *
  generalize (kp x 0).name = nm0 at *
  generalize (kp x 0).pos = ps0 at *
  simp only [rdT, bL, List.length_append, List.length_cons, List.length_nil] at hl
  obtain ⟨W2, hW2⟩ : ∃ W2, (w.alloc (.cells #[G.s1, G.s2, G.s3, .string G.outer, .string G.power, .string G.opn, .string G.cls, .string G.left, .string G.right, .string G.minus, .string G.quote, .bool G.trains, .bool G.lone, .bool G.square, .string rt] 66)).alloc (.cells (sv (24) (o) nm (v1) (v2) (.slice (some ⟨b, off, none⟩) 1 ck) (ps)) 34) = W2 := ⟨_, rfl⟩
  have hb2 : Below w.heap.size w W2 := by rw [← hW2]; exact two_allocs _ _ _
  have s2 : W2.heap.size = w.heap.size + 2 := by rw [← hW2]; simp
  have hA : W2.heap[w.heap.size]? = some (.cells #[G.s1, G.s2, G.s3, .string G.outer, .string G.power, .string G.opn, .string G.cls, .string G.left, .string G.right, .string G.minus, .string G.quote, .bool G.trains, .bool G.lone, .bool G.square, .string rt] 66 (0, 0)) := by
    rw [← hW2]; exact (Lib.alloc_old _ _ w.heap.size (by simp)).trans (heap_alloc_new w _)
  have hNb : W2.heap[w.heap.size + 1]? = some (.cells (sv (24) (o) nm (v1) (v2) (.slice (some ⟨b, off, none⟩) 1 ck) (ps)) 34 (0, 0)) := by
    have h := heap_alloc_new (w.alloc (.cells #[G.s1, G.s2, G.s3, .string G.outer, .string G.power, .string G.opn, .string G.cls, .string G.left, .string G.right, .string G.minus, .string G.quote, .bool G.trains, .bool G.lone, .bool G.square, .string rt] 66)) (.cells (sv (24) (o) nm (v1) (v2) (.slice (some ⟨b, off, none⟩) 1 ck) (ps)) 34)
    have e : (w.alloc (.cells #[G.s1, G.s2, G.s3, .string G.outer, .string G.power, .string G.opn, .string G.cls, .string G.left, .string G.right, .string G.minus, .string G.quote, .bool G.trains, .bool G.lone, .bool G.square, .string rt] 66)).heap.size = w.heap.size + 1 := by simp
    rw [e] at h
    rw [← hW2]; exact h
  have HB23 : Hid (∀ W, Below W2.heap.size W2 W → Below w.heap.size w W) := hide fun W h => hb2.trans (h.mono hb2.size)
  have KS : Hid (∀ W, Below W2.heap.size W2 W → Below W2.heap.size W2 W ∧ W.cell? ⟨w.heap.size, 0, none⟩ = some (G.s1) ∧ W.cell? ⟨w.heap.size, 1, none⟩ = some (G.s2) ∧ W.cell? ⟨w.heap.size, 2, none⟩ = some (G.s3) ∧ W.cell? ⟨w.heap.size, 3, none⟩ = some (.string G.outer) ∧ W.cell? ⟨w.heap.size, 4, none⟩ = some (.string G.power) ∧ W.cell? ⟨w.heap.size, 5, none⟩ = some (.string G.opn) ∧ W.cell? ⟨w.heap.size, 6, none⟩ = some (.string G.cls) ∧ W.cell? ⟨w.heap.size, 7, none⟩ = some (.string G.left) ∧ W.cell? ⟨w.heap.size, 8, none⟩ = some (.string G.right) ∧ W.cell? ⟨w.heap.size, 9, none⟩ = some (.string G.minus) ∧ W.cell? ⟨w.heap.size, 10, none⟩ = some (.string G.quote) ∧ W.cell? ⟨w.heap.size, 11, none⟩ = some (.bool G.trains) ∧ W.cell? ⟨w.heap.size, 12, none⟩ = some (.bool G.lone) ∧ W.cell? ⟨w.heap.size, 13, none⟩ = some (.bool G.square) ∧ W.cell? ⟨w.heap.size, 14, none⟩ = some (.string rt) ∧ W.cell? ⟨w.heap.size + 1, 0, none⟩ = some (.int .i64 24) ∧ W.cell? ⟨w.heap.size + 1, 1, none⟩ = some (.int .i64 o) ∧ W.cell? ⟨w.heap.size + 1, 2, none⟩ = some (.string nm) ∧ W.cell? ⟨w.heap.size + 1, 3, none⟩ = some (v1) ∧ W.cell? ⟨w.heap.size + 1, 4, none⟩ = some (v2) ∧ W.cell? ⟨w.heap.size + 1, 5, none⟩ = some (.slice (some ⟨b, off, none⟩) 1 ck) ∧ W.cell? ⟨w.heap.size + 1, 6, none⟩ = some (.int .i64 ps) ∧ W.cell? ⟨b, off, none⟩ = some (.int .i64 ki0) ∧ W.cell? ⟨b, off + 1, none⟩ = some (.int .i64 op0) ∧ W.cell? ⟨b, off + 2, none⟩ = some (.string nm0) ∧ W.cell? ⟨b, off + 3, none⟩ = some (x0) ∧ W.cell? ⟨b, off + 4, none⟩ = some (y0) ∧ W.cell? ⟨b, off + 5, none⟩ = some (z0) ∧ W.cell? ⟨b, off + 6, none⟩ = some (.int .i64 ps0)) := hide fun W h => by
    have hA2 := (h.block w.heap.size (by omega)).trans hA
    have hN2 := (h.block (w.heap.size + 1) (by omega)).trans hNb
    have hW0 := hb.trans ((HB23.out W h).mono hb.size)
    obtain ⟨q00, q01, q02, q03, q04, q05, q06⟩ := hs0 W hW0
    exact ⟨h, (Lib.cell_of_heap hA2 0).trans rfl, (Lib.cell_of_heap hA2 1).trans rfl, (Lib.cell_of_heap hA2 2).trans rfl, (Lib.cell_of_heap hA2 3).trans rfl, (Lib.cell_of_heap hA2 4).trans rfl, (Lib.cell_of_heap hA2 5).trans rfl, (Lib.cell_of_heap hA2 6).trans rfl, (Lib.cell_of_heap hA2 7).trans rfl, (Lib.cell_of_heap hA2 8).trans rfl, (Lib.cell_of_heap hA2 9).trans rfl, (Lib.cell_of_heap hA2 10).trans rfl, (Lib.cell_of_heap hA2 11).trans rfl, (Lib.cell_of_heap hA2 12).trans rfl, (Lib.cell_of_heap hA2 13).trans rfl, (Lib.cell_of_heap hA2 14).trans rfl, (Lib.cell_of_heap hN2 0).trans rfl, (Lib.cell_of_heap hN2 1).trans rfl, (Lib.cell_of_heap hN2 2).trans rfl, (Lib.cell_of_heap hN2 3).trans rfl, (Lib.cell_of_heap hN2 4).trans rfl, (Lib.cell_of_heap hN2 5).trans rfl, (Lib.cell_of_heap hN2 6).trans rfl, q00, q01, q02, q03, q04, q05, q06⟩
  have HD0 : Hid (∀ W, Below W2.heap.size W2 W → Calls Tryd.prog 44 #[.agg #[G.s1, G.s2, G.s3, .string G.outer, .string G.power, .string G.opn, .string G.cls, .string G.left, .string G.right, .string G.minus, .string G.quote, .bool G.trains, .bool G.lone, .bool G.square, .string rt], .agg (sv (ki0) (op0) nm0 (x0) (y0) (z0) (ps0))] W fun e w' => e = .returned (.string ⟨T0.toArray⟩) ∧ Below W2.heap.size W2 w') := hide fun W h => (HC0.out W (HB23.out W h) (by omega)).mono (by rintro e w' ⟨rfl, h2⟩; exact ⟨rfl, h.trans (h2.mono h.size)⟩)
  have l1 : ¬ (9223372036854775807 < T0.length + nm.size) := by have e : nm.data.toList.length = nm.size := by simp
                                                                omega
  have HD : Hid (Below W2.heap.size W2 W2.drew) := hide ((Below.refl _ _).drew)
  obtain ⟨-, -, -, -, -, -, -, -, -, -, -, -, -, -, -, -, n0, -, -, -, -, -, -, -, -, -, -, -, -, -⟩ := KS.out W2 (Below.refl _ _)
  unfold tV
  go_enter Tryd.func44, Tryd.ntmps44
  go_upto_region 1 with fail
  try rw [hW2]
  clear hW2 hA hNb hb2 HC0 hs0
  go_upto_region 5 with fail
  clear n0
  go_region_held3 (fun W => Below W2.heap.size W2 W ∧ W.cell? ⟨w.heap.size, 0, none⟩ = some (G.s1) ∧ W.cell? ⟨w.heap.size, 1, none⟩ = some (G.s2) ∧ W.cell? ⟨w.heap.size, 2, none⟩ = some (G.s3) ∧ W.cell? ⟨w.heap.size, 3, none⟩ = some (.string G.outer) ∧ W.cell? ⟨w.heap.size, 4, none⟩ = some (.string G.power) ∧ W.cell? ⟨w.heap.size, 5, none⟩ = some (.string G.opn) ∧ W.cell? ⟨w.heap.size, 6, none⟩ = some (.string G.cls) ∧ W.cell? ⟨w.heap.size, 7, none⟩ = some (.string G.left) ∧ W.cell? ⟨w.heap.size, 8, none⟩ = some (.string G.right) ∧ W.cell? ⟨w.heap.size, 9, none⟩ = some (.string G.minus) ∧ W.cell? ⟨w.heap.size, 10, none⟩ = some (.string G.quote) ∧ W.cell? ⟨w.heap.size, 11, none⟩ = some (.bool G.trains) ∧ W.cell? ⟨w.heap.size, 12, none⟩ = some (.bool G.lone) ∧ W.cell? ⟨w.heap.size, 13, none⟩ = some (.bool G.square) ∧ W.cell? ⟨w.heap.size, 14, none⟩ = some (.string rt) ∧ W.cell? ⟨w.heap.size + 1, 0, none⟩ = some (.int .i64 24) ∧ W.cell? ⟨w.heap.size + 1, 1, none⟩ = some (.int .i64 o) ∧ W.cell? ⟨w.heap.size + 1, 2, none⟩ = some (.string nm) ∧ W.cell? ⟨w.heap.size + 1, 3, none⟩ = some (v1) ∧ W.cell? ⟨w.heap.size + 1, 4, none⟩ = some (v2) ∧ W.cell? ⟨w.heap.size + 1, 5, none⟩ = some (.slice (some ⟨b, off, none⟩) 1 ck) ∧ W.cell? ⟨w.heap.size + 1, 6, none⟩ = some (.int .i64 ps) ∧ W.cell? ⟨b, off, none⟩ = some (.int .i64 ki0) ∧ W.cell? ⟨b, off + 1, none⟩ = some (.int .i64 op0) ∧ W.cell? ⟨b, off + 2, none⟩ = some (.string nm0) ∧ W.cell? ⟨b, off + 3, none⟩ = some (x0) ∧ W.cell? ⟨b, off + 4, none⟩ = some (y0) ∧ W.cell? ⟨b, off + 5, none⟩ = some (z0) ∧ W.cell? ⟨b, off + 6, none⟩ = some (.int .i64 ps0)) (first | with_reducible exact KS.out _ HD.out | with_reducible exact KS.out _ (by with_reducible assumption)) (first | (go_at_call 44; with_reducible refine (HD0.out _ (by first | with_reducible exact HD.out | with_reducible assumption)).mono ?_; rintro e wq ⟨rfl, hbq⟩))
  go_wp2
  go_ret
  refine ⟨?_, HB23.out _ (by with_reducible assumption)⟩
  show Ending.returned (Value.string ((⟨T0.toArray⟩ : ByteArray) ++ nm)) = _
  rw [cat_r]
  rfl
set_option maxHeartbeats 4000000 in
theorem rf26 {n m : Nat} {w0 : World} {G : Gs} (AM : Rm G) (IF : RF n m w0 G) (IE : RE n m w0 G) (rt : ByteArray) (w : World) (x : Nd) (v : Value) (hx : NdIn (m + 1) n 0 w0 x v) (hk : okN (m + 1) true x) (hs : sndA x) (hb : Below w0.heap.size w0 w) (hK : x.kind = 26) (hl : (fnT G (TX G m) x).length ≤ 140737488355328) :
    Calls Tryd.prog 44 #[tV G rt, v] w fun e w' => e = .returned (.string (str (fnT G (TX G m) x))) ∧ Below w.heap.size w w' := by
  obtain ⟨v1, v2, ak, ck, rfl, hv1, hA0, hkid⟩ := nd_kids hx
  have hkl : x.kids.length = 1 := by have := hk.1; rw [hK] at this; unfold arK at this; simp at this; first | omega | (rw [this]; rfl)
  have hT : fnT G (TX G m) x = (TX G m).F (kp x 0) ++ (bL G.power ++ numT x.op (bL G.minus)) := by simp [fnT, hK]
  rw [hT] at hl ⊢
  obtain ⟨b, off, x0, y0, z0, rfl, hn0, hs0⟩ := hkid 0 (by omega)
  have ok0 := hk.2.2.2 0 (by omega)
  rw [show fnP x.kind 0 = true by rw [hK]; rfl] at ok0
  have HC0 := hide (fun W (hW : Below w.heap.size w W) hl => IF rt W (kp x 0) _ hn0 ok0 (hs.kid (by omega)) (hb.trans (hW.mono hb.size)) hl)
  rw [hK, hkl]
  have hm := AM.hm
  have HOP := hide hs.op
  obtain ⟨T0, hT0⟩ : ∃ T0, (TX G m).F (kp x 0) = T0 := ⟨_, rfl⟩
  rw [hT0] at HC0 hl ⊢
  clear hx hk hs IF IE hkid hT hkl hK ok0 hn0 hT0
  generalize x.op = o at *
  generalize x.name = nm at *
  generalize x.pos = ps at *
  generalize (kp x 0).kind = ki0 at *
  generalize (kp x 0).op = op0 at *
  generalize (kp x 0).name = nm0 at *
  generalize (kp x 0).pos = ps0 at *
  simp only [rdT, bL, List.length_append, List.length_cons, List.length_nil] at hl
  obtain ⟨W2, hW2⟩ : ∃ W2, (w.alloc (.cells #[G.s1, G.s2, G.s3, .string G.outer, .string G.power, .string G.opn, .string G.cls, .string G.left, .string G.right, .string G.minus, .string G.quote, .bool G.trains, .bool G.lone, .bool G.square, .string rt] 66)).alloc (.cells (sv (26) (o) nm (v1) (v2) (.slice (some ⟨b, off, none⟩) 1 ck) (ps)) 34) = W2 := ⟨_, rfl⟩
  have hb2 : Below w.heap.size w W2 := by rw [← hW2]; exact two_allocs _ _ _
  have s2 : W2.heap.size = w.heap.size + 2 := by rw [← hW2]; simp
  have hA : W2.heap[w.heap.size]? = some (.cells #[G.s1, G.s2, G.s3, .string G.outer, .string G.power, .string G.opn, .string G.cls, .string G.left, .string G.right, .string G.minus, .string G.quote, .bool G.trains, .bool G.lone, .bool G.square, .string rt] 66 (0, 0)) := by
    rw [← hW2]; exact (Lib.alloc_old _ _ w.heap.size (by simp)).trans (heap_alloc_new w _)
  have hNb : W2.heap[w.heap.size + 1]? = some (.cells (sv (26) (o) nm (v1) (v2) (.slice (some ⟨b, off, none⟩) 1 ck) (ps)) 34 (0, 0)) := by
    have h := heap_alloc_new (w.alloc (.cells #[G.s1, G.s2, G.s3, .string G.outer, .string G.power, .string G.opn, .string G.cls, .string G.left, .string G.right, .string G.minus, .string G.quote, .bool G.trains, .bool G.lone, .bool G.square, .string rt] 66)) (.cells (sv (26) (o) nm (v1) (v2) (.slice (some ⟨b, off, none⟩) 1 ck) (ps)) 34)
    have e : (w.alloc (.cells #[G.s1, G.s2, G.s3, .string G.outer, .string G.power, .string G.opn, .string G.cls, .string G.left, .string G.right, .string G.minus, .string G.quote, .bool G.trains, .bool G.lone, .bool G.square, .string rt] 66)).heap.size = w.heap.size + 1 := by simp
    rw [e] at h
    rw [← hW2]; exact h
  have HB23 : Hid (∀ W, Below W2.heap.size W2 W → Below w.heap.size w W) := hide fun W h => hb2.trans (h.mono hb2.size)
  have KS : Hid (∀ W, Below W2.heap.size W2 W → Below W2.heap.size W2 W ∧ W.cell? ⟨w.heap.size, 0, none⟩ = some (G.s1) ∧ W.cell? ⟨w.heap.size, 1, none⟩ = some (G.s2) ∧ W.cell? ⟨w.heap.size, 2, none⟩ = some (G.s3) ∧ W.cell? ⟨w.heap.size, 3, none⟩ = some (.string G.outer) ∧ W.cell? ⟨w.heap.size, 4, none⟩ = some (.string G.power) ∧ W.cell? ⟨w.heap.size, 5, none⟩ = some (.string G.opn) ∧ W.cell? ⟨w.heap.size, 6, none⟩ = some (.string G.cls) ∧ W.cell? ⟨w.heap.size, 7, none⟩ = some (.string G.left) ∧ W.cell? ⟨w.heap.size, 8, none⟩ = some (.string G.right) ∧ W.cell? ⟨w.heap.size, 9, none⟩ = some (.string G.minus) ∧ W.cell? ⟨w.heap.size, 10, none⟩ = some (.string G.quote) ∧ W.cell? ⟨w.heap.size, 11, none⟩ = some (.bool G.trains) ∧ W.cell? ⟨w.heap.size, 12, none⟩ = some (.bool G.lone) ∧ W.cell? ⟨w.heap.size, 13, none⟩ = some (.bool G.square) ∧ W.cell? ⟨w.heap.size, 14, none⟩ = some (.string rt) ∧ W.cell? ⟨w.heap.size + 1, 0, none⟩ = some (.int .i64 26) ∧ W.cell? ⟨w.heap.size + 1, 1, none⟩ = some (.int .i64 o) ∧ W.cell? ⟨w.heap.size + 1, 2, none⟩ = some (.string nm) ∧ W.cell? ⟨w.heap.size + 1, 3, none⟩ = some (v1) ∧ W.cell? ⟨w.heap.size + 1, 4, none⟩ = some (v2) ∧ W.cell? ⟨w.heap.size + 1, 5, none⟩ = some (.slice (some ⟨b, off, none⟩) 1 ck) ∧ W.cell? ⟨w.heap.size + 1, 6, none⟩ = some (.int .i64 ps) ∧ W.cell? ⟨b, off, none⟩ = some (.int .i64 ki0) ∧ W.cell? ⟨b, off + 1, none⟩ = some (.int .i64 op0) ∧ W.cell? ⟨b, off + 2, none⟩ = some (.string nm0) ∧ W.cell? ⟨b, off + 3, none⟩ = some (x0) ∧ W.cell? ⟨b, off + 4, none⟩ = some (y0) ∧ W.cell? ⟨b, off + 5, none⟩ = some (z0) ∧ W.cell? ⟨b, off + 6, none⟩ = some (.int .i64 ps0)) := hide fun W h => by
    have hA2 := (h.block w.heap.size (by omega)).trans hA
    have hN2 := (h.block (w.heap.size + 1) (by omega)).trans hNb
    have hW0 := hb.trans ((HB23.out W h).mono hb.size)
    obtain ⟨q00, q01, q02, q03, q04, q05, q06⟩ := hs0 W hW0
    exact ⟨h, (Lib.cell_of_heap hA2 0).trans rfl, (Lib.cell_of_heap hA2 1).trans rfl, (Lib.cell_of_heap hA2 2).trans rfl, (Lib.cell_of_heap hA2 3).trans rfl, (Lib.cell_of_heap hA2 4).trans rfl, (Lib.cell_of_heap hA2 5).trans rfl, (Lib.cell_of_heap hA2 6).trans rfl, (Lib.cell_of_heap hA2 7).trans rfl, (Lib.cell_of_heap hA2 8).trans rfl, (Lib.cell_of_heap hA2 9).trans rfl, (Lib.cell_of_heap hA2 10).trans rfl, (Lib.cell_of_heap hA2 11).trans rfl, (Lib.cell_of_heap hA2 12).trans rfl, (Lib.cell_of_heap hA2 13).trans rfl, (Lib.cell_of_heap hA2 14).trans rfl, (Lib.cell_of_heap hN2 0).trans rfl, (Lib.cell_of_heap hN2 1).trans rfl, (Lib.cell_of_heap hN2 2).trans rfl, (Lib.cell_of_heap hN2 3).trans rfl, (Lib.cell_of_heap hN2 4).trans rfl, (Lib.cell_of_heap hN2 5).trans rfl, (Lib.cell_of_heap hN2 6).trans rfl, q00, q01, q02, q03, q04, q05, q06⟩
  have HD0 : Hid (∀ W, Below W2.heap.size W2 W → Calls Tryd.prog 44 #[.agg #[G.s1, G.s2, G.s3, .string G.outer, .string G.power, .string G.opn, .string G.cls, .string G.left, .string G.right, .string G.minus, .string G.quote, .bool G.trains, .bool G.lone, .bool G.square, .string rt], .agg (sv (ki0) (op0) nm0 (x0) (y0) (z0) (ps0))] W fun e w' => e = .returned (.string ⟨T0.toArray⟩) ∧ Below W2.heap.size W2 w') := hide fun W h => (HC0.out W (HB23.out W h) (by omega)).mono (by rintro e w' ⟨rfl, h2⟩; exact ⟨rfl, h.trans (h2.mono h.size)⟩)
  have HN : Hid (∀ W, Below W2.heap.size W2 W → Calls Tryd.prog 6 #[.int .i64 o, .string G.minus] W fun e w' => e = .returned (.string ⟨(numT o (bL G.minus)).toArray⟩) ∧ Below W2.heap.size W2 w') := hide fun W h => (rnum6 o G.minus (by omega) HOP.out.1 HOP.out.2 W).mono (by rintro e w' ⟨rfl, h2⟩; exact ⟨rfl, h.trans (h2.mono h.size)⟩)
  obtain ⟨N, hN⟩ : ∃ N, numT o (bL G.minus) = N := ⟨_, rfl⟩
  have hN' : numT o G.minus.data.toList = N := hN
  rw [hN] at HN ⊢
  rw [hN'] at hl
  clear hN hN'
  have hps : G.power.data.toList.length = G.power.size := by simp
  have l1 : ¬ (9223372036854775807 < T0.length + G.power.size) := by omega
  have l2 : ¬ (9223372036854775807 < T0.length + G.power.size + N.length) := by omega
  clear hps
  have HD : Hid (Below W2.heap.size W2 W2.drew) := hide ((Below.refl _ _).drew)
  obtain ⟨-, -, -, -, -, -, -, -, -, -, -, -, -, -, -, -, n0, -, -, -, -, -, -, -, -, -, -, -, -, -⟩ := KS.out W2 (Below.refl _ _)
  unfold tV
  go_enter Tryd.func44, Tryd.ntmps44
  go_upto_region 1 with fail
  try rw [hW2]
  clear hW2 hA hNb hb2 HC0 hs0
  go_upto_region 7 with fail
  clear n0
  go_region_held3 (fun W => Below W2.heap.size W2 W ∧ W.cell? ⟨w.heap.size, 0, none⟩ = some (G.s1) ∧ W.cell? ⟨w.heap.size, 1, none⟩ = some (G.s2) ∧ W.cell? ⟨w.heap.size, 2, none⟩ = some (G.s3) ∧ W.cell? ⟨w.heap.size, 3, none⟩ = some (.string G.outer) ∧ W.cell? ⟨w.heap.size, 4, none⟩ = some (.string G.power) ∧ W.cell? ⟨w.heap.size, 5, none⟩ = some (.string G.opn) ∧ W.cell? ⟨w.heap.size, 6, none⟩ = some (.string G.cls) ∧ W.cell? ⟨w.heap.size, 7, none⟩ = some (.string G.left) ∧ W.cell? ⟨w.heap.size, 8, none⟩ = some (.string G.right) ∧ W.cell? ⟨w.heap.size, 9, none⟩ = some (.string G.minus) ∧ W.cell? ⟨w.heap.size, 10, none⟩ = some (.string G.quote) ∧ W.cell? ⟨w.heap.size, 11, none⟩ = some (.bool G.trains) ∧ W.cell? ⟨w.heap.size, 12, none⟩ = some (.bool G.lone) ∧ W.cell? ⟨w.heap.size, 13, none⟩ = some (.bool G.square) ∧ W.cell? ⟨w.heap.size, 14, none⟩ = some (.string rt) ∧ W.cell? ⟨w.heap.size + 1, 0, none⟩ = some (.int .i64 26) ∧ W.cell? ⟨w.heap.size + 1, 1, none⟩ = some (.int .i64 o) ∧ W.cell? ⟨w.heap.size + 1, 2, none⟩ = some (.string nm) ∧ W.cell? ⟨w.heap.size + 1, 3, none⟩ = some (v1) ∧ W.cell? ⟨w.heap.size + 1, 4, none⟩ = some (v2) ∧ W.cell? ⟨w.heap.size + 1, 5, none⟩ = some (.slice (some ⟨b, off, none⟩) 1 ck) ∧ W.cell? ⟨w.heap.size + 1, 6, none⟩ = some (.int .i64 ps) ∧ W.cell? ⟨b, off, none⟩ = some (.int .i64 ki0) ∧ W.cell? ⟨b, off + 1, none⟩ = some (.int .i64 op0) ∧ W.cell? ⟨b, off + 2, none⟩ = some (.string nm0) ∧ W.cell? ⟨b, off + 3, none⟩ = some (x0) ∧ W.cell? ⟨b, off + 4, none⟩ = some (y0) ∧ W.cell? ⟨b, off + 5, none⟩ = some (z0) ∧ W.cell? ⟨b, off + 6, none⟩ = some (.int .i64 ps0)) (first | with_reducible exact KS.out _ HD.out | with_reducible exact KS.out _ (by with_reducible assumption)) (first | (go_at_call 44; with_reducible refine (HD0.out _ (by first | with_reducible exact HD.out | with_reducible assumption)).mono ?_; rintro e wq ⟨rfl, hbq⟩) | (go_at_call 6; refine (HN.out _ (by first | with_reducible exact HD.out | with_reducible assumption)).mono ?_; rintro e wq ⟨rfl, hbq⟩))
  go_wp2
  go_ret
  refine ⟨?_, HB23.out _ (by with_reducible assumption)⟩
  show Ending.returned (Value.string ((⟨T0.toArray⟩ : ByteArray) ++ G.power ++ ⟨N.toArray⟩)) = _
  rw [cat_r, cat_mk, List.append_assoc]
  rfl
set_option maxHeartbeats 4000000 in
theorem rf28 {n m : Nat} {w0 : World} {G : Gs} (AM : Rm G) (IF : RF n m w0 G) (IE : RE n m w0 G) (rt : ByteArray) (w : World) (x : Nd) (v : Value) (hx : NdIn (m + 1) n 0 w0 x v) (hk : okN (m + 1) true x) (hs : sndA x) (hb : Below w0.heap.size w0 w) (hK : x.kind = 28) (hl : (fnT G (TX G m) x).length ≤ 140737488355328) :
    Calls Tryd.prog 44 #[tV G rt, v] w fun e w' => e = .returned (.string (str (fnT G (TX G m) x))) ∧ Below w.heap.size w w' := by
  obtain ⟨v1, v2, ak, ck, rfl, hv1, hA0, hkid⟩ := nd_kids hx
  have hkl : x.kids.length = 2 := by have := hk.1; rw [hK] at this; unfold arK at this; simp at this; first | omega | (rw [this]; rfl)
  have hT : fnT G (TX G m) x = rdT ((TX G m).F (kp x 0) ++ ([32] ++ (TX G m).F (kp x 1))) := by simp [fnT, hK]
  rw [hT] at hl ⊢
  obtain ⟨b, off, x0, y0, z0, rfl, hn0, hs0⟩ := hkid 0 (by omega)
  obtain ⟨b1, off1, x1, y1, z1, e1, hn1, hs1⟩ := hkid 1 (by omega)
  cases e1
  have ok0 := hk.2.2.2 0 (by omega)
  rw [show fnP x.kind 0 = true by rw [hK]; rfl] at ok0
  have HC0 := hide (fun W (hW : Below w.heap.size w W) hl => IF rt W (kp x 0) _ hn0 ok0 (hs.kid (by omega)) (hb.trans (hW.mono hb.size)) hl)
  have ok1 := hk.2.2.2 1 (by omega)
  rw [show fnP x.kind 1 = true by rw [hK]; rfl] at ok1
  have HC1 := hide (fun W (hW : Below w.heap.size w W) hl => IF rt W (kp x 1) _ hn1 ok1 (hs.kid (by omega)) (hb.trans (hW.mono hb.size)) hl)
  rw [hK, hkl]
  have hm := AM.hm
  have HOP := hide hs.op
  obtain ⟨T0, hT0⟩ : ∃ T0, (TX G m).F (kp x 0) = T0 := ⟨_, rfl⟩
  rw [hT0] at HC0 hl ⊢
  obtain ⟨T1, hT1⟩ : ∃ T1, (TX G m).F (kp x 1) = T1 := ⟨_, rfl⟩
  rw [hT1] at HC1 hl ⊢
  clear hx hk hs IF IE hkid hT hkl hK ok0 hn0 hT0 ok1 hn1 hT1
  generalize x.op = o at *
  generalize x.name = nm at *
  generalize x.pos = ps at *
  generalize (kp x 0).kind = ki0 at *
  generalize (kp x 0).op = op0 at *
  generalize (kp x 0).name = nm0 at *
  generalize (kp x 0).pos = ps0 at *
  generalize (kp x 1).kind = ki1 at *
  generalize (kp x 1).op = op1 at *
  generalize (kp x 1).name = nm1 at *
  generalize (kp x 1).pos = ps1 at *
  simp only [rdT, bL, List.length_append, List.length_cons, List.length_nil] at hl
  obtain ⟨W2, hW2⟩ : ∃ W2, (w.alloc (.cells #[G.s1, G.s2, G.s3, .string G.outer, .string G.power, .string G.opn, .string G.cls, .string G.left, .string G.right, .string G.minus, .string G.quote, .bool G.trains, .bool G.lone, .bool G.square, .string rt] 66)).alloc (.cells (sv (28) (o) nm (v1) (v2) (.slice (some ⟨b, off, none⟩) 2 ck) (ps)) 34) = W2 := ⟨_, rfl⟩
  have hb2 : Below w.heap.size w W2 := by rw [← hW2]; exact two_allocs _ _ _
  have s2 : W2.heap.size = w.heap.size + 2 := by rw [← hW2]; simp
  have hA : W2.heap[w.heap.size]? = some (.cells #[G.s1, G.s2, G.s3, .string G.outer, .string G.power, .string G.opn, .string G.cls, .string G.left, .string G.right, .string G.minus, .string G.quote, .bool G.trains, .bool G.lone, .bool G.square, .string rt] 66 (0, 0)) := by
    rw [← hW2]; exact (Lib.alloc_old _ _ w.heap.size (by simp)).trans (heap_alloc_new w _)
  have hNb : W2.heap[w.heap.size + 1]? = some (.cells (sv (28) (o) nm (v1) (v2) (.slice (some ⟨b, off, none⟩) 2 ck) (ps)) 34 (0, 0)) := by
    have h := heap_alloc_new (w.alloc (.cells #[G.s1, G.s2, G.s3, .string G.outer, .string G.power, .string G.opn, .string G.cls, .string G.left, .string G.right, .string G.minus, .string G.quote, .bool G.trains, .bool G.lone, .bool G.square, .string rt] 66)) (.cells (sv (28) (o) nm (v1) (v2) (.slice (some ⟨b, off, none⟩) 2 ck) (ps)) 34)
    have e : (w.alloc (.cells #[G.s1, G.s2, G.s3, .string G.outer, .string G.power, .string G.opn, .string G.cls, .string G.left, .string G.right, .string G.minus, .string G.quote, .bool G.trains, .bool G.lone, .bool G.square, .string rt] 66)).heap.size = w.heap.size + 1 := by simp
    rw [e] at h
    rw [← hW2]; exact h
  have HB23 : Hid (∀ W, Below W2.heap.size W2 W → Below w.heap.size w W) := hide fun W h => hb2.trans (h.mono hb2.size)
  have KS : Hid (∀ W, Below W2.heap.size W2 W → Below W2.heap.size W2 W ∧ W.cell? ⟨w.heap.size, 0, none⟩ = some (G.s1) ∧ W.cell? ⟨w.heap.size, 1, none⟩ = some (G.s2) ∧ W.cell? ⟨w.heap.size, 2, none⟩ = some (G.s3) ∧ W.cell? ⟨w.heap.size, 3, none⟩ = some (.string G.outer) ∧ W.cell? ⟨w.heap.size, 4, none⟩ = some (.string G.power) ∧ W.cell? ⟨w.heap.size, 5, none⟩ = some (.string G.opn) ∧ W.cell? ⟨w.heap.size, 6, none⟩ = some (.string G.cls) ∧ W.cell? ⟨w.heap.size, 7, none⟩ = some (.string G.left) ∧ W.cell? ⟨w.heap.size, 8, none⟩ = some (.string G.right) ∧ W.cell? ⟨w.heap.size, 9, none⟩ = some (.string G.minus) ∧ W.cell? ⟨w.heap.size, 10, none⟩ = some (.string G.quote) ∧ W.cell? ⟨w.heap.size, 11, none⟩ = some (.bool G.trains) ∧ W.cell? ⟨w.heap.size, 12, none⟩ = some (.bool G.lone) ∧ W.cell? ⟨w.heap.size, 13, none⟩ = some (.bool G.square) ∧ W.cell? ⟨w.heap.size, 14, none⟩ = some (.string rt) ∧ W.cell? ⟨w.heap.size + 1, 0, none⟩ = some (.int .i64 28) ∧ W.cell? ⟨w.heap.size + 1, 1, none⟩ = some (.int .i64 o) ∧ W.cell? ⟨w.heap.size + 1, 2, none⟩ = some (.string nm) ∧ W.cell? ⟨w.heap.size + 1, 3, none⟩ = some (v1) ∧ W.cell? ⟨w.heap.size + 1, 4, none⟩ = some (v2) ∧ W.cell? ⟨w.heap.size + 1, 5, none⟩ = some (.slice (some ⟨b, off, none⟩) 2 ck) ∧ W.cell? ⟨w.heap.size + 1, 6, none⟩ = some (.int .i64 ps) ∧ W.cell? ⟨b, off, none⟩ = some (.int .i64 ki0) ∧ W.cell? ⟨b, off + 1, none⟩ = some (.int .i64 op0) ∧ W.cell? ⟨b, off + 2, none⟩ = some (.string nm0) ∧ W.cell? ⟨b, off + 3, none⟩ = some (x0) ∧ W.cell? ⟨b, off + 4, none⟩ = some (y0) ∧ W.cell? ⟨b, off + 5, none⟩ = some (z0) ∧ W.cell? ⟨b, off + 6, none⟩ = some (.int .i64 ps0) ∧ W.cell? ⟨b, off + 7, none⟩ = some (.int .i64 ki1) ∧ W.cell? ⟨b, off + 8, none⟩ = some (.int .i64 op1) ∧ W.cell? ⟨b, off + 9, none⟩ = some (.string nm1) ∧ W.cell? ⟨b, off + 10, none⟩ = some (x1) ∧ W.cell? ⟨b, off + 11, none⟩ = some (y1) ∧ W.cell? ⟨b, off + 12, none⟩ = some (z1) ∧ W.cell? ⟨b, off + 13, none⟩ = some (.int .i64 ps1)) := hide fun W h => by
    have hA2 := (h.block w.heap.size (by omega)).trans hA
    have hN2 := (h.block (w.heap.size + 1) (by omega)).trans hNb
    have hW0 := hb.trans ((HB23.out W h).mono hb.size)
    obtain ⟨q00, q01, q02, q03, q04, q05, q06⟩ := hs0 W hW0
    obtain ⟨q10, q11, q12, q13, q14, q15, q16⟩ := hs1 W hW0
    exact ⟨h, (Lib.cell_of_heap hA2 0).trans rfl, (Lib.cell_of_heap hA2 1).trans rfl, (Lib.cell_of_heap hA2 2).trans rfl, (Lib.cell_of_heap hA2 3).trans rfl, (Lib.cell_of_heap hA2 4).trans rfl, (Lib.cell_of_heap hA2 5).trans rfl, (Lib.cell_of_heap hA2 6).trans rfl, (Lib.cell_of_heap hA2 7).trans rfl, (Lib.cell_of_heap hA2 8).trans rfl, (Lib.cell_of_heap hA2 9).trans rfl, (Lib.cell_of_heap hA2 10).trans rfl, (Lib.cell_of_heap hA2 11).trans rfl, (Lib.cell_of_heap hA2 12).trans rfl, (Lib.cell_of_heap hA2 13).trans rfl, (Lib.cell_of_heap hA2 14).trans rfl, (Lib.cell_of_heap hN2 0).trans rfl, (Lib.cell_of_heap hN2 1).trans rfl, (Lib.cell_of_heap hN2 2).trans rfl, (Lib.cell_of_heap hN2 3).trans rfl, (Lib.cell_of_heap hN2 4).trans rfl, (Lib.cell_of_heap hN2 5).trans rfl, (Lib.cell_of_heap hN2 6).trans rfl, q00, q01, q02, q03, q04, q05, q06, q10, q11, q12, q13, q14, q15, q16⟩
  have HD0 : Hid (∀ W, Below W2.heap.size W2 W → Calls Tryd.prog 44 #[.agg #[G.s1, G.s2, G.s3, .string G.outer, .string G.power, .string G.opn, .string G.cls, .string G.left, .string G.right, .string G.minus, .string G.quote, .bool G.trains, .bool G.lone, .bool G.square, .string rt], .agg (sv (ki0) (op0) nm0 (x0) (y0) (z0) (ps0))] W fun e w' => e = .returned (.string ⟨T0.toArray⟩) ∧ Below W2.heap.size W2 w') := hide fun W h => (HC0.out W (HB23.out W h) (by omega)).mono (by rintro e w' ⟨rfl, h2⟩; exact ⟨rfl, h.trans (h2.mono h.size)⟩)
  have HD1 : Hid (∀ W, Below W2.heap.size W2 W → Calls Tryd.prog 44 #[.agg #[G.s1, G.s2, G.s3, .string G.outer, .string G.power, .string G.opn, .string G.cls, .string G.left, .string G.right, .string G.minus, .string G.quote, .bool G.trains, .bool G.lone, .bool G.square, .string rt], .agg (sv (ki1) (op1) nm1 (x1) (y1) (z1) (ps1))] W fun e w' => e = .returned (.string ⟨T1.toArray⟩) ∧ Below W2.heap.size W2 w') := hide fun W h => (HC1.out W (HB23.out W h) (by omega)).mono (by rintro e w' ⟨rfl, h2⟩; exact ⟨rfl, h.trans (h2.mono h.size)⟩)
  have HR : Hid (∀ W, Below W2.heap.size W2 W → Calls Tryd.prog 65 #[.string ((⟨T0.toArray⟩ : ByteArray) ++ ⟨#[32]⟩ ++ ⟨T1.toArray⟩)] W fun e w' => e = .returned (.string (str (rdT (T0 ++ ([32] ++ T1))))) ∧ Below W2.heap.size W2 w') := hide fun W h => by
    rw [cat3 T0 T1]
    exact (round65 _ W (by simp only [List.length_append, List.length_cons, List.length_nil]; omega)).mono (by rintro e w' ⟨rfl, rfl⟩; exact ⟨rfl, h⟩)
  have l1 : ¬ (9223372036854775807 < T0.length + 1) := by omega
  have l2 : ¬ (9223372036854775807 < T0.length + 1 + T1.length) := by omega
  have HD : Hid (Below W2.heap.size W2 W2.drew) := hide ((Below.refl _ _).drew)
  obtain ⟨-, -, -, -, -, -, -, -, -, -, -, -, -, -, -, -, n0, -, -, -, -, -, -, -, -, -, -, -, -, -, -, -, -, -, -, -, -⟩ := KS.out W2 (Below.refl _ _)
  unfold tV
  go_enter Tryd.func44, Tryd.ntmps44
  go_upto_region 1 with fail
  try rw [hW2]
  clear hW2 hA hNb hb2 HC0 hs0 HC1 hs1
  go_upto_region 11 with fail
  clear n0
  go_region_held3 (fun W => Below W2.heap.size W2 W ∧ W.cell? ⟨w.heap.size, 0, none⟩ = some (G.s1) ∧ W.cell? ⟨w.heap.size, 1, none⟩ = some (G.s2) ∧ W.cell? ⟨w.heap.size, 2, none⟩ = some (G.s3) ∧ W.cell? ⟨w.heap.size, 3, none⟩ = some (.string G.outer) ∧ W.cell? ⟨w.heap.size, 4, none⟩ = some (.string G.power) ∧ W.cell? ⟨w.heap.size, 5, none⟩ = some (.string G.opn) ∧ W.cell? ⟨w.heap.size, 6, none⟩ = some (.string G.cls) ∧ W.cell? ⟨w.heap.size, 7, none⟩ = some (.string G.left) ∧ W.cell? ⟨w.heap.size, 8, none⟩ = some (.string G.right) ∧ W.cell? ⟨w.heap.size, 9, none⟩ = some (.string G.minus) ∧ W.cell? ⟨w.heap.size, 10, none⟩ = some (.string G.quote) ∧ W.cell? ⟨w.heap.size, 11, none⟩ = some (.bool G.trains) ∧ W.cell? ⟨w.heap.size, 12, none⟩ = some (.bool G.lone) ∧ W.cell? ⟨w.heap.size, 13, none⟩ = some (.bool G.square) ∧ W.cell? ⟨w.heap.size, 14, none⟩ = some (.string rt) ∧ W.cell? ⟨w.heap.size + 1, 0, none⟩ = some (.int .i64 28) ∧ W.cell? ⟨w.heap.size + 1, 1, none⟩ = some (.int .i64 o) ∧ W.cell? ⟨w.heap.size + 1, 2, none⟩ = some (.string nm) ∧ W.cell? ⟨w.heap.size + 1, 3, none⟩ = some (v1) ∧ W.cell? ⟨w.heap.size + 1, 4, none⟩ = some (v2) ∧ W.cell? ⟨w.heap.size + 1, 5, none⟩ = some (.slice (some ⟨b, off, none⟩) 2 ck) ∧ W.cell? ⟨w.heap.size + 1, 6, none⟩ = some (.int .i64 ps) ∧ W.cell? ⟨b, off, none⟩ = some (.int .i64 ki0) ∧ W.cell? ⟨b, off + 1, none⟩ = some (.int .i64 op0) ∧ W.cell? ⟨b, off + 2, none⟩ = some (.string nm0) ∧ W.cell? ⟨b, off + 3, none⟩ = some (x0) ∧ W.cell? ⟨b, off + 4, none⟩ = some (y0) ∧ W.cell? ⟨b, off + 5, none⟩ = some (z0) ∧ W.cell? ⟨b, off + 6, none⟩ = some (.int .i64 ps0) ∧ W.cell? ⟨b, off + 7, none⟩ = some (.int .i64 ki1) ∧ W.cell? ⟨b, off + 8, none⟩ = some (.int .i64 op1) ∧ W.cell? ⟨b, off + 9, none⟩ = some (.string nm1) ∧ W.cell? ⟨b, off + 10, none⟩ = some (x1) ∧ W.cell? ⟨b, off + 11, none⟩ = some (y1) ∧ W.cell? ⟨b, off + 12, none⟩ = some (z1) ∧ W.cell? ⟨b, off + 13, none⟩ = some (.int .i64 ps1)) (first | with_reducible exact KS.out _ HD.out | with_reducible exact KS.out _ (by with_reducible assumption)) (first | (go_at_call 44; with_reducible refine (HD0.out _ (by first | with_reducible exact HD.out | with_reducible assumption)).mono ?_; rintro e wq ⟨rfl, hbq⟩) | (go_at_call 44; with_reducible refine (HD1.out _ (by first | with_reducible exact HD.out | with_reducible assumption)).mono ?_; rintro e wq ⟨rfl, hbq⟩) | (go_at_call 65; refine (HR.out _ (by first | with_reducible exact HD.out | with_reducible assumption)).mono ?_; rintro e wq ⟨rfl, hbq⟩))
  go_wp2
  go_ret
  exact ⟨rfl, HB23.out _ (by with_reducible assumption)⟩
set_option maxHeartbeats 4000000 in
theorem rf27 {n m : Nat} {w0 : World} {G : Gs} (AM : Rm G) (IF : RF n m w0 G) (IE : RE n m w0 G) (rt : ByteArray) (w : World) (x : Nd) (v : Value) (hx : NdIn (m + 1) n 0 w0 x v) (hk : okN (m + 1) true x) (hs : sndA x) (hb : Below w0.heap.size w0 w) (hK : x.kind = 27) (hl : (fnT G (TX G m) x).length ≤ 140737488355328) :
    Calls Tryd.prog 44 #[tV G rt, v] w fun e w' => e = .returned (.string (str (fnT G (TX G m) x))) ∧ Below w.heap.size w w' := by
  obtain ⟨v1, v2, ak, ck, rfl, hv1, hA0, hkid⟩ := nd_kids hx
  have hkl : x.kids.length = 3 := by have := hk.1; rw [hK] at this; unfold arK at this; simp at this; first | omega | (rw [this]; rfl)
  have hT : fnT G (TX G m) x = rdT ((TX G m).F (kp x 0) ++ ([32] ++ (TX G m).F (kp x 1)) ++ ([32] ++ (TX G m).F (kp x 2))) := by simp [fnT, hK]
  rw [hT] at hl ⊢
  obtain ⟨b, off, x0, y0, z0, rfl, hn0, hs0⟩ := hkid 0 (by omega)
  obtain ⟨b1, off1, x1, y1, z1, e1, hn1, hs1⟩ := hkid 1 (by omega)
  cases e1
  obtain ⟨b2, off2, x2, y2, z2, e2, hn2, hs2⟩ := hkid 2 (by omega)
  cases e2
  have ok0 := hk.2.2.2 0 (by omega)
  rw [show fnP x.kind 0 = true by rw [hK]; rfl] at ok0
  have HC0 := hide (fun W (hW : Below w.heap.size w W) hl => IF rt W (kp x 0) _ hn0 ok0 (hs.kid (by omega)) (hb.trans (hW.mono hb.size)) hl)
  have ok1 := hk.2.2.2 1 (by omega)
  rw [show fnP x.kind 1 = true by rw [hK]; rfl] at ok1
  have HC1 := hide (fun W (hW : Below w.heap.size w W) hl => IF rt W (kp x 1) _ hn1 ok1 (hs.kid (by omega)) (hb.trans (hW.mono hb.size)) hl)
  have ok2 := hk.2.2.2 2 (by omega)
  rw [show fnP x.kind 2 = true by rw [hK]; rfl] at ok2
  have HC2 := hide (fun W (hW : Below w.heap.size w W) hl => IF rt W (kp x 2) _ hn2 ok2 (hs.kid (by omega)) (hb.trans (hW.mono hb.size)) hl)
  rw [hK, hkl]
  have hm := AM.hm
  have HOP := hide hs.op
  obtain ⟨T0, hT0⟩ : ∃ T0, (TX G m).F (kp x 0) = T0 := ⟨_, rfl⟩
  rw [hT0] at HC0 hl ⊢
  obtain ⟨T1, hT1⟩ : ∃ T1, (TX G m).F (kp x 1) = T1 := ⟨_, rfl⟩
  rw [hT1] at HC1 hl ⊢
  obtain ⟨T2, hT2⟩ : ∃ T2, (TX G m).F (kp x 2) = T2 := ⟨_, rfl⟩
  rw [hT2] at HC2 hl ⊢
  clear hx hk hs IF IE hkid hT hkl hK ok0 hn0 hT0 ok1 hn1 hT1 ok2 hn2 hT2
  generalize x.op = o at *
  generalize x.name = nm at *
  generalize x.pos = ps at *
  generalize (kp x 0).kind = ki0 at *
  generalize (kp x 0).op = op0 at *
  generalize (kp x 0).name = nm0 at *
  generalize (kp x 0).pos = ps0 at *
  generalize (kp x 1).kind = ki1 at *
  generalize (kp x 1).op = op1 at *
  generalize (kp x 1).name = nm1 at *
  generalize (kp x 1).pos = ps1 at *
  generalize (kp x 2).kind = ki2 at *
  generalize (kp x 2).op = op2 at *
  generalize (kp x 2).name = nm2 at *
  generalize (kp x 2).pos = ps2 at *
  simp only [rdT, bL, List.length_append, List.length_cons, List.length_nil] at hl
  obtain ⟨W2, hW2⟩ : ∃ W2, (w.alloc (.cells #[G.s1, G.s2, G.s3, .string G.outer, .string G.power, .string G.opn, .string G.cls, .string G.left, .string G.right, .string G.minus, .string G.quote, .bool G.trains, .bool G.lone, .bool G.square, .string rt] 66)).alloc (.cells (sv (27) (o) nm (v1) (v2) (.slice (some ⟨b, off, none⟩) 3 ck) (ps)) 34) = W2 := ⟨_, rfl⟩
  have hb2 : Below w.heap.size w W2 := by rw [← hW2]; exact two_allocs _ _ _
  have s2 : W2.heap.size = w.heap.size + 2 := by rw [← hW2]; simp
  have hA : W2.heap[w.heap.size]? = some (.cells #[G.s1, G.s2, G.s3, .string G.outer, .string G.power, .string G.opn, .string G.cls, .string G.left, .string G.right, .string G.minus, .string G.quote, .bool G.trains, .bool G.lone, .bool G.square, .string rt] 66 (0, 0)) := by
    rw [← hW2]; exact (Lib.alloc_old _ _ w.heap.size (by simp)).trans (heap_alloc_new w _)
  have hNb : W2.heap[w.heap.size + 1]? = some (.cells (sv (27) (o) nm (v1) (v2) (.slice (some ⟨b, off, none⟩) 3 ck) (ps)) 34 (0, 0)) := by
    have h := heap_alloc_new (w.alloc (.cells #[G.s1, G.s2, G.s3, .string G.outer, .string G.power, .string G.opn, .string G.cls, .string G.left, .string G.right, .string G.minus, .string G.quote, .bool G.trains, .bool G.lone, .bool G.square, .string rt] 66)) (.cells (sv (27) (o) nm (v1) (v2) (.slice (some ⟨b, off, none⟩) 3 ck) (ps)) 34)
    have e : (w.alloc (.cells #[G.s1, G.s2, G.s3, .string G.outer, .string G.power, .string G.opn, .string G.cls, .string G.left, .string G.right, .string G.minus, .string G.quote, .bool G.trains, .bool G.lone, .bool G.square, .string rt] 66)).heap.size = w.heap.size + 1 := by simp
    rw [e] at h
    rw [← hW2]; exact h
  have HB23 : Hid (∀ W, Below W2.heap.size W2 W → Below w.heap.size w W) := hide fun W h => hb2.trans (h.mono hb2.size)
  have KS : Hid (∀ W, Below W2.heap.size W2 W → Below W2.heap.size W2 W ∧ W.cell? ⟨w.heap.size, 0, none⟩ = some (G.s1) ∧ W.cell? ⟨w.heap.size, 1, none⟩ = some (G.s2) ∧ W.cell? ⟨w.heap.size, 2, none⟩ = some (G.s3) ∧ W.cell? ⟨w.heap.size, 3, none⟩ = some (.string G.outer) ∧ W.cell? ⟨w.heap.size, 4, none⟩ = some (.string G.power) ∧ W.cell? ⟨w.heap.size, 5, none⟩ = some (.string G.opn) ∧ W.cell? ⟨w.heap.size, 6, none⟩ = some (.string G.cls) ∧ W.cell? ⟨w.heap.size, 7, none⟩ = some (.string G.left) ∧ W.cell? ⟨w.heap.size, 8, none⟩ = some (.string G.right) ∧ W.cell? ⟨w.heap.size, 9, none⟩ = some (.string G.minus) ∧ W.cell? ⟨w.heap.size, 10, none⟩ = some (.string G.quote) ∧ W.cell? ⟨w.heap.size, 11, none⟩ = some (.bool G.trains) ∧ W.cell? ⟨w.heap.size, 12, none⟩ = some (.bool G.lone) ∧ W.cell? ⟨w.heap.size, 13, none⟩ = some (.bool G.square) ∧ W.cell? ⟨w.heap.size, 14, none⟩ = some (.string rt) ∧ W.cell? ⟨w.heap.size + 1, 0, none⟩ = some (.int .i64 27) ∧ W.cell? ⟨w.heap.size + 1, 1, none⟩ = some (.int .i64 o) ∧ W.cell? ⟨w.heap.size + 1, 2, none⟩ = some (.string nm) ∧ W.cell? ⟨w.heap.size + 1, 3, none⟩ = some (v1) ∧ W.cell? ⟨w.heap.size + 1, 4, none⟩ = some (v2) ∧ W.cell? ⟨w.heap.size + 1, 5, none⟩ = some (.slice (some ⟨b, off, none⟩) 3 ck) ∧ W.cell? ⟨w.heap.size + 1, 6, none⟩ = some (.int .i64 ps) ∧ W.cell? ⟨b, off, none⟩ = some (.int .i64 ki0) ∧ W.cell? ⟨b, off + 1, none⟩ = some (.int .i64 op0) ∧ W.cell? ⟨b, off + 2, none⟩ = some (.string nm0) ∧ W.cell? ⟨b, off + 3, none⟩ = some (x0) ∧ W.cell? ⟨b, off + 4, none⟩ = some (y0) ∧ W.cell? ⟨b, off + 5, none⟩ = some (z0) ∧ W.cell? ⟨b, off + 6, none⟩ = some (.int .i64 ps0) ∧ W.cell? ⟨b, off + 7, none⟩ = some (.int .i64 ki1) ∧ W.cell? ⟨b, off + 8, none⟩ = some (.int .i64 op1) ∧ W.cell? ⟨b, off + 9, none⟩ = some (.string nm1) ∧ W.cell? ⟨b, off + 10, none⟩ = some (x1) ∧ W.cell? ⟨b, off + 11, none⟩ = some (y1) ∧ W.cell? ⟨b, off + 12, none⟩ = some (z1) ∧ W.cell? ⟨b, off + 13, none⟩ = some (.int .i64 ps1) ∧ W.cell? ⟨b, off + 14, none⟩ = some (.int .i64 ki2) ∧ W.cell? ⟨b, off + 15, none⟩ = some (.int .i64 op2) ∧ W.cell? ⟨b, off + 16, none⟩ = some (.string nm2) ∧ W.cell? ⟨b, off + 17, none⟩ = some (x2) ∧ W.cell? ⟨b, off + 18, none⟩ = some (y2) ∧ W.cell? ⟨b, off + 19, none⟩ = some (z2) ∧ W.cell? ⟨b, off + 20, none⟩ = some (.int .i64 ps2)) := hide fun W h => by
    have hA2 := (h.block w.heap.size (by omega)).trans hA
    have hN2 := (h.block (w.heap.size + 1) (by omega)).trans hNb
    have hW0 := hb.trans ((HB23.out W h).mono hb.size)
    obtain ⟨q00, q01, q02, q03, q04, q05, q06⟩ := hs0 W hW0
    obtain ⟨q10, q11, q12, q13, q14, q15, q16⟩ := hs1 W hW0
    obtain ⟨q20, q21, q22, q23, q24, q25, q26⟩ := hs2 W hW0
    exact ⟨h, (Lib.cell_of_heap hA2 0).trans rfl, (Lib.cell_of_heap hA2 1).trans rfl, (Lib.cell_of_heap hA2 2).trans rfl, (Lib.cell_of_heap hA2 3).trans rfl, (Lib.cell_of_heap hA2 4).trans rfl, (Lib.cell_of_heap hA2 5).trans rfl, (Lib.cell_of_heap hA2 6).trans rfl, (Lib.cell_of_heap hA2 7).trans rfl, (Lib.cell_of_heap hA2 8).trans rfl, (Lib.cell_of_heap hA2 9).trans rfl, (Lib.cell_of_heap hA2 10).trans rfl, (Lib.cell_of_heap hA2 11).trans rfl, (Lib.cell_of_heap hA2 12).trans rfl, (Lib.cell_of_heap hA2 13).trans rfl, (Lib.cell_of_heap hA2 14).trans rfl, (Lib.cell_of_heap hN2 0).trans rfl, (Lib.cell_of_heap hN2 1).trans rfl, (Lib.cell_of_heap hN2 2).trans rfl, (Lib.cell_of_heap hN2 3).trans rfl, (Lib.cell_of_heap hN2 4).trans rfl, (Lib.cell_of_heap hN2 5).trans rfl, (Lib.cell_of_heap hN2 6).trans rfl, q00, q01, q02, q03, q04, q05, q06, q10, q11, q12, q13, q14, q15, q16, q20, q21, q22, q23, q24, q25, q26⟩
  have HD0 : Hid (∀ W, Below W2.heap.size W2 W → Calls Tryd.prog 44 #[.agg #[G.s1, G.s2, G.s3, .string G.outer, .string G.power, .string G.opn, .string G.cls, .string G.left, .string G.right, .string G.minus, .string G.quote, .bool G.trains, .bool G.lone, .bool G.square, .string rt], .agg (sv (ki0) (op0) nm0 (x0) (y0) (z0) (ps0))] W fun e w' => e = .returned (.string ⟨T0.toArray⟩) ∧ Below W2.heap.size W2 w') := hide fun W h => (HC0.out W (HB23.out W h) (by omega)).mono (by rintro e w' ⟨rfl, h2⟩; exact ⟨rfl, h.trans (h2.mono h.size)⟩)
  have HD1 : Hid (∀ W, Below W2.heap.size W2 W → Calls Tryd.prog 44 #[.agg #[G.s1, G.s2, G.s3, .string G.outer, .string G.power, .string G.opn, .string G.cls, .string G.left, .string G.right, .string G.minus, .string G.quote, .bool G.trains, .bool G.lone, .bool G.square, .string rt], .agg (sv (ki1) (op1) nm1 (x1) (y1) (z1) (ps1))] W fun e w' => e = .returned (.string ⟨T1.toArray⟩) ∧ Below W2.heap.size W2 w') := hide fun W h => (HC1.out W (HB23.out W h) (by omega)).mono (by rintro e w' ⟨rfl, h2⟩; exact ⟨rfl, h.trans (h2.mono h.size)⟩)
  have HD2 : Hid (∀ W, Below W2.heap.size W2 W → Calls Tryd.prog 44 #[.agg #[G.s1, G.s2, G.s3, .string G.outer, .string G.power, .string G.opn, .string G.cls, .string G.left, .string G.right, .string G.minus, .string G.quote, .bool G.trains, .bool G.lone, .bool G.square, .string rt], .agg (sv (ki2) (op2) nm2 (x2) (y2) (z2) (ps2))] W fun e w' => e = .returned (.string ⟨T2.toArray⟩) ∧ Below W2.heap.size W2 w') := hide fun W h => (HC2.out W (HB23.out W h) (by omega)).mono (by rintro e w' ⟨rfl, h2⟩; exact ⟨rfl, h.trans (h2.mono h.size)⟩)
  have HR : Hid (∀ W, Below W2.heap.size W2 W → Calls Tryd.prog 65 #[.string ((⟨T0.toArray⟩ : ByteArray) ++ ⟨#[32]⟩ ++ ⟨T1.toArray⟩ ++ ⟨#[32]⟩ ++ ⟨T2.toArray⟩)] W fun e w' => e = .returned (.string (str (rdT (T0 ++ ([32] ++ T1) ++ ([32] ++ T2))))) ∧ Below W2.heap.size W2 w') := hide fun W h => by
    have e : (⟨T0.toArray⟩ : ByteArray) ++ ⟨#[32]⟩ ++ ⟨T1.toArray⟩ ++ ⟨#[32]⟩ ++ ⟨T2.toArray⟩ = ⟨(T0 ++ ([32] ++ T1) ++ ([32] ++ T2)).toArray⟩ := by
      rw [cat3 T0 T1, cat3]
    rw [e]
    exact (round65 _ W (by simp only [List.length_append, List.length_cons, List.length_nil]; omega)).mono (by rintro e w' ⟨rfl, rfl⟩; exact ⟨rfl, h⟩)
  have l1 : ¬ (9223372036854775807 < T0.length + 1) := by omega
  have l2 : ¬ (9223372036854775807 < T0.length + 1 + T1.length) := by omega
  have l3 : ¬ (9223372036854775807 < T0.length + 1 + T1.length + 1) := by omega
  have l4 : ¬ (9223372036854775807 < T0.length + 1 + T1.length + 1 + T2.length) := by omega
  have HD : Hid (Below W2.heap.size W2 W2.drew) := hide ((Below.refl _ _).drew)
  obtain ⟨-, -, -, -, -, -, -, -, -, -, -, -, -, -, -, -, n0, -, -, -, -, -, -, -, -, -, -, -, -, -, -, -, -, -, -, -, -, -, -, -, -, -, -, -⟩ := KS.out W2 (Below.refl _ _)
  unfold tV
  go_enter Tryd.func44, Tryd.ntmps44
  go_upto_region 1 with fail
  try rw [hW2]
  clear hW2 hA hNb hb2 HC0 hs0 HC1 hs1 HC2 hs2
  go_upto_region 9 with fail
  clear n0
  go_region_held3 (fun W => Below W2.heap.size W2 W ∧ W.cell? ⟨w.heap.size, 0, none⟩ = some (G.s1) ∧ W.cell? ⟨w.heap.size, 1, none⟩ = some (G.s2) ∧ W.cell? ⟨w.heap.size, 2, none⟩ = some (G.s3) ∧ W.cell? ⟨w.heap.size, 3, none⟩ = some (.string G.outer) ∧ W.cell? ⟨w.heap.size, 4, none⟩ = some (.string G.power) ∧ W.cell? ⟨w.heap.size, 5, none⟩ = some (.string G.opn) ∧ W.cell? ⟨w.heap.size, 6, none⟩ = some (.string G.cls) ∧ W.cell? ⟨w.heap.size, 7, none⟩ = some (.string G.left) ∧ W.cell? ⟨w.heap.size, 8, none⟩ = some (.string G.right) ∧ W.cell? ⟨w.heap.size, 9, none⟩ = some (.string G.minus) ∧ W.cell? ⟨w.heap.size, 10, none⟩ = some (.string G.quote) ∧ W.cell? ⟨w.heap.size, 11, none⟩ = some (.bool G.trains) ∧ W.cell? ⟨w.heap.size, 12, none⟩ = some (.bool G.lone) ∧ W.cell? ⟨w.heap.size, 13, none⟩ = some (.bool G.square) ∧ W.cell? ⟨w.heap.size, 14, none⟩ = some (.string rt) ∧ W.cell? ⟨w.heap.size + 1, 0, none⟩ = some (.int .i64 27) ∧ W.cell? ⟨w.heap.size + 1, 1, none⟩ = some (.int .i64 o) ∧ W.cell? ⟨w.heap.size + 1, 2, none⟩ = some (.string nm) ∧ W.cell? ⟨w.heap.size + 1, 3, none⟩ = some (v1) ∧ W.cell? ⟨w.heap.size + 1, 4, none⟩ = some (v2) ∧ W.cell? ⟨w.heap.size + 1, 5, none⟩ = some (.slice (some ⟨b, off, none⟩) 3 ck) ∧ W.cell? ⟨w.heap.size + 1, 6, none⟩ = some (.int .i64 ps) ∧ W.cell? ⟨b, off, none⟩ = some (.int .i64 ki0) ∧ W.cell? ⟨b, off + 1, none⟩ = some (.int .i64 op0) ∧ W.cell? ⟨b, off + 2, none⟩ = some (.string nm0) ∧ W.cell? ⟨b, off + 3, none⟩ = some (x0) ∧ W.cell? ⟨b, off + 4, none⟩ = some (y0) ∧ W.cell? ⟨b, off + 5, none⟩ = some (z0) ∧ W.cell? ⟨b, off + 6, none⟩ = some (.int .i64 ps0) ∧ W.cell? ⟨b, off + 7, none⟩ = some (.int .i64 ki1) ∧ W.cell? ⟨b, off + 8, none⟩ = some (.int .i64 op1) ∧ W.cell? ⟨b, off + 9, none⟩ = some (.string nm1) ∧ W.cell? ⟨b, off + 10, none⟩ = some (x1) ∧ W.cell? ⟨b, off + 11, none⟩ = some (y1) ∧ W.cell? ⟨b, off + 12, none⟩ = some (z1) ∧ W.cell? ⟨b, off + 13, none⟩ = some (.int .i64 ps1) ∧ W.cell? ⟨b, off + 14, none⟩ = some (.int .i64 ki2) ∧ W.cell? ⟨b, off + 15, none⟩ = some (.int .i64 op2) ∧ W.cell? ⟨b, off + 16, none⟩ = some (.string nm2) ∧ W.cell? ⟨b, off + 17, none⟩ = some (x2) ∧ W.cell? ⟨b, off + 18, none⟩ = some (y2) ∧ W.cell? ⟨b, off + 19, none⟩ = some (z2) ∧ W.cell? ⟨b, off + 20, none⟩ = some (.int .i64 ps2)) (first | with_reducible exact KS.out _ HD.out | with_reducible exact KS.out _ (by with_reducible assumption)) (first | (go_at_call 44; with_reducible refine (HD0.out _ (by first | with_reducible exact HD.out | with_reducible assumption)).mono ?_; rintro e wq ⟨rfl, hbq⟩) | (go_at_call 44; with_reducible refine (HD1.out _ (by first | with_reducible exact HD.out | with_reducible assumption)).mono ?_; rintro e wq ⟨rfl, hbq⟩) | (go_at_call 44; with_reducible refine (HD2.out _ (by first | with_reducible exact HD.out | with_reducible assumption)).mono ?_; rintro e wq ⟨rfl, hbq⟩) | (go_at_call 65; refine (HR.out _ (by first | with_reducible exact HD.out | with_reducible assumption)).mono ?_; rintro e wq ⟨rfl, hbq⟩))
  go_wp2
  go_ret
  refine ⟨?_, HB23.out _ (by with_reducible assumption)⟩
  show Ending.returned (Value.string (str (rdT (T0 ++ 32 :: (T1 ++ 32 :: T2))))) = _
  simp [List.append_assoc]
set_option maxHeartbeats 4000000 in
theorem rf25 {n m : Nat} {w0 : World} {G : Gs} (AM : Rm G) (IF : RF n m w0 G) (rt : ByteArray) (w : World) (x : Nd) (v : Value) (hx : NdIn (m + 1) n 0 w0 x v) (hk : okN (m + 1) true x) (hs : sndA x) (hb : Below w0.heap.size w0 w) (hK : x.kind = 25) (hl : (fnT G (TX G m) x).length ≤ 140737488355328) :
    Calls Tryd.prog 44 #[tV G rt, v] w fun e w' => e = .returned (.string (str (fnT G (TX G m) x))) ∧ Below w.heap.size w w' := by
  obtain ⟨v1, v2, ak, ck, rfl, hv1, hA0, hkid⟩ := nd_kids hx
  have hkl : x.kids.length = 1 := by have := hk.1; rw [hK] at this; unfold arK at this; simp at this; first | omega | (rw [this]; rfl)
  have hT : fnT G (TX G m) x = bL G.outer ++ ([32] ++ (if (kp x 0).kind = 24 ∨ (kp x 0).kind = 25 ∨ (kp x 0).kind = 26 then rdT ((TX G m).F (kp x 0)) else (TX G m).F (kp x 0))) := by simp [fnT, hK]
  rw [hT] at hl ⊢
  obtain ⟨b, off, x0, y0, z0, rfl, hn0, hs0⟩ := hkid 0 (by omega)
  have ok0 := hk.2.2.2 0 (by omega)
  rw [show fnP x.kind 0 = true by rw [hK]; rfl] at ok0
  obtain ⟨⟨da, la, ea, rfl⟩, ⟨db, lb, eb, rfl⟩, ⟨dc, lc, ec, rfl⟩⟩ := nd_slices hn0
  have HC0 := hide (fun W (hW : Below w.heap.size w W) hl => IF rt W (kp x 0) _ hn0 ok0 (hs.kid (by omega)) (hb.trans (hW.mono hb.size)) hl)
  rw [hK, hkl]
  have hm := AM.hm
  obtain ⟨T0, hT0⟩ : ∃ T0, (TX G m).F (kp x 0) = T0 := ⟨_, rfl⟩
  rw [hT0] at HC0 hl ⊢
  clear hx hk hs IF hkid hT hkl hK ok0 hn0 hT0
  generalize x.op = o at *
  generalize x.name = nm at *
  generalize x.pos = ps at *
  generalize (kp x 0).kind = ki0 at *
  generalize (kp x 0).op = op0 at *
  generalize (kp x 0).name = nm0 at *
  generalize (kp x 0).pos = ps0 at *
  obtain ⟨W2, hW2⟩ : ∃ W2, (w.alloc (.cells #[G.s1, G.s2, G.s3, .string G.outer, .string G.power, .string G.opn, .string G.cls, .string G.left, .string G.right, .string G.minus, .string G.quote, .bool G.trains, .bool G.lone, .bool G.square, .string rt] 66)).alloc (.cells (sv (25) (o) nm (v1) (v2) (.slice (some ⟨b, off, none⟩) 1 ck) (ps)) 34) = W2 := ⟨_, rfl⟩
  have hb2 : Below w.heap.size w W2 := by rw [← hW2]; exact two_allocs _ _ _
  have s2 : W2.heap.size = w.heap.size + 2 := by rw [← hW2]; simp
  have hA : W2.heap[w.heap.size]? = some (.cells #[G.s1, G.s2, G.s3, .string G.outer, .string G.power, .string G.opn, .string G.cls, .string G.left, .string G.right, .string G.minus, .string G.quote, .bool G.trains, .bool G.lone, .bool G.square, .string rt] 66 (0, 0)) := by
    rw [← hW2]; exact (Lib.alloc_old _ _ w.heap.size (by simp)).trans (heap_alloc_new w _)
  have hNb : W2.heap[w.heap.size + 1]? = some (.cells (sv (25) (o) nm (v1) (v2) (.slice (some ⟨b, off, none⟩) 1 ck) (ps)) 34 (0, 0)) := by
    have h := heap_alloc_new (w.alloc (.cells #[G.s1, G.s2, G.s3, .string G.outer, .string G.power, .string G.opn, .string G.cls, .string G.left, .string G.right, .string G.minus, .string G.quote, .bool G.trains, .bool G.lone, .bool G.square, .string rt] 66)) (.cells (sv (25) (o) nm (v1) (v2) (.slice (some ⟨b, off, none⟩) 1 ck) (ps)) 34)
    have e : (w.alloc (.cells #[G.s1, G.s2, G.s3, .string G.outer, .string G.power, .string G.opn, .string G.cls, .string G.left, .string G.right, .string G.minus, .string G.quote, .bool G.trains, .bool G.lone, .bool G.square, .string rt] 66)).heap.size = w.heap.size + 1 := by simp
    rw [e] at h
    rw [← hW2]; exact h
  have HB22 : Hid (∀ W, Below W2.heap.size W2 W → Below w.heap.size w W) := hide fun W h => hb2.trans (h.mono hb2.size)
  have n0 : W2.cell? ⟨w.heap.size + 1, 0, none⟩ = some (.int .i64 25) := (Lib.cell_of_heap hNb 0).trans rfl
  have n5 : W2.cell? ⟨w.heap.size + 1, 5, none⟩ = some (.slice (some ⟨b, off, none⟩) 1 ck) := (Lib.cell_of_heap hNb 5).trans rfl
  obtain ⟨q0, q1, q2, q3, q4, q5, q6⟩ := hs0 W2 (hb.trans (hb2.mono hb.size))
  rw [Nat.zero_mul, Nat.add_zero] at q0 q1 q2 q3 q4 q5 q6
  obtain ⟨W3, hW3⟩ : ∃ W3, W2.alloc (.cells (sv (ki0) (op0) nm0 (.slice da la ea) (.slice db lb eb) (.slice dc lc ec) (ps0)) 34) = W3 := ⟨_, rfl⟩
  have hb3 : Below W2.heap.size W2 W3 := by rw [← hW3]; exact alloc_one _ _
  have s3 : W3.heap.size = w.heap.size + 3 := by rw [← hW3]; simp [s2]
  have hC : W3.heap[w.heap.size + 2]? = some (.cells (sv (ki0) (op0) nm0 (.slice da la ea) (.slice db lb eb) (.slice dc lc ec) (ps0)) 34 (0, 0)) := by rw [← hW3, ← s2]; exact heap_alloc_new W2 _
  have hA3 : W3.heap[w.heap.size]? = _ := (hb3.block w.heap.size (by omega)).trans hA
  have HB23 : Hid (∀ W, Below W3.heap.size W3 W → Below w.heap.size w W) := hide fun W h => HB22.out W (hb3.trans (h.mono hb3.size))
  have KS : Hid (∀ W, Below W3.heap.size W3 W → Below W3.heap.size W3 W ∧ W.cell? ⟨w.heap.size, 0, none⟩ = some (G.s1) ∧ W.cell? ⟨w.heap.size, 1, none⟩ = some (G.s2) ∧ W.cell? ⟨w.heap.size, 2, none⟩ = some (G.s3) ∧ W.cell? ⟨w.heap.size, 3, none⟩ = some (.string G.outer) ∧ W.cell? ⟨w.heap.size, 4, none⟩ = some (.string G.power) ∧ W.cell? ⟨w.heap.size, 5, none⟩ = some (.string G.opn) ∧ W.cell? ⟨w.heap.size, 6, none⟩ = some (.string G.cls) ∧ W.cell? ⟨w.heap.size, 7, none⟩ = some (.string G.left) ∧ W.cell? ⟨w.heap.size, 8, none⟩ = some (.string G.right) ∧ W.cell? ⟨w.heap.size, 9, none⟩ = some (.string G.minus) ∧ W.cell? ⟨w.heap.size, 10, none⟩ = some (.string G.quote) ∧ W.cell? ⟨w.heap.size, 11, none⟩ = some (.bool G.trains) ∧ W.cell? ⟨w.heap.size, 12, none⟩ = some (.bool G.lone) ∧ W.cell? ⟨w.heap.size, 13, none⟩ = some (.bool G.square) ∧ W.cell? ⟨w.heap.size, 14, none⟩ = some (.string rt) ∧ W.cell? ⟨w.heap.size + 2, 0, none⟩ = some (.int .i64 ki0) ∧ W.cell? ⟨w.heap.size + 2, 1, none⟩ = some (.int .i64 op0) ∧ W.cell? ⟨w.heap.size + 2, 2, none⟩ = some (.string nm0) ∧ W.cell? ⟨w.heap.size + 2, 3, none⟩ = some (.slice da la ea) ∧ W.cell? ⟨w.heap.size + 2, 4, none⟩ = some (.slice db lb eb) ∧ W.cell? ⟨w.heap.size + 2, 5, none⟩ = some (.slice dc lc ec) ∧ W.cell? ⟨w.heap.size + 2, 6, none⟩ = some (.int .i64 ps0)) := hide fun W h => by
    have hA2 := (h.block w.heap.size (by omega)).trans hA3
    have hN2 := (h.block (w.heap.size + 2) (by omega)).trans hC
    exact ⟨h, (Lib.cell_of_heap hA2 0).trans rfl, (Lib.cell_of_heap hA2 1).trans rfl, (Lib.cell_of_heap hA2 2).trans rfl, (Lib.cell_of_heap hA2 3).trans rfl, (Lib.cell_of_heap hA2 4).trans rfl, (Lib.cell_of_heap hA2 5).trans rfl, (Lib.cell_of_heap hA2 6).trans rfl, (Lib.cell_of_heap hA2 7).trans rfl, (Lib.cell_of_heap hA2 8).trans rfl, (Lib.cell_of_heap hA2 9).trans rfl, (Lib.cell_of_heap hA2 10).trans rfl, (Lib.cell_of_heap hA2 11).trans rfl, (Lib.cell_of_heap hA2 12).trans rfl, (Lib.cell_of_heap hA2 13).trans rfl, (Lib.cell_of_heap hA2 14).trans rfl, (Lib.cell_of_heap hN2 0).trans rfl, (Lib.cell_of_heap hN2 1).trans rfl, (Lib.cell_of_heap hN2 2).trans rfl, (Lib.cell_of_heap hN2 3).trans rfl, (Lib.cell_of_heap hN2 4).trans rfl, (Lib.cell_of_heap hN2 5).trans rfl, (Lib.cell_of_heap hN2 6).trans rfl⟩
  have hps : G.outer.data.toList.length = G.outer.size := by simp
  have hTl : T0.length + G.outer.size ≤ 140737488355328 := by
    split at hl <;> simp only [rdT, bL, List.length_append, List.length_cons, List.length_nil] at hl <;> omega
  have HD0 : Hid (∀ W, Below W3.heap.size W3 W → Calls Tryd.prog 44 #[.agg #[G.s1, G.s2, G.s3, .string G.outer, .string G.power, .string G.opn, .string G.cls, .string G.left, .string G.right, .string G.minus, .string G.quote, .bool G.trains, .bool G.lone, .bool G.square, .string rt], .agg (sv (ki0) (op0) nm0 (.slice da la ea) (.slice db lb eb) (.slice dc lc ec) (ps0))] W fun e w' => e = .returned (.string ⟨T0.toArray⟩) ∧ Below W3.heap.size W3 w') := hide fun W h => (HC0.out W (HB23.out W h) (by omega)).mono (by rintro e w' ⟨rfl, h2⟩; exact ⟨rfl, h.trans (h2.mono h.size)⟩)
  have HR : Hid (∀ W, Below W3.heap.size W3 W → Calls Tryd.prog 65 #[.string ⟨T0.toArray⟩] W fun e w' => e = .returned (.string ⟨(rdT T0).toArray⟩) ∧ Below W3.heap.size W3 w') := hide fun W h => (round65 _ W (by omega)).mono (by rintro e w' ⟨rfl, rfl⟩; exact ⟨rfl, h⟩)
  have HD : Hid (Below W3.heap.size W3 W3.drew) := hide ((Below.refl _ _).drew)
  have l1 : ¬ (9223372036854775807 < G.outer.size + 1) := by omega
  have l2 : ¬ (9223372036854775807 < G.outer.size + 1 + T0.length) := by omega
  obtain ⟨R0, hR0⟩ : ∃ R, rdT T0 = R := ⟨_, rfl⟩
  have hRl : R0.length = T0.length + 4 := by rw [← hR0]; simp [rdT]
  have l3 : ¬ (9223372036854775807 < G.outer.size + 1 + R0.length) := by omega
  rw [hR0] at HR ⊢
  have HRT : Hid (((ki0 = 24 ∨ ki0 = 25 ∨ ki0 = 26) → (if ki0 = 24 ∨ ki0 = 25 ∨ ki0 = 26 then R0 else T0) = R0) ∧ (¬ (ki0 = 24 ∨ ki0 = 25 ∨ ki0 = 26) → (if ki0 = 24 ∨ ki0 = 25 ∨ ki0 = 26 then R0 else T0) = T0)) := hide ⟨fun h => if_pos h, fun h => if_neg h⟩
  obtain ⟨RT, hRT⟩ : ∃ RT, (if ki0 = 24 ∨ ki0 = 25 ∨ ki0 = 26 then R0 else T0) = RT := ⟨_, rfl⟩
  rw [hRT] at HRT ⊢
  unfold tV
  go_enter Tryd.func44, Tryd.ntmps44
  go_upto_region 1 with fail
  try rw [hW2]
  clear hW2 hA hNb hb2 HC0 hs0 hA3 hps hTl hRl hR0 hRT
  go_upto_region 14 with fail
  try rw [hW3]
  obtain ⟨-, -, -, -, t3, -, -, -, -, -, -, -, -, -, -, -, c0, -⟩ := KS.out W3 (Below.refl _ _)
  clear n0 n5 q0 q1 q2 q3 q4 q5 q6 hW3 hb3 hC
  by_cases hkd : ki0 = 24 ∨ ki0 = 25 ∨ ki0 = 26
  · have HE := hide (HRT.out.1 hkd)
    clear HRT
    rcases hkd with rfl | rfl | rfl
    · go_upto_region 15 with fail
      clear c0 t3
      go_region_held3 (fun W => Below W3.heap.size W3 W ∧ W.cell? ⟨w.heap.size, 0, none⟩ = some (G.s1) ∧ W.cell? ⟨w.heap.size, 1, none⟩ = some (G.s2) ∧ W.cell? ⟨w.heap.size, 2, none⟩ = some (G.s3) ∧ W.cell? ⟨w.heap.size, 3, none⟩ = some (.string G.outer) ∧ W.cell? ⟨w.heap.size, 4, none⟩ = some (.string G.power) ∧ W.cell? ⟨w.heap.size, 5, none⟩ = some (.string G.opn) ∧ W.cell? ⟨w.heap.size, 6, none⟩ = some (.string G.cls) ∧ W.cell? ⟨w.heap.size, 7, none⟩ = some (.string G.left) ∧ W.cell? ⟨w.heap.size, 8, none⟩ = some (.string G.right) ∧ W.cell? ⟨w.heap.size, 9, none⟩ = some (.string G.minus) ∧ W.cell? ⟨w.heap.size, 10, none⟩ = some (.string G.quote) ∧ W.cell? ⟨w.heap.size, 11, none⟩ = some (.bool G.trains) ∧ W.cell? ⟨w.heap.size, 12, none⟩ = some (.bool G.lone) ∧ W.cell? ⟨w.heap.size, 13, none⟩ = some (.bool G.square) ∧ W.cell? ⟨w.heap.size, 14, none⟩ = some (.string rt) ∧ W.cell? ⟨w.heap.size + 2, 0, none⟩ = some (.int .i64 24) ∧ W.cell? ⟨w.heap.size + 2, 1, none⟩ = some (.int .i64 op0) ∧ W.cell? ⟨w.heap.size + 2, 2, none⟩ = some (.string nm0) ∧ W.cell? ⟨w.heap.size + 2, 3, none⟩ = some (.slice da la ea) ∧ W.cell? ⟨w.heap.size + 2, 4, none⟩ = some (.slice db lb eb) ∧ W.cell? ⟨w.heap.size + 2, 5, none⟩ = some (.slice dc lc ec) ∧ W.cell? ⟨w.heap.size + 2, 6, none⟩ = some (.int .i64 ps0)) (first | with_reducible exact KS.out _ HD.out | with_reducible exact KS.out _ (by with_reducible assumption)) (first | (go_at_call 44; with_reducible refine (HD0.out _ (by first | with_reducible exact HD.out | with_reducible assumption)).mono ?_; rintro e wq ⟨rfl, hbq⟩) | (go_at_call 65; with_reducible refine (HR.out _ (by first | with_reducible exact HD.out | with_reducible assumption)).mono ?_; rintro e wq ⟨rfl, hbq⟩))
      go_wp2
      go_ret
      refine ⟨?_, HB23.out _ (by with_reducible assumption)⟩
      rw [HE.out]
      exact congrArg (fun s => Ending.returned (Value.string s)) (catO G.outer _)
    
    · go_upto_region 15 with fail
      clear c0 t3
      go_region_held3 (fun W => Below W3.heap.size W3 W ∧ W.cell? ⟨w.heap.size, 0, none⟩ = some (G.s1) ∧ W.cell? ⟨w.heap.size, 1, none⟩ = some (G.s2) ∧ W.cell? ⟨w.heap.size, 2, none⟩ = some (G.s3) ∧ W.cell? ⟨w.heap.size, 3, none⟩ = some (.string G.outer) ∧ W.cell? ⟨w.heap.size, 4, none⟩ = some (.string G.power) ∧ W.cell? ⟨w.heap.size, 5, none⟩ = some (.string G.opn) ∧ W.cell? ⟨w.heap.size, 6, none⟩ = some (.string G.cls) ∧ W.cell? ⟨w.heap.size, 7, none⟩ = some (.string G.left) ∧ W.cell? ⟨w.heap.size, 8, none⟩ = some (.string G.right) ∧ W.cell? ⟨w.heap.size, 9, none⟩ = some (.string G.minus) ∧ W.cell? ⟨w.heap.size, 10, none⟩ = some (.string G.quote) ∧ W.cell? ⟨w.heap.size, 11, none⟩ = some (.bool G.trains) ∧ W.cell? ⟨w.heap.size, 12, none⟩ = some (.bool G.lone) ∧ W.cell? ⟨w.heap.size, 13, none⟩ = some (.bool G.square) ∧ W.cell? ⟨w.heap.size, 14, none⟩ = some (.string rt) ∧ W.cell? ⟨w.heap.size + 2, 0, none⟩ = some (.int .i64 25) ∧ W.cell? ⟨w.heap.size + 2, 1, none⟩ = some (.int .i64 op0) ∧ W.cell? ⟨w.heap.size + 2, 2, none⟩ = some (.string nm0) ∧ W.cell? ⟨w.heap.size + 2, 3, none⟩ = some (.slice da la ea) ∧ W.cell? ⟨w.heap.size + 2, 4, none⟩ = some (.slice db lb eb) ∧ W.cell? ⟨w.heap.size + 2, 5, none⟩ = some (.slice dc lc ec) ∧ W.cell? ⟨w.heap.size + 2, 6, none⟩ = some (.int .i64 ps0)) (first | with_reducible exact KS.out _ HD.out | with_reducible exact KS.out _ (by with_reducible assumption)) (first | (go_at_call 44; with_reducible refine (HD0.out _ (by first | with_reducible exact HD.out | with_reducible assumption)).mono ?_; rintro e wq ⟨rfl, hbq⟩) | (go_at_call 65; with_reducible refine (HR.out _ (by first | with_reducible exact HD.out | with_reducible assumption)).mono ?_; rintro e wq ⟨rfl, hbq⟩))
      go_wp2
      go_ret
      refine ⟨?_, HB23.out _ (by with_reducible assumption)⟩
      rw [HE.out]
      exact congrArg (fun s => Ending.returned (Value.string s)) (catO G.outer _)
    
    · go_upto_region 15 with fail
      clear c0 t3
      go_region_held3 (fun W => Below W3.heap.size W3 W ∧ W.cell? ⟨w.heap.size, 0, none⟩ = some (G.s1) ∧ W.cell? ⟨w.heap.size, 1, none⟩ = some (G.s2) ∧ W.cell? ⟨w.heap.size, 2, none⟩ = some (G.s3) ∧ W.cell? ⟨w.heap.size, 3, none⟩ = some (.string G.outer) ∧ W.cell? ⟨w.heap.size, 4, none⟩ = some (.string G.power) ∧ W.cell? ⟨w.heap.size, 5, none⟩ = some (.string G.opn) ∧ W.cell? ⟨w.heap.size, 6, none⟩ = some (.string G.cls) ∧ W.cell? ⟨w.heap.size, 7, none⟩ = some (.string G.left) ∧ W.cell? ⟨w.heap.size, 8, none⟩ = some (.string G.right) ∧ W.cell? ⟨w.heap.size, 9, none⟩ = some (.string G.minus) ∧ W.cell? ⟨w.heap.size, 10, none⟩ = some (.string G.quote) ∧ W.cell? ⟨w.heap.size, 11, none⟩ = some (.bool G.trains) ∧ W.cell? ⟨w.heap.size, 12, none⟩ = some (.bool G.lone) ∧ W.cell? ⟨w.heap.size, 13, none⟩ = some (.bool G.square) ∧ W.cell? ⟨w.heap.size, 14, none⟩ = some (.string rt) ∧ W.cell? ⟨w.heap.size + 2, 0, none⟩ = some (.int .i64 26) ∧ W.cell? ⟨w.heap.size + 2, 1, none⟩ = some (.int .i64 op0) ∧ W.cell? ⟨w.heap.size + 2, 2, none⟩ = some (.string nm0) ∧ W.cell? ⟨w.heap.size + 2, 3, none⟩ = some (.slice da la ea) ∧ W.cell? ⟨w.heap.size + 2, 4, none⟩ = some (.slice db lb eb) ∧ W.cell? ⟨w.heap.size + 2, 5, none⟩ = some (.slice dc lc ec) ∧ W.cell? ⟨w.heap.size + 2, 6, none⟩ = some (.int .i64 ps0)) (first | with_reducible exact KS.out _ HD.out | with_reducible exact KS.out _ (by with_reducible assumption)) (first | (go_at_call 44; with_reducible refine (HD0.out _ (by first | with_reducible exact HD.out | with_reducible assumption)).mono ?_; rintro e wq ⟨rfl, hbq⟩) | (go_at_call 65; with_reducible refine (HR.out _ (by first | with_reducible exact HD.out | with_reducible assumption)).mono ?_; rintro e wq ⟨rfl, hbq⟩))
      go_wp2
      go_ret
      refine ⟨?_, HB23.out _ (by with_reducible assumption)⟩
      rw [HE.out]
      exact congrArg (fun s => Ending.returned (Value.string s)) (catO G.outer _)
  · have HE := hide (HRT.out.2 hkd)
    clear HRT
    have h24 : (ki0 == 24) = false := beq_eq_false_iff_ne.2 (fun h => hkd (Or.inl h))
    have h25 : (ki0 == 25) = false := beq_eq_false_iff_ne.2 (fun h => hkd (Or.inr (Or.inl h)))
    have h26 : (ki0 == 26) = false := beq_eq_false_iff_ne.2 (fun h => hkd (Or.inr (Or.inr h)))
    clear hkd
    go_upto_region 16 with fail
    clear c0 t3 h24 h25 h26
    go_region_held3 (fun W => Below W3.heap.size W3 W ∧ W.cell? ⟨w.heap.size, 0, none⟩ = some (G.s1) ∧ W.cell? ⟨w.heap.size, 1, none⟩ = some (G.s2) ∧ W.cell? ⟨w.heap.size, 2, none⟩ = some (G.s3) ∧ W.cell? ⟨w.heap.size, 3, none⟩ = some (.string G.outer) ∧ W.cell? ⟨w.heap.size, 4, none⟩ = some (.string G.power) ∧ W.cell? ⟨w.heap.size, 5, none⟩ = some (.string G.opn) ∧ W.cell? ⟨w.heap.size, 6, none⟩ = some (.string G.cls) ∧ W.cell? ⟨w.heap.size, 7, none⟩ = some (.string G.left) ∧ W.cell? ⟨w.heap.size, 8, none⟩ = some (.string G.right) ∧ W.cell? ⟨w.heap.size, 9, none⟩ = some (.string G.minus) ∧ W.cell? ⟨w.heap.size, 10, none⟩ = some (.string G.quote) ∧ W.cell? ⟨w.heap.size, 11, none⟩ = some (.bool G.trains) ∧ W.cell? ⟨w.heap.size, 12, none⟩ = some (.bool G.lone) ∧ W.cell? ⟨w.heap.size, 13, none⟩ = some (.bool G.square) ∧ W.cell? ⟨w.heap.size, 14, none⟩ = some (.string rt) ∧ W.cell? ⟨w.heap.size + 2, 0, none⟩ = some (.int .i64 ki0) ∧ W.cell? ⟨w.heap.size + 2, 1, none⟩ = some (.int .i64 op0) ∧ W.cell? ⟨w.heap.size + 2, 2, none⟩ = some (.string nm0) ∧ W.cell? ⟨w.heap.size + 2, 3, none⟩ = some (.slice da la ea) ∧ W.cell? ⟨w.heap.size + 2, 4, none⟩ = some (.slice db lb eb) ∧ W.cell? ⟨w.heap.size + 2, 5, none⟩ = some (.slice dc lc ec) ∧ W.cell? ⟨w.heap.size + 2, 6, none⟩ = some (.int .i64 ps0)) (first | with_reducible exact KS.out _ HD.out | with_reducible exact KS.out _ (by with_reducible assumption)) (first | (go_at_call 44; with_reducible refine (HD0.out _ (by first | with_reducible exact HD.out | with_reducible assumption)).mono ?_; rintro e wq ⟨rfl, hbq⟩))
    go_wp2
    go_ret
    refine ⟨?_, HB23.out _ (by with_reducible assumption)⟩
    rw [HE.out]
    exact congrArg (fun s => Ending.returned (Value.string s)) (catO G.outer _)
end Go.Proofs.YtneblkdkhlgmcaaDoor
