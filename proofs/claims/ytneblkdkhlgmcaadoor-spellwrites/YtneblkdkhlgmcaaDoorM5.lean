/-
  The writer of a function, of a depth more.
  The writer of operands and expressions, of a depth more; of all depths.
  Whether a program can be written: the checker's functions and its walk; for all programs.
  Names: whether a text may be one, by both; for all texts.
  The checker's walk over a program: the contract of fits; for all programs.
  How many nodes a program has (both), how deep its deepest lies, whether it names an argument: contracts for all programs of no more than so many nodes.
-/
import Derived.Test.YtneblkdkhlgmcaaDoorM4
import Derived.Shelf.Strconv.Itoa4
import Derived.Test.YtneblkdkhlgmcaaDoorProg
import Derived.WalkKit
import Derived.Test.YtneblkdkhlgmcaaDoorChecked
import GoSem.Claim
import GoSem.ClaimJoined
import GoSem.ClaimMapViews
import Derived.JoinedTies
import Derived.KernelRfl
import Derived.ProofKit
import Derived.Below
import Derived.Deep.OwnRows
import Derived.Deep.QuietTactic
import Derived.BigQuiet
import Derived.Deep.RegionWith
import Derived.Lib.AppendIntMem
import Derived.Lib.ConvBytes
import Derived.Lib.Builder
import Derived.Lib.AppendStr
import Derived.Lib.UnsafeStr
import Derived.Deep.LoopGhost
import Derived.Deep.RegionHeld3
import Derived.Lib.MakeNoZero
import Derived.Laws.MakeOwn
import Derived.Laws.BitsAllLaws
import Derived.Lib.Bits
import Derived.Deep.Cut
import Derived.Deep.MidRow
import Derived.OpenShut
import Derived.ChangeOld
import Derived.SizedLaws
import Derived.Deep.Slices
import Derived.Deep.Strs
import Derived.Deep.RegionLaw
import GoSem.ClaimSeven
import Derived.LaidByTextLater
import Derived.SevenTiedAt
import Derived.LaidSub
import Derived.LaidOnce
import Derived.Deep.DeepHandedRow
import Derived.Lib.LaidTab
import Derived.Lay
namespace Go.Proofs.YtneblkdkhlgmcaaDoor
open Go.ChangeShapes Go.WideShapes Go.ChangeAt Go.RowKit
set_option maxRecDepth 100000
set_option linter.unusedVariables false
set_option linter.unusedSimpArgs false
theorem StrR.two {p : Nat} {w : World} (hp : p < w.heap.size) (s1 s2 : ByteArray) : StrR p (w.alloc (.cells #[.string s1, .string s2] 9)) (some ⟨w.heap.size, 0, none⟩) [s1, s2] :=
  ⟨by simp, fun j hj => by
    refine ⟨w.heap.size, 0, rfl, by simp, by omega, ?_, ?_⟩
    · rintro ⟨cs, fz, h⟩
      rw [heap_alloc_new] at h
      cases h
    · have h2 : j < 2 := by simpa using hj
      rcases (by omega : j = 0 ∨ j = 1) with rfl | rfl
      · simp
      · simp⟩
/-- Two pieces more, of a writer at work. -/
theorem St.glue2 {w0 : World} {B : Nat} {w : World} {p : Nat} {G : Gs} {rt : ByteArray} {bg : Bool} {out : List UInt8} (h : St w0 B w p G rt bg out) (s1 s2 : ByteArray) (hl : out.length + s1.size + s2.size ≤ 140737488355328) :
    Calls Tryd.prog 62 #[.pointer (some ⟨p, 0, none⟩), .slice (some ⟨w.heap.size, 0, none⟩) 2 2] (w.alloc (.cells #[.string s1, .string s2] 9)) (GvT B p G rt bg (out ++ (bL s1 ++ bL s2)) w) := by
  obtain ⟨a, v, hw⟩ := h.wr
  have e : fl [s1, s2] = bL s1 ++ bL s2 := by simp [fl, bL]
  have h1 : s1.data.toList.length = s1.size := by simp
  have h2 : s2.data.toList.length = s2.size := by simp
  have h3 := glue62 (hw.next (alloc_one w (.cells #[.string s1, .string s2] 9))) (ad := some ⟨w.heap.size, 0, none⟩) (ws := [s1, s2]) 2 (StrR.two hw.lt s1 s2) (by rw [e, List.length_append]; unfold bL; omega)
  refine h3.mono ?_
  rintro e' w' ⟨rfl, ⟨a', v', hx⟩, hk⟩
  rw [e] at hx
  exact ⟨rfl, ⟨a', v', hx⟩, (Wk.of (alloc_one w _) (Nat.le_trans hw.hB (Nat.le_of_lt hw.lt))).trans hk⟩
set_option maxHeartbeats 4000000 in
theorem fun21 {n m : Nat} {w0 : World} {B p : Nat} {G : Gs} (IF : CF n m w0 B p G) (IE : CE n m w0 B p G) (rt : ByteArray) (bg : Bool) (out : List UInt8) (w : World) (x : Nd) (v : Value) (hx : NdIn (m + 1) n 0 w0 x v) (hk : okN (m + 1) true x) (hs : sndA x) (h : St w0 B w p G rt bg out) (hK : x.kind = 21) (hl : out.length + 1 + (fnT G (TX G m) x).length ≤ 140737488355328) :
    Calls Tryd.prog 61 #[.pointer (some ⟨p, 0, none⟩), v] w (GvT B p G rt true (out ++ (sep bg ++ fnT G (TX G m) x)) w) := by
  have hx0 := hx
  have hk0 := hk
  obtain ⟨v1, v2, ak, ck, rfl, hv1, -, hkid⟩ := nd_kids hx
  have hse := sep_le bg
  have hT : fnT G (TX G m) x = bL x.name := by simp [fnT, hK]
  have hkl : x.kids.length = 0 := by have := hk.1; rw [hK] at this; unfold arK at this; simp at this; first | omega | (rw [this]; rfl)
  rw [hT] at hl ⊢
  rw [hK, hkl]
  have hnb : (bL x.name).length = x.name.size := by simp [bL]
  generalize x.op = o at *
  generalize x.name = nm at *
  generalize x.pos = ps at *
  clear hx hk hs IF IE hkid hT hkl hK hx0 hk0
  obtain ⟨W1, hW1⟩ : ∃ W1, w.alloc (.cells (sv (21) (o) nm (v1) (v2) (.slice ak 0 ck) (ps)) 34) = W1 := ⟨_, rfl⟩
  have hb1 : Below w.heap.size w W1 := by rw [← hW1]; exact alloc_one _ _
  have s1 : W1.heap.size = w.heap.size + 1 := by rw [← hW1]; simp
  have hbx : W1.heap[w.heap.size]? = some (.cells (sv (21) (o) nm (v1) (v2) (.slice ak 0 ck) (ps)) 34 (0, 0)) := by rw [← hW1]; exact heap_alloc_new w _
  have hql : w.heap.size ≠ p := Nat.ne_of_gt h.lt
  have H1 := hide (h.next hb1)
  have HK1 := hide (h.wkn hb1)
  have HB1 := hide hbx
  have k0 : W1.cell? ⟨w.heap.size, 0, none⟩ = some (.int .i64 21) := (Lib.cell_of_heap hbx 0).trans rfl
  have k1 : W1.cell? ⟨w.heap.size, 1, none⟩ = some (.int .i64 o) := (Lib.cell_of_heap hbx 1).trans rfl
  have k2 : W1.cell? ⟨w.heap.size, 2, none⟩ = some (.string nm) := (Lib.cell_of_heap hbx 2).trans rfl
  have k3 : W1.cell? ⟨w.heap.size, 3, none⟩ = some (v1) := (Lib.cell_of_heap hbx 3).trans rfl
  have k4 : W1.cell? ⟨w.heap.size, 4, none⟩ = some (v2) := (Lib.cell_of_heap hbx 4).trans rfl
  have k5 : W1.cell? ⟨w.heap.size, 5, none⟩ = some (.slice ak 0 ck) := (Lib.cell_of_heap hbx 5).trans rfl
  have k6 : W1.cell? ⟨w.heap.size, 6, none⟩ = some (.int .i64 ps) := (Lib.cell_of_heap hbx 6).trans rfl
  clear hb1 hbx
  have HC := hide (H1.out.put nm (by omega))
  rw [s1] at HC
  clear h
  go_enter Tryd.func61, Tryd.ntmps61
  go_wp2_with fail
  refine HC.out.mono ?_
  rintro e w9 ⟨rfl, hx9, hk9⟩
  have HF9 := hide (And.intro hx9 (HK1.out.trans hk9))
  clear hx9 hk9 HC 
  go_wp2
  go_end0
  refine ⟨rfl, ?_, HF9.out.2⟩
  have hx := HF9.out.1
  simpa [sep, rdT, bL, str, List.append_assoc] using hx
set_option maxHeartbeats 4000000 in
theorem fun22 {n m : Nat} {w0 : World} {B p : Nat} {G : Gs} (IF : CF n m w0 B p G) (IE : CE n m w0 B p G) (rt : ByteArray) (bg : Bool) (out : List UInt8) (w : World) (x : Nd) (v : Value) (hx : NdIn (m + 1) n 0 w0 x v) (hk : okN (m + 1) true x) (hs : sndA x) (h : St w0 B w p G rt bg out) (hK : x.kind = 22) (hl : out.length + 1 + (fnT G (TX G m) x).length ≤ 140737488355328) :
    Calls Tryd.prog 61 #[.pointer (some ⟨p, 0, none⟩), v] w (GvT B p G rt true (out ++ (sep bg ++ fnT G (TX G m) x)) w) := by
  have hx0 := hx
  have hk0 := hk
  obtain ⟨v1, v2, ak, ck, rfl, hv1, -, hkid⟩ := nd_kids hx
  have hse := sep_le bg
  have hT : fnT G (TX G m) x = lamT G (TX G m) x := by simp [fnT, hK, lamT, lamR]
  have hkl : x.kids.length = 1 := by have := hk.1; rw [hK] at this; unfold arK at this; simp at this; first | omega | (rw [this]; rfl)
  rw [hT] at hl ⊢
  have HL := hide (fun W (hst : St w0 B W p G rt bg out) hl => lambda76 IE rt bg out W x _ hx0 hk0 (by rw [hK]; simp) hs hst hl)
  rw [hK, hkl] at HL
  rw [hK, hkl]
  obtain ⟨LT, hLT⟩ : ∃ LT, lamT G (TX G m) x = LT := ⟨_, rfl⟩
  rw [hLT] at HL hl ⊢
  generalize x.op = o at *
  generalize x.name = nm at *
  generalize x.pos = ps at *
  clear hx hk hs IF IE hkid hT hkl hK hx0 hk0 hLT
  obtain ⟨W1, hW1⟩ : ∃ W1, w.alloc (.cells (sv (22) (o) nm (v1) (v2) (.slice ak 1 ck) (ps)) 34) = W1 := ⟨_, rfl⟩
  have hb1 : Below w.heap.size w W1 := by rw [← hW1]; exact alloc_one _ _
  have s1 : W1.heap.size = w.heap.size + 1 := by rw [← hW1]; simp
  have hbx : W1.heap[w.heap.size]? = some (.cells (sv (22) (o) nm (v1) (v2) (.slice ak 1 ck) (ps)) 34 (0, 0)) := by rw [← hW1]; exact heap_alloc_new w _
  have hql : w.heap.size ≠ p := Nat.ne_of_gt h.lt
  have H1 := hide (h.next hb1)
  have HK1 := hide (h.wkn hb1)
  have HB1 := hide hbx
  have k0 : W1.cell? ⟨w.heap.size, 0, none⟩ = some (.int .i64 22) := (Lib.cell_of_heap hbx 0).trans rfl
  have k1 : W1.cell? ⟨w.heap.size, 1, none⟩ = some (.int .i64 o) := (Lib.cell_of_heap hbx 1).trans rfl
  have k2 : W1.cell? ⟨w.heap.size, 2, none⟩ = some (.string nm) := (Lib.cell_of_heap hbx 2).trans rfl
  have k3 : W1.cell? ⟨w.heap.size, 3, none⟩ = some (v1) := (Lib.cell_of_heap hbx 3).trans rfl
  have k4 : W1.cell? ⟨w.heap.size, 4, none⟩ = some (v2) := (Lib.cell_of_heap hbx 4).trans rfl
  have k5 : W1.cell? ⟨w.heap.size, 5, none⟩ = some (.slice ak 1 ck) := (Lib.cell_of_heap hbx 5).trans rfl
  have k6 : W1.cell? ⟨w.heap.size, 6, none⟩ = some (.int .i64 ps) := (Lib.cell_of_heap hbx 6).trans rfl
  clear hb1 hbx
  have HC := hide (HL.out W1 H1.out hl)
  clear h HL
  go_enter Tryd.func61, Tryd.ntmps61
  go_wp2_with fail
  refine HC.out.mono ?_
  rintro e w9 ⟨rfl, hx9, hk9⟩
  have HF9 := hide (And.intro hx9 (HK1.out.trans hk9))
  clear hx9 hk9 HC 
  go_wp2
  go_end0
  refine ⟨rfl, ?_, HF9.out.2⟩
  have hx := HF9.out.1
  simpa [sep, rdT, bL, str, List.append_assoc] using hx
set_option maxHeartbeats 4000000 in
theorem fun23 {n m : Nat} {w0 : World} {B p : Nat} {G : Gs} (IF : CF n m w0 B p G) (IE : CE n m w0 B p G) (rt : ByteArray) (bg : Bool) (out : List UInt8) (w : World) (x : Nd) (v : Value) (hx : NdIn (m + 1) n 0 w0 x v) (hk : okN (m + 1) true x) (hs : sndA x) (h : St w0 B w p G rt bg out) (hK : x.kind = 23) (hl : out.length + 1 + (fnT G (TX G m) x).length ≤ 140737488355328) :
    Calls Tryd.prog 61 #[.pointer (some ⟨p, 0, none⟩), v] w (GvT B p G rt true (out ++ (sep bg ++ fnT G (TX G m) x)) w) := by
  have hx0 := hx
  have hk0 := hk
  obtain ⟨v1, v2, ak, ck, rfl, hv1, -, hkid⟩ := nd_kids hx
  have hse := sep_le bg
  have hT : fnT G (TX G m) x = lamT G (TX G m) x := by simp [fnT, hK, lamT, lamR]
  have hkl : x.kids.length = 1 := by have := hk.1; rw [hK] at this; unfold arK at this; simp at this; first | omega | (rw [this]; rfl)
  rw [hT] at hl ⊢
  have HL := hide (fun W (hst : St w0 B W p G rt bg out) hl => lambda76 IE rt bg out W x _ hx0 hk0 (by rw [hK]; simp) hs hst hl)
  rw [hK, hkl] at HL
  rw [hK, hkl]
  obtain ⟨LT, hLT⟩ : ∃ LT, lamT G (TX G m) x = LT := ⟨_, rfl⟩
  rw [hLT] at HL hl ⊢
  generalize x.op = o at *
  generalize x.name = nm at *
  generalize x.pos = ps at *
  clear hx hk hs IF IE hkid hT hkl hK hx0 hk0 hLT
  obtain ⟨W1, hW1⟩ : ∃ W1, w.alloc (.cells (sv (23) (o) nm (v1) (v2) (.slice ak 1 ck) (ps)) 34) = W1 := ⟨_, rfl⟩
  have hb1 : Below w.heap.size w W1 := by rw [← hW1]; exact alloc_one _ _
  have s1 : W1.heap.size = w.heap.size + 1 := by rw [← hW1]; simp
  have hbx : W1.heap[w.heap.size]? = some (.cells (sv (23) (o) nm (v1) (v2) (.slice ak 1 ck) (ps)) 34 (0, 0)) := by rw [← hW1]; exact heap_alloc_new w _
  have hql : w.heap.size ≠ p := Nat.ne_of_gt h.lt
  have H1 := hide (h.next hb1)
  have HK1 := hide (h.wkn hb1)
  have HB1 := hide hbx
  have k0 : W1.cell? ⟨w.heap.size, 0, none⟩ = some (.int .i64 23) := (Lib.cell_of_heap hbx 0).trans rfl
  have k1 : W1.cell? ⟨w.heap.size, 1, none⟩ = some (.int .i64 o) := (Lib.cell_of_heap hbx 1).trans rfl
  have k2 : W1.cell? ⟨w.heap.size, 2, none⟩ = some (.string nm) := (Lib.cell_of_heap hbx 2).trans rfl
  have k3 : W1.cell? ⟨w.heap.size, 3, none⟩ = some (v1) := (Lib.cell_of_heap hbx 3).trans rfl
  have k4 : W1.cell? ⟨w.heap.size, 4, none⟩ = some (v2) := (Lib.cell_of_heap hbx 4).trans rfl
  have k5 : W1.cell? ⟨w.heap.size, 5, none⟩ = some (.slice ak 1 ck) := (Lib.cell_of_heap hbx 5).trans rfl
  have k6 : W1.cell? ⟨w.heap.size, 6, none⟩ = some (.int .i64 ps) := (Lib.cell_of_heap hbx 6).trans rfl
  clear hb1 hbx
  have HC := hide (HL.out W1 H1.out hl)
  clear h HL
  go_enter Tryd.func61, Tryd.ntmps61
  go_wp2_with fail
  refine HC.out.mono ?_
  rintro e w9 ⟨rfl, hx9, hk9⟩
  have HF9 := hide (And.intro hx9 (HK1.out.trans hk9))
  clear hx9 hk9 HC 
  go_wp2
  go_end0
  refine ⟨rfl, ?_, HF9.out.2⟩
  have hx := HF9.out.1
  simpa [sep, rdT, bL, str, List.append_assoc] using hx
set_option maxHeartbeats 4000000 in
theorem fun24 {n m : Nat} {w0 : World} {B p : Nat} {G : Gs} (IF : CF n m w0 B p G) (IE : CE n m w0 B p G) (rt : ByteArray) (bg : Bool) (out : List UInt8) (w : World) (x : Nd) (v : Value) (hx : NdIn (m + 1) n 0 w0 x v) (hk : okN (m + 1) true x) (hs : sndA x) (h : St w0 B w p G rt bg out) (hK : x.kind = 24) (hl : out.length + 1 + (fnT G (TX G m) x).length ≤ 140737488355328) :
    Calls Tryd.prog 61 #[.pointer (some ⟨p, 0, none⟩), v] w (GvT B p G rt true (out ++ (sep bg ++ fnT G (TX G m) x)) w) := by
  have hx0 := hx
  have hk0 := hk
  obtain ⟨v1, v2, ak, ck, rfl, hv1, -, hkid⟩ := nd_kids hx
  have hse := sep_le bg
  have hT : fnT G (TX G m) x = (TX G m).F (kp x 0) ++ bL x.name := by simp [fnT, hK]
  have hkl : x.kids.length = 1 := by have := hk.1; rw [hK] at this; unfold arK at this; simp at this; first | omega | (rw [this]; rfl)
  rw [hT] at hl ⊢
  obtain ⟨b, off, u1, u2, u3, rfl, hnk, h7⟩ := hkid 0 (by omega)
  have hok := hk.2.2.2 0 (by omega)
  rw [show fnP x.kind 0 = true by rw [hK]; rfl] at hok
  have hsk := hs.kid (i := 0) (by omega)
  have H7 : Hid (∀ W, Below w0.heap.size w0 W → Sv7 W b off (kp x 0).kind (kp x 0).op (kp x 0).name u1 u2 u3 (kp x 0).pos) := hide (by simpa only [Nat.zero_mul, Nat.add_zero] using h7)
  have HF := hide (fun bg out w (hst : St w0 B w p G rt bg out) hl => IF rt bg out w (kp x 0) _ hnk hok hsk hst hl)
  rw [hK, hkl]
  obtain ⟨FT, hFT⟩ : ∃ FT, (TX G m).F (kp x 0) = FT := ⟨_, rfl⟩
  rw [hFT] at HF hl ⊢
  have hnb : (bL x.name).length = x.name.size := by simp [bL]
  generalize (kp x 0).kind = k' at *
  generalize (kp x 0).op = o' at *
  generalize (kp x 0).name = nm' at *
  generalize (kp x 0).pos = ps' at *
  generalize x.op = o at *
  generalize x.name = nm at *
  generalize x.pos = ps at *
  simp only [List.length_append] at hl
  clear hx hk hs IF IE hkid hT hkl hK hx0 hk0 hFT hnk h7 hok hsk
  obtain ⟨W1, hW1⟩ : ∃ W1, w.alloc (.cells (sv (24) (o) nm (v1) (v2) (.slice (some ⟨b, off, none⟩) 1 ck) (ps)) 34) = W1 := ⟨_, rfl⟩
  have hb1 : Below w.heap.size w W1 := by rw [← hW1]; exact alloc_one _ _
  have s1 : W1.heap.size = w.heap.size + 1 := by rw [← hW1]; simp
  have hbx : W1.heap[w.heap.size]? = some (.cells (sv (24) (o) nm (v1) (v2) (.slice (some ⟨b, off, none⟩) 1 ck) (ps)) 34 (0, 0)) := by rw [← hW1]; exact heap_alloc_new w _
  have hql : w.heap.size ≠ p := Nat.ne_of_gt h.lt
  have H1 := hide (h.next hb1)
  have HK1 := hide (h.wkn hb1)
  have HB1 := hide hbx
  have k0 : W1.cell? ⟨w.heap.size, 0, none⟩ = some (.int .i64 24) := (Lib.cell_of_heap hbx 0).trans rfl
  have k1 : W1.cell? ⟨w.heap.size, 1, none⟩ = some (.int .i64 o) := (Lib.cell_of_heap hbx 1).trans rfl
  have k2 : W1.cell? ⟨w.heap.size, 2, none⟩ = some (.string nm) := (Lib.cell_of_heap hbx 2).trans rfl
  have k3 : W1.cell? ⟨w.heap.size, 3, none⟩ = some (v1) := (Lib.cell_of_heap hbx 3).trans rfl
  have k4 : W1.cell? ⟨w.heap.size, 4, none⟩ = some (v2) := (Lib.cell_of_heap hbx 4).trans rfl
  have k5 : W1.cell? ⟨w.heap.size, 5, none⟩ = some (.slice (some ⟨b, off, none⟩) 1 ck) := (Lib.cell_of_heap hbx 5).trans rfl
  have k6 : W1.cell? ⟨w.heap.size, 6, none⟩ = some (.int .i64 ps) := (Lib.cell_of_heap hbx 6).trans rfl
  clear hb1 hbx
  have HC := hide (HF.out bg out W1 H1.out (by omega))
  obtain ⟨y0, y1, y2, y3, y4, y5, y6⟩ := H7.out W1 H1.out.old
  clear h HF
  go_enter Tryd.func61, Tryd.ntmps61
  go_wp2_with fail
  refine HC.out.mono ?_
  rintro e w2 g2
  have H2 := hide (H1.out.got g2)
  have HK2 := hide (HK1.out.trans g2.2.2)
  have hb2 := g2.2.2.box HB1.out hql (by decide)
  have HB2 := hide hb2
  obtain rfl := g2.1
  clear g2 HC k0 k1 k2 k3 k4 k5 k6 y0 y1 y2 y3 y4 y5 y6
  have k0 : w2.cell? ⟨w.heap.size, 0, none⟩ = some (.int .i64 24) := (Lib.cell_of_heap hb2 0).trans rfl
  have k1 : w2.cell? ⟨w.heap.size, 1, none⟩ = some (.int .i64 o) := (Lib.cell_of_heap hb2 1).trans rfl
  have k2 : w2.cell? ⟨w.heap.size, 2, none⟩ = some (.string nm) := (Lib.cell_of_heap hb2 2).trans rfl
  have k3 : w2.cell? ⟨w.heap.size, 3, none⟩ = some (v1) := (Lib.cell_of_heap hb2 3).trans rfl
  have k4 : w2.cell? ⟨w.heap.size, 4, none⟩ = some (v2) := (Lib.cell_of_heap hb2 4).trans rfl
  have k5 : w2.cell? ⟨w.heap.size, 5, none⟩ = some (.slice (some ⟨b, off, none⟩) 1 ck) := (Lib.cell_of_heap hb2 5).trans rfl
  have k6 : w2.cell? ⟨w.heap.size, 6, none⟩ = some (.int .i64 ps) := (Lib.cell_of_heap hb2 6).trans rfl
  clear hb2
  have HC := hide (H2.out.glue nm (by simp only [List.length_append]; omega))
  go_wp2_with fail
  refine HC.out.mono ?_
  rintro e w9 ⟨rfl, hx9, hk9⟩
  have HF9 := hide (And.intro hx9 (HK2.out.trans hk9))
  clear hx9 hk9 HC 
  go_wp2
  go_end0
  refine ⟨rfl, ?_, HF9.out.2⟩
  have hx := HF9.out.1
  simpa [sep, rdT, bL, str, List.append_assoc] using hx
set_option maxHeartbeats 4000000 in
theorem fun26 {n m : Nat} {w0 : World} {B p : Nat} {G : Gs} (IF : CF n m w0 B p G) (IE : CE n m w0 B p G) (rt : ByteArray) (bg : Bool) (out : List UInt8) (w : World) (x : Nd) (v : Value) (hx : NdIn (m + 1) n 0 w0 x v) (hk : okN (m + 1) true x) (hs : sndA x) (h : St w0 B w p G rt bg out) (hK : x.kind = 26) (hl : out.length + 1 + (fnT G (TX G m) x).length ≤ 140737488355328) :
    Calls Tryd.prog 61 #[.pointer (some ⟨p, 0, none⟩), v] w (GvT B p G rt true (out ++ (sep bg ++ fnT G (TX G m) x)) w) := by
  have hx0 := hx
  have hk0 := hk
  obtain ⟨v1, v2, ak, ck, rfl, hv1, -, hkid⟩ := nd_kids hx
  have hse := sep_le bg
  have hT : fnT G (TX G m) x = (TX G m).F (kp x 0) ++ (bL G.power ++ numT x.op (bL G.minus)) := by simp [fnT, hK]
  have hkl : x.kids.length = 1 := by have := hk.1; rw [hK] at this; unfold arK at this; simp at this; first | omega | (rw [this]; rfl)
  rw [hT] at hl ⊢
  obtain ⟨b, off, u1, u2, u3, rfl, hnk, h7⟩ := hkid 0 (by omega)
  have hok := hk.2.2.2 0 (by omega)
  rw [show fnP x.kind 0 = true by rw [hK]; rfl] at hok
  have hsk := hs.kid (i := 0) (by omega)
  have H7 : Hid (∀ W, Below w0.heap.size w0 W → Sv7 W b off (kp x 0).kind (kp x 0).op (kp x 0).name u1 u2 u3 (kp x 0).pos) := hide (by simpa only [Nat.zero_mul, Nat.add_zero] using h7)
  have HF := hide (fun bg out w (hst : St w0 B w p G rt bg out) hl => IF rt bg out w (kp x 0) _ hnk hok hsk hst hl)
  rw [hK, hkl]
  obtain ⟨FT, hFT⟩ : ∃ FT, (TX G m).F (kp x 0) = FT := ⟨_, rfl⟩
  rw [hFT] at HF hl ⊢
  have hpb : (bL G.power).length = G.power.size := by simp [bL]
  have ho := hs.op
  obtain ⟨NT, hNT⟩ : ∃ NT, numT x.op (bL G.minus) = NT := ⟨_, rfl⟩
  rw [hNT] at hl ⊢
  have HNT := hide hNT
  generalize (kp x 0).kind = k' at *
  generalize (kp x 0).op = o' at *
  generalize (kp x 0).name = nm' at *
  generalize (kp x 0).pos = ps' at *
  generalize x.op = o at *
  generalize x.name = nm at *
  generalize x.pos = ps at *
  simp only [List.length_append] at hl
  have hsn : (str NT).size = NT.length := by show (str NT).data.size = _; simp [str]
  have hbn : bL (str NT) = NT := by simp [bL, str]
  clear hx hk hs IF IE hkid hT hkl hK hx0 hk0 hFT hnk h7 hok hsk hNT
  obtain ⟨W1, hW1⟩ : ∃ W1, w.alloc (.cells (sv (26) (o) nm (v1) (v2) (.slice (some ⟨b, off, none⟩) 1 ck) (ps)) 34) = W1 := ⟨_, rfl⟩
  have hb1 : Below w.heap.size w W1 := by rw [← hW1]; exact alloc_one _ _
  have s1 : W1.heap.size = w.heap.size + 1 := by rw [← hW1]; simp
  have hbx : W1.heap[w.heap.size]? = some (.cells (sv (26) (o) nm (v1) (v2) (.slice (some ⟨b, off, none⟩) 1 ck) (ps)) 34 (0, 0)) := by rw [← hW1]; exact heap_alloc_new w _
  have hql : w.heap.size ≠ p := Nat.ne_of_gt h.lt
  have H1 := hide (h.next hb1)
  have HK1 := hide (h.wkn hb1)
  have HB1 := hide hbx
  have k0 : W1.cell? ⟨w.heap.size, 0, none⟩ = some (.int .i64 26) := (Lib.cell_of_heap hbx 0).trans rfl
  have k1 : W1.cell? ⟨w.heap.size, 1, none⟩ = some (.int .i64 o) := (Lib.cell_of_heap hbx 1).trans rfl
  have k2 : W1.cell? ⟨w.heap.size, 2, none⟩ = some (.string nm) := (Lib.cell_of_heap hbx 2).trans rfl
  have k3 : W1.cell? ⟨w.heap.size, 3, none⟩ = some (v1) := (Lib.cell_of_heap hbx 3).trans rfl
  have k4 : W1.cell? ⟨w.heap.size, 4, none⟩ = some (v2) := (Lib.cell_of_heap hbx 4).trans rfl
  have k5 : W1.cell? ⟨w.heap.size, 5, none⟩ = some (.slice (some ⟨b, off, none⟩) 1 ck) := (Lib.cell_of_heap hbx 5).trans rfl
  have k6 : W1.cell? ⟨w.heap.size, 6, none⟩ = some (.int .i64 ps) := (Lib.cell_of_heap hbx 6).trans rfl
  clear hb1 hbx
  have HC := hide (HF.out bg out W1 H1.out (by omega))
  obtain ⟨y0, y1, y2, y3, y4, y5, y6⟩ := H7.out W1 H1.out.old
  clear h HF
  go_enter Tryd.func61, Tryd.ntmps61
  go_wp2_with fail
  refine HC.out.mono ?_
  rintro e w2 g2
  have H2 := hide (H1.out.got g2)
  have HK2 := hide (HK1.out.trans g2.2.2)
  have hb2 := g2.2.2.box HB1.out hql (by decide)
  have HB2 := hide hb2
  obtain rfl := g2.1
  clear g2 HC k0 k1 k2 k3 k4 k5 k6 y0 y1 y2 y3 y4 y5 y6
  have k0 : w2.cell? ⟨w.heap.size, 0, none⟩ = some (.int .i64 26) := (Lib.cell_of_heap hb2 0).trans rfl
  have k1 : w2.cell? ⟨w.heap.size, 1, none⟩ = some (.int .i64 o) := (Lib.cell_of_heap hb2 1).trans rfl
  have k2 : w2.cell? ⟨w.heap.size, 2, none⟩ = some (.string nm) := (Lib.cell_of_heap hb2 2).trans rfl
  have k3 : w2.cell? ⟨w.heap.size, 3, none⟩ = some (v1) := (Lib.cell_of_heap hb2 3).trans rfl
  have k4 : w2.cell? ⟨w.heap.size, 4, none⟩ = some (v2) := (Lib.cell_of_heap hb2 4).trans rfl
  have k5 : w2.cell? ⟨w.heap.size, 5, none⟩ = some (.slice (some ⟨b, off, none⟩) 1 ck) := (Lib.cell_of_heap hb2 5).trans rfl
  have k6 : w2.cell? ⟨w.heap.size, 6, none⟩ = some (.int .i64 ps) := (Lib.cell_of_heap hb2 6).trans rfl
  clear hb2
  obtain ⟨aw, vw, hw⟩ := H2.out.wr
  have c4 : w2.cell? ⟨p, 4, none⟩ = some (.string G.power) := hw.all.1.2.1
  have hplt := hw.lt
  have hblt := lt_heap HB2.out
  have HBX : Hid (∀ W, Below w2.heap.size w2 W → W.heap[w.heap.size]? = some (.cells (sv 26 o nm v1 v2 (.slice (some ⟨b, off, none⟩) 1 ck) ps) 34 (0, 0))) := hide fun W hW => (hW.block _ hblt).trans HB2.out
  have KS : Hid (∀ W, Below w2.heap.size w2 W → W.cell? ⟨p, 4, none⟩ = some (.string G.power) ∧ W.cell? ⟨w.heap.size, 1, none⟩ = some (.int .i64 o)) := hide fun W hW => ⟨(hW.cell (p := ⟨p, 4, none⟩) hplt).trans c4, (hW.cell (p := ⟨w.heap.size, 1, none⟩) hblt).trans k1⟩
  have HST : Hid (∀ W, Below w2.heap.size w2 W → St w0 B W p G rt true (out ++ (sep bg ++ FT))) := hide fun W hW => H2.out.next hW
  have HKW : Hid (∀ W, Below w2.heap.size w2 W → Wk B p w W) := hide fun W hW => HK2.out.trans (H2.out.wkn hW)
  have HLB : Hid ((out ++ (sep bg ++ FT)).length + G.power.size + (str NT).size ≤ 140737488355328) := hide (by simp only [List.length_append, hsn]; omega)
  have HD0 : Hid (Below w2.heap.size w2 w2.drew) := hide ((Below.refl w2.heap.size w2).drew)
  have HQ := hide hql
  clear hw c4 k0 k1 k2 k3 k4 k5 k6 HK2 H2 HB2 hse hl
  go_upto_region 13 with fail
  go_region_held3 (fun W => W.cell? ⟨p, 4, none⟩ = some (.string G.power) ∧ W.cell? ⟨w.heap.size, 1, none⟩ = some (.int .i64 o)) (first | with_reducible exact KS.out _ HD0.out | with_reducible exact KS.out _ (by with_reducible assumption) | with_reducible assumption) (first | (go_at_call 60; refine (number60 (HST.out _ HD0.out) o ho).mono ?_; rintro e w3 ⟨rfl, hb3⟩; rw [HNT.out]; have hb4 := HD0.out.trans (hb3.mono HD0.out.size); have hb5 := hb4.alloc hb4.size (.cells #[.string G.power, .string (str NT)] 9)) | (go_at_call 62; refine ((HST.out _ hb4).glue2 G.power (str NT) HLB.out).mono ?_; rintro e w4 ⟨rfl, hx4, hk4⟩; have hs4 := And.intro (show w4.cell? ⟨p, 4, none⟩ = some (.string G.power) from (by obtain ⟨a, v, h9⟩ := hx4; exact h9.all.1.2.1)) (show w4.cell? ⟨w.heap.size, 1, none⟩ = some (.int .i64 o) from (Lib.cell_of_heap (hk4.box (HBX.out _ hb4) HQ.out (by decide)) 1).trans rfl)))
  have HF9 := hide (And.intro hx4 ((HKW.out _ hb4).trans hk4))
  clear hx4 hk4 hb3 hb4 hb5 hs4
  go_wp2
  go_end0
  refine ⟨rfl, ?_, HF9.out.2⟩
  have hx := HF9.out.1
  simpa [hbn, List.append_assoc] using hx
set_option maxHeartbeats 4000000 in
theorem fun25 {n m : Nat} {w0 : World} {B p : Nat} {G : Gs} (IF : CF n m w0 B p G) (IE : CE n m w0 B p G) (rt : ByteArray) (bg : Bool) (out : List UInt8) (w : World) (x : Nd) (v : Value) (hx : NdIn (m + 1) n 0 w0 x v) (hk : okN (m + 1) true x) (hs : sndA x) (h : St w0 B w p G rt bg out) (hK : x.kind = 25) (hl : out.length + 1 + (fnT G (TX G m) x).length ≤ 140737488355328) :
    Calls Tryd.prog 61 #[.pointer (some ⟨p, 0, none⟩), v] w (GvT B p G rt true (out ++ (sep bg ++ fnT G (TX G m) x)) w) := by
  have hx0 := hx
  have hk0 := hk
  obtain ⟨v1, v2, ak, ck, rfl, hv1, -, hkid⟩ := nd_kids hx
  have hse := sep_le bg
  have hT : fnT G (TX G m) x = outT G (TX G m) (kp x 0) := by simp [fnT, hK, outT]
  have hkl : x.kids.length = 1 := by have := hk.1; rw [hK] at this; unfold arK at this; simp at this; first | omega | (rw [this]; rfl)
  rw [hT] at hl ⊢
  obtain ⟨b, off, u1, u2, u3, rfl, hnk, h7⟩ := hkid 0 (by omega)
  have hok := hk.2.2.2 0 (by omega)
  rw [show fnP x.kind 0 = true by rw [hK]; rfl] at hok
  have hsk := hs.kid (i := 0) (by omega)
  have H7 : Hid (∀ W, Below w0.heap.size w0 W → Sv7 W b off (kp x 0).kind (kp x 0).op (kp x 0).name u1 u2 u3 (kp x 0).pos) := hide (by simpa only [Nat.zero_mul, Nat.add_zero] using h7)
  have HF := hide (fun bg out w (hst : St w0 B w p G rt bg out) hl => outer77 IF rt bg out w (kp x 0) _ hnk hok hsk hst hl)
  rw [hK, hkl]
  obtain ⟨FT, hFT⟩ : ∃ FT, outT G (TX G m) (kp x 0) = FT := ⟨_, rfl⟩
  rw [hFT] at HF hl ⊢
  generalize (kp x 0).kind = k' at *
  generalize (kp x 0).op = o' at *
  generalize (kp x 0).name = nm' at *
  generalize (kp x 0).pos = ps' at *
  generalize x.op = o at *
  generalize x.name = nm at *
  generalize x.pos = ps at *
  clear hx hk hs IF IE hkid hT hkl hK hx0 hk0 hFT hnk h7 hok hsk
  obtain ⟨W1, hW1⟩ : ∃ W1, w.alloc (.cells (sv (25) (o) nm (v1) (v2) (.slice (some ⟨b, off, none⟩) 1 ck) (ps)) 34) = W1 := ⟨_, rfl⟩
  have hb1 : Below w.heap.size w W1 := by rw [← hW1]; exact alloc_one _ _
  have s1 : W1.heap.size = w.heap.size + 1 := by rw [← hW1]; simp
  have hbx : W1.heap[w.heap.size]? = some (.cells (sv (25) (o) nm (v1) (v2) (.slice (some ⟨b, off, none⟩) 1 ck) (ps)) 34 (0, 0)) := by rw [← hW1]; exact heap_alloc_new w _
  have hql : w.heap.size ≠ p := Nat.ne_of_gt h.lt
  have H1 := hide (h.next hb1)
  have HK1 := hide (h.wkn hb1)
  have HB1 := hide hbx
  have k0 : W1.cell? ⟨w.heap.size, 0, none⟩ = some (.int .i64 25) := (Lib.cell_of_heap hbx 0).trans rfl
  have k1 : W1.cell? ⟨w.heap.size, 1, none⟩ = some (.int .i64 o) := (Lib.cell_of_heap hbx 1).trans rfl
  have k2 : W1.cell? ⟨w.heap.size, 2, none⟩ = some (.string nm) := (Lib.cell_of_heap hbx 2).trans rfl
  have k3 : W1.cell? ⟨w.heap.size, 3, none⟩ = some (v1) := (Lib.cell_of_heap hbx 3).trans rfl
  have k4 : W1.cell? ⟨w.heap.size, 4, none⟩ = some (v2) := (Lib.cell_of_heap hbx 4).trans rfl
  have k5 : W1.cell? ⟨w.heap.size, 5, none⟩ = some (.slice (some ⟨b, off, none⟩) 1 ck) := (Lib.cell_of_heap hbx 5).trans rfl
  have k6 : W1.cell? ⟨w.heap.size, 6, none⟩ = some (.int .i64 ps) := (Lib.cell_of_heap hbx 6).trans rfl
  clear hb1 hbx
  have HC := hide (HF.out bg out W1 H1.out hl)
  obtain ⟨y0, y1, y2, y3, y4, y5, y6⟩ := H7.out W1 H1.out.old
  clear h HF
  go_enter Tryd.func61, Tryd.ntmps61
  go_wp2_with fail
  refine HC.out.mono ?_
  rintro e w9 ⟨rfl, hx9, hk9⟩
  have HF9 := hide (And.intro hx9 (HK1.out.trans hk9))
  clear hx9 hk9 HC 
  go_wp2
  go_end0
  refine ⟨rfl, ?_, HF9.out.2⟩
  have hx := HF9.out.1
  simpa [sep, rdT, bL, str, List.append_assoc] using hx
set_option maxHeartbeats 4000000 in
theorem fun27 {n m : Nat} {w0 : World} {B p : Nat} {G : Gs} (IF : CF n m w0 B p G) (IE : CE n m w0 B p G) (rt : ByteArray) (bg : Bool) (out : List UInt8) (w : World) (x : Nd) (v : Value) (hx : NdIn (m + 1) n 0 w0 x v) (hk : okN (m + 1) true x) (hs : sndA x) (h : St w0 B w p G rt bg out) (hK : x.kind = 27) (hl : out.length + 1 + (fnT G (TX G m) x).length ≤ 140737488355328) :
    Calls Tryd.prog 61 #[.pointer (some ⟨p, 0, none⟩), v] w (GvT B p G rt true (out ++ (sep bg ++ fnT G (TX G m) x)) w) := by
  have hx0 := hx
  have hk0 := hk
  obtain ⟨v1, v2, ak, ck, rfl, hv1, -, hkid⟩ := nd_kids hx
  have hse := sep_le bg
  have hT : fnT G (TX G m) x = 40 :: (trT (TX G m).F x 3 ++ [32, 41]) := by simp [fnT, hK, trT, rdT, List.range, List.range.loop]
  have hkl : x.kids.length = 3 := by have := hk.1; rw [hK] at this; unfold arK at this; simp at this; first | omega | (rw [this]; rfl)
  rw [hT] at hl ⊢
  have HL := hide (fun W (hst : St w0 B W p G rt bg out) hl => train78 IF rt bg out W x ak 3 ck (by omega) (fun j hj => hkid j (by omega)) (fun j hj => by
    have h9 := hk.2.2.2 j (by omega)
    rw [show fnP x.kind j = true by rw [hK]; rfl] at h9
    exact h9) (fun j hj => hs.kid (by omega)) hst hl)
  rw [hK, hkl]
  obtain ⟨LT, hLT⟩ : ∃ LT, trT (TX G m).F x 3 = LT := ⟨_, rfl⟩
  rw [hLT] at HL hl ⊢
  simp only [List.length_append, List.length_cons, List.length_nil] at hl
  generalize x.op = o at *
  generalize x.name = nm at *
  generalize x.pos = ps at *
  clear hx hk hs IF IE hkid hT hkl hK hx0 hk0 hLT
  obtain ⟨W1, hW1⟩ : ∃ W1, w.alloc (.cells (sv (27) (o) nm (v1) (v2) (.slice ak 3 ck) (ps)) 34) = W1 := ⟨_, rfl⟩
  have hb1 : Below w.heap.size w W1 := by rw [← hW1]; exact alloc_one _ _
  have s1 : W1.heap.size = w.heap.size + 1 := by rw [← hW1]; simp
  have hbx : W1.heap[w.heap.size]? = some (.cells (sv (27) (o) nm (v1) (v2) (.slice ak 3 ck) (ps)) 34 (0, 0)) := by rw [← hW1]; exact heap_alloc_new w _
  have hql : w.heap.size ≠ p := Nat.ne_of_gt h.lt
  have H1 := hide (h.next hb1)
  have HK1 := hide (h.wkn hb1)
  have HB1 := hide hbx
  have k0 : W1.cell? ⟨w.heap.size, 0, none⟩ = some (.int .i64 27) := (Lib.cell_of_heap hbx 0).trans rfl
  have k1 : W1.cell? ⟨w.heap.size, 1, none⟩ = some (.int .i64 o) := (Lib.cell_of_heap hbx 1).trans rfl
  have k2 : W1.cell? ⟨w.heap.size, 2, none⟩ = some (.string nm) := (Lib.cell_of_heap hbx 2).trans rfl
  have k3 : W1.cell? ⟨w.heap.size, 3, none⟩ = some (v1) := (Lib.cell_of_heap hbx 3).trans rfl
  have k4 : W1.cell? ⟨w.heap.size, 4, none⟩ = some (v2) := (Lib.cell_of_heap hbx 4).trans rfl
  have k5 : W1.cell? ⟨w.heap.size, 5, none⟩ = some (.slice ak 3 ck) := (Lib.cell_of_heap hbx 5).trans rfl
  have k6 : W1.cell? ⟨w.heap.size, 6, none⟩ = some (.int .i64 ps) := (Lib.cell_of_heap hbx 6).trans rfl
  clear hb1 hbx
  have HC := hide (HL.out W1 H1.out (by omega))
  clear h HL
  go_enter Tryd.func61, Tryd.ntmps61
  go_wp2_with fail
  refine HC.out.mono ?_
  rintro e w9 ⟨rfl, hx9, hk9⟩
  have HF9 := hide (And.intro hx9 (HK1.out.trans hk9))
  clear hx9 hk9 HC 
  go_wp2
  go_end0
  refine ⟨rfl, ?_, HF9.out.2⟩
  have hx := HF9.out.1
  simpa [sep, rdT, bL, str, List.append_assoc] using hx
set_option maxHeartbeats 4000000 in
theorem fun28 {n m : Nat} {w0 : World} {B p : Nat} {G : Gs} (IF : CF n m w0 B p G) (IE : CE n m w0 B p G) (rt : ByteArray) (bg : Bool) (out : List UInt8) (w : World) (x : Nd) (v : Value) (hx : NdIn (m + 1) n 0 w0 x v) (hk : okN (m + 1) true x) (hs : sndA x) (h : St w0 B w p G rt bg out) (hK : x.kind = 28) (hl : out.length + 1 + (fnT G (TX G m) x).length ≤ 140737488355328) :
    Calls Tryd.prog 61 #[.pointer (some ⟨p, 0, none⟩), v] w (GvT B p G rt true (out ++ (sep bg ++ fnT G (TX G m) x)) w) := by
  have hx0 := hx
  have hk0 := hk
  obtain ⟨v1, v2, ak, ck, rfl, hv1, -, hkid⟩ := nd_kids hx
  have hse := sep_le bg
  have hT : fnT G (TX G m) x = 40 :: (trT (TX G m).F x 2 ++ [32, 41]) := by simp [fnT, hK, trT, rdT, List.range, List.range.loop]
  have hkl : x.kids.length = 2 := by have := hk.1; rw [hK] at this; unfold arK at this; simp at this; first | omega | (rw [this]; rfl)
  rw [hT] at hl ⊢
  have HL := hide (fun W (hst : St w0 B W p G rt bg out) hl => train78 IF rt bg out W x ak 2 ck (by omega) (fun j hj => hkid j (by omega)) (fun j hj => by
    have h9 := hk.2.2.2 j (by omega)
    rw [show fnP x.kind j = true by rw [hK]; rfl] at h9
    exact h9) (fun j hj => hs.kid (by omega)) hst hl)
  rw [hK, hkl]
  obtain ⟨LT, hLT⟩ : ∃ LT, trT (TX G m).F x 2 = LT := ⟨_, rfl⟩
  rw [hLT] at HL hl ⊢
  simp only [List.length_append, List.length_cons, List.length_nil] at hl
  generalize x.op = o at *
  generalize x.name = nm at *
  generalize x.pos = ps at *
  clear hx hk hs IF IE hkid hT hkl hK hx0 hk0 hLT
  obtain ⟨W1, hW1⟩ : ∃ W1, w.alloc (.cells (sv (28) (o) nm (v1) (v2) (.slice ak 2 ck) (ps)) 34) = W1 := ⟨_, rfl⟩
  have hb1 : Below w.heap.size w W1 := by rw [← hW1]; exact alloc_one _ _
  have s1 : W1.heap.size = w.heap.size + 1 := by rw [← hW1]; simp
  have hbx : W1.heap[w.heap.size]? = some (.cells (sv (28) (o) nm (v1) (v2) (.slice ak 2 ck) (ps)) 34 (0, 0)) := by rw [← hW1]; exact heap_alloc_new w _
  have hql : w.heap.size ≠ p := Nat.ne_of_gt h.lt
  have H1 := hide (h.next hb1)
  have HK1 := hide (h.wkn hb1)
  have HB1 := hide hbx
  have k0 : W1.cell? ⟨w.heap.size, 0, none⟩ = some (.int .i64 28) := (Lib.cell_of_heap hbx 0).trans rfl
  have k1 : W1.cell? ⟨w.heap.size, 1, none⟩ = some (.int .i64 o) := (Lib.cell_of_heap hbx 1).trans rfl
  have k2 : W1.cell? ⟨w.heap.size, 2, none⟩ = some (.string nm) := (Lib.cell_of_heap hbx 2).trans rfl
  have k3 : W1.cell? ⟨w.heap.size, 3, none⟩ = some (v1) := (Lib.cell_of_heap hbx 3).trans rfl
  have k4 : W1.cell? ⟨w.heap.size, 4, none⟩ = some (v2) := (Lib.cell_of_heap hbx 4).trans rfl
  have k5 : W1.cell? ⟨w.heap.size, 5, none⟩ = some (.slice ak 2 ck) := (Lib.cell_of_heap hbx 5).trans rfl
  have k6 : W1.cell? ⟨w.heap.size, 6, none⟩ = some (.int .i64 ps) := (Lib.cell_of_heap hbx 6).trans rfl
  clear hb1 hbx
  have HC := hide (HL.out W1 H1.out (by omega))
  clear h HL
  go_enter Tryd.func61, Tryd.ntmps61
  go_wp2_with fail
  refine HC.out.mono ?_
  rintro e w9 ⟨rfl, hx9, hk9⟩
  have HF9 := hide (And.intro hx9 (HK1.out.trans hk9))
  clear hx9 hk9 HC 
  go_wp2
  go_end0
  refine ⟨rfl, ?_, HF9.out.2⟩
  have hx := HF9.out.1
  simpa [sep, rdT, bL, str, List.append_assoc] using hx
theorem fun_step {n m : Nat} {w0 : World} {B p : Nat} {G : Gs} (IF : CF n m w0 B p G) (IE : CE n m w0 B p G) : CF n (m + 1) w0 B p G := by
  intro rt bg out w x v hx hk hs h hl
  have h21 : 21 ≤ x.kind := by have := hk.2.1; simpa using this.symm
  have hkn : x.kind = 21 ∨ x.kind = 22 ∨ x.kind = 23 ∨ x.kind = 24 ∨ x.kind = 25 ∨ x.kind = 26 ∨ x.kind = 27 ∨ x.kind = 28 := by
    have h1 := hk.1
    unfold arK at h1
    repeat' split at h1
    all_goals omega
  rcases hkn with hK | hK | hK | hK | hK | hK | hK | hK
  · exact fun21 IF IE rt bg out w x v hx hk hs h hK hl
  · exact fun22 IF IE rt bg out w x v hx hk hs h hK hl
  · exact fun23 IF IE rt bg out w x v hx hk hs h hK hl
  · exact fun24 IF IE rt bg out w x v hx hk hs h hK hl
  · exact fun25 IF IE rt bg out w x v hx hk hs h hK hl
  · exact fun26 IF IE rt bg out w x v hx hk hs h hK hl
  · exact fun27 IF IE rt bg out w x v hx hk hs h hK hl
  · exact fun28 IF IE rt bg out w x v hx hk hs h hK hl
end Go.Proofs.YtneblkdkhlgmcaaDoor
namespace Go.Proofs.YtneblkdkhlgmcaaDoor
open Go.ChangeShapes Go.WideShapes Go.ChangeAt Go.RowKit
set_option maxRecDepth 100000
set_option linter.unusedVariables false
set_option linter.unusedSimpArgs false
/-- What the writer of an expression that is a call promises. -/
def CA (n m : Nat) (w0 : World) (B p : Nat) (G : Gs) : Prop := ∀ (rt : ByteArray) (bg : Bool) (out : List UInt8) (w : World) (x : Nd) (v : Value), NdIn (m + 1) n 0 w0 x v → okN (m + 1) false x → sndA x → St w0 B w p G rt bg out → (x.kind = 5 ∨ x.kind = 6) → out.length + 1 + (exA G (TX G m) rt x).length ≤ 140737488355328 →
  Calls Tryd.prog 25 #[.pointer (some ⟨p, 0, none⟩), v] w (GvT B p G rt true (out ++ (sep bg ++ exA G (TX G m) rt x)) w)
set_option maxHeartbeats 4000000 in
theorem ex5 {n m : Nat} {w0 : World} {B p : Nat} {G : Gs} (IF : CF n m w0 B p G) (IE : CE n m w0 B p G) (IO : CO n m w0 B p G) (rt : ByteArray) (bg : Bool) (out : List UInt8) (w : World) (x : Nd) (v : Value) (hx : NdIn (m + 1) n 0 w0 x v) (hk : okN (m + 1) false x) (hs : sndA x) (h : St w0 B w p G rt bg out) (hK : x.kind = 5) (hl : out.length + 1 + (exA G (TX G m) rt x).length ≤ 140737488355328) :
    Calls Tryd.prog 25 #[.pointer (some ⟨p, 0, none⟩), v] w (GvT B p G rt true (out ++ (sep bg ++ exA G (TX G m) rt x)) w) := by
  have hx0 := hx
  have hk0 := hk
  obtain ⟨v1, v2, ak, ck, rfl, hv1, hlit, hkid⟩ := nd_kids hx
  have hse := sep_le bg
  have hT : exA G (TX G m) rt x = oneT G (TX G m) (kp x 0) ++ ([32] ++ (TX G m).E rt (kp x 1)) := by simp [exA, opT, hK]
  have hkl : x.kids.length = 2 := by have := hk.1; rw [hK] at this; unfold arK at this; simp at this; first | omega | (rw [this]; rfl)
  rw [hT] at hl ⊢
  obtain ⟨b, off, p01, p02, p03, rfl, hn0, z0⟩ := hkid 0 (by omega)
  have ho0 := hk.2.2.2 0 (by omega)
  rw [show fnP x.kind 0 = true by rw [hK]; rfl] at ho0
  have hs0 := hs.kid (i := 0) (by omega)
  have Z0 : Hid (∀ W, Below w0.heap.size w0 W → Sv7 W b (off) (kp x 0).kind (kp x 0).op (kp x 0).name p01 p02 p03 (kp x 0).pos) := hide (by simpa only [Nat.zero_mul, Nat.add_zero] using z0)
  obtain ⟨b1, off1, p11, p12, p13, he1, hn1, z1⟩ := hkid 1 (by omega)
  cases he1
  have ho1 := hk.2.2.2 1 (by omega)
  rw [show fnP x.kind 1 = false by rw [hK]; rfl] at ho1
  have hs1 := hs.kid (i := 1) (by omega)
  have Z1 : Hid (∀ W, Below w0.heap.size w0 W → Sv7 W b (off + 7) (kp x 1).kind (kp x 1).op (kp x 1).name p11 p12 p13 (kp x 1).pos) := hide (by exact z1)
  have HF := hide (fun bg out w (hst : St w0 B w p G rt bg out) hl => one39 IF rt bg out w (kp x 0) _ hn0 ho0 hs0 hst hl)
  have HE := hide (fun bg out w (hst : St w0 B w p G rt bg out) hl => IE rt bg out w (kp x 1) _ hn1 ho1 hs1 hst hl)
  rw [hK, hkl]
  obtain ⟨FT, hFT⟩ : ∃ FT, oneT G (TX G m) (kp x 0) = FT := ⟨_, rfl⟩
  rw [hFT] at HF hl ⊢
  obtain ⟨ET, hET⟩ : ∃ ET, (TX G m).E rt (kp x 1) = ET := ⟨_, rfl⟩
  rw [hET] at HE hl ⊢
  generalize (kp x 0).kind = qk0 at *
  generalize (kp x 0).op = qo0 at *
  generalize (kp x 0).name = qn0 at *
  generalize (kp x 0).pos = qp0 at *
  generalize (kp x 1).kind = qk1 at *
  generalize (kp x 1).op = qo1 at *
  generalize (kp x 1).name = qn1 at *
  generalize (kp x 1).pos = qp1 at *
  generalize x.op = o at *
  generalize x.name = nm at *
  generalize x.pos = ps at *
  simp only [List.length_append, List.length_cons, List.length_nil] at hl
  clear hx hk hs IF IE IO hkid hT hkl hK hx0 hk0 hlit hFT hET hn0 hn1 z0 z1 ho0 ho1 hs0 hs1
  obtain ⟨W1, hW1⟩ : ∃ W1, w.alloc (.cells (sv (5) (o) nm (v1) (v2) (.slice (some ⟨b, off, none⟩) 2 ck) (ps)) 34) = W1 := ⟨_, rfl⟩
  have hb1 : Below w.heap.size w W1 := by rw [← hW1]; exact alloc_one _ _
  have s1 : W1.heap.size = w.heap.size + 1 := by rw [← hW1]; simp
  have hbx : W1.heap[w.heap.size]? = some (.cells (sv (5) (o) nm (v1) (v2) (.slice (some ⟨b, off, none⟩) 2 ck) (ps)) 34 (0, 0)) := by rw [← hW1]; exact heap_alloc_new w _
  have hql : w.heap.size ≠ p := Nat.ne_of_gt h.lt
  have H1 := hide (h.next hb1)
  have HK1 := hide (h.wkn hb1)
  have HB1 := hide hbx
  have k0 : W1.cell? ⟨w.heap.size, 0, none⟩ = some (.int .i64 5) := (Lib.cell_of_heap hbx 0).trans rfl
  have k1 : W1.cell? ⟨w.heap.size, 1, none⟩ = some (.int .i64 o) := (Lib.cell_of_heap hbx 1).trans rfl
  have k2 : W1.cell? ⟨w.heap.size, 2, none⟩ = some (.string nm) := (Lib.cell_of_heap hbx 2).trans rfl
  have k3 : W1.cell? ⟨w.heap.size, 3, none⟩ = some (v1) := (Lib.cell_of_heap hbx 3).trans rfl
  have k4 : W1.cell? ⟨w.heap.size, 4, none⟩ = some (v2) := (Lib.cell_of_heap hbx 4).trans rfl
  have k5 : W1.cell? ⟨w.heap.size, 5, none⟩ = some (.slice (some ⟨b, off, none⟩) 2 ck) := (Lib.cell_of_heap hbx 5).trans rfl
  have k6 : W1.cell? ⟨w.heap.size, 6, none⟩ = some (.int .i64 ps) := (Lib.cell_of_heap hbx 6).trans rfl
  clear hb1 hbx
  have HC := hide (HF.out bg out W1 H1.out (by omega))
  obtain ⟨y0, y1, y2, y3, y4, y5, y6⟩ := Z0.out W1 H1.out.old
  clear h HF
  go_enter Tryd.func25, Tryd.ntmps25
  go_wp2_with fail
  refine HC.out.mono ?_
  rintro e w2 g2
  have H2 := hide (H1.out.got g2)
  have HK2 := hide (HK1.out.trans g2.2.2)
  have hb2 := g2.2.2.box HB1.out hql (by decide)
  have HB2 := hide hb2
  obtain rfl := g2.1
  clear g2 HC k0 k1 k2 k3 k4 k5 k6 y0 y1 y2 y3 y4 y5 y6
  have k0 : w2.cell? ⟨w.heap.size, 0, none⟩ = some (.int .i64 5) := (Lib.cell_of_heap hb2 0).trans rfl
  have k1 : w2.cell? ⟨w.heap.size, 1, none⟩ = some (.int .i64 o) := (Lib.cell_of_heap hb2 1).trans rfl
  have k2 : w2.cell? ⟨w.heap.size, 2, none⟩ = some (.string nm) := (Lib.cell_of_heap hb2 2).trans rfl
  have k3 : w2.cell? ⟨w.heap.size, 3, none⟩ = some (v1) := (Lib.cell_of_heap hb2 3).trans rfl
  have k4 : w2.cell? ⟨w.heap.size, 4, none⟩ = some (v2) := (Lib.cell_of_heap hb2 4).trans rfl
  have k5 : w2.cell? ⟨w.heap.size, 5, none⟩ = some (.slice (some ⟨b, off, none⟩) 2 ck) := (Lib.cell_of_heap hb2 5).trans rfl
  have k6 : w2.cell? ⟨w.heap.size, 6, none⟩ = some (.int .i64 ps) := (Lib.cell_of_heap hb2 6).trans rfl
  clear hb2
  obtain ⟨y0, y1, y2, y3, y4, y5, y6⟩ := Z1.out w2 H2.out.old
  have HC := hide (HE.out true _ w2 H2.out (by simp only [List.length_append]; omega))
  go_wp2_with fail
  refine HC.out.mono ?_
  rintro e w9 ⟨rfl, hx9, hk9⟩
  have HF9 := hide (And.intro hx9 (HK2.out.trans hk9))
  clear hx9 hk9 HC 
  go_wp2
  go_end0
  refine ⟨rfl, ?_, HF9.out.2⟩
  have hx := HF9.out.1
  simpa [sep, rdT, bL, str, List.append_assoc] using hx
set_option maxHeartbeats 4000000 in
theorem ex6 {n m : Nat} {w0 : World} {B p : Nat} {G : Gs} (IF : CF n m w0 B p G) (IE : CE n m w0 B p G) (IO : CO n m w0 B p G) (rt : ByteArray) (bg : Bool) (out : List UInt8) (w : World) (x : Nd) (v : Value) (hx : NdIn (m + 1) n 0 w0 x v) (hk : okN (m + 1) false x) (hs : sndA x) (h : St w0 B w p G rt bg out) (hK : x.kind = 6) (hl : out.length + 1 + (exA G (TX G m) rt x).length ≤ 140737488355328) :
    Calls Tryd.prog 25 #[.pointer (some ⟨p, 0, none⟩), v] w (GvT B p G rt true (out ++ (sep bg ++ exA G (TX G m) rt x)) w) := by
  have hx0 := hx
  have hk0 := hk
  obtain ⟨v1, v2, ak, ck, rfl, hv1, hlit, hkid⟩ := nd_kids hx
  have hse := sep_le bg
  have hT : exA G (TX G m) rt x = (TX G m).O rt (kp x 1) ++ ([32] ++ apF (TX G m).F (kp x 0)) ++ ([32] ++ (TX G m).E rt (kp x 2)) := by simp [exA, opT, hK]
  have hkl : x.kids.length = 3 := by have := hk.1; rw [hK] at this; unfold arK at this; simp at this; first | omega | (rw [this]; rfl)
  rw [hT] at hl ⊢
  obtain ⟨b, off, p01, p02, p03, rfl, hn0, z0⟩ := hkid 0 (by omega)
  have ho0 := hk.2.2.2 0 (by omega)
  rw [show fnP x.kind 0 = true by rw [hK]; rfl] at ho0
  have hs0 := hs.kid (i := 0) (by omega)
  have Z0 : Hid (∀ W, Below w0.heap.size w0 W → Sv7 W b (off) (kp x 0).kind (kp x 0).op (kp x 0).name p01 p02 p03 (kp x 0).pos) := hide (by simpa only [Nat.zero_mul, Nat.add_zero] using z0)
  obtain ⟨b1, off1, p11, p12, p13, he1, hn1, z1⟩ := hkid 1 (by omega)
  cases he1
  have ho1 := hk.2.2.2 1 (by omega)
  rw [show fnP x.kind 1 = false by rw [hK]; rfl] at ho1
  have hs1 := hs.kid (i := 1) (by omega)
  have Z1 : Hid (∀ W, Below w0.heap.size w0 W → Sv7 W b (off + 7) (kp x 1).kind (kp x 1).op (kp x 1).name p11 p12 p13 (kp x 1).pos) := hide (by exact z1)
  obtain ⟨b2, off2, p21, p22, p23, he2, hn2, z2⟩ := hkid 2 (by omega)
  cases he2
  have ho2 := hk.2.2.2 2 (by omega)
  rw [show fnP x.kind 2 = false by rw [hK]; rfl] at ho2
  have hs2 := hs.kid (i := 2) (by omega)
  have Z2 : Hid (∀ W, Below w0.heap.size w0 W → Sv7 W b (off + 14) (kp x 2).kind (kp x 2).op (kp x 2).name p21 p22 p23 (kp x 2).pos) := hide (by exact z2)
  have HO := hide (fun bg out w (hst : St w0 B w p G rt bg out) hl => IO rt bg out w (kp x 1) _ hn1 ho1 hs1 hst hl)
  have HF := hide (fun bg out w (hst : St w0 B w p G rt bg out) hl => ahead41 IF rt bg out w (kp x 0) _ hn0 ho0 hs0 hst hl)
  have HE := hide (fun bg out w (hst : St w0 B w p G rt bg out) hl => IE rt bg out w (kp x 2) _ hn2 ho2 hs2 hst hl)
  rw [hK, hkl]
  obtain ⟨OT, hOT⟩ : ∃ OT, (TX G m).O rt (kp x 1) = OT := ⟨_, rfl⟩
  rw [hOT] at HO hl ⊢
  obtain ⟨FT, hFT⟩ : ∃ FT, apF (TX G m).F (kp x 0) = FT := ⟨_, rfl⟩
  rw [hFT] at HF hl ⊢
  obtain ⟨ET, hET⟩ : ∃ ET, (TX G m).E rt (kp x 2) = ET := ⟨_, rfl⟩
  rw [hET] at HE hl ⊢
  generalize (kp x 0).kind = qk0 at *
  generalize (kp x 0).op = qo0 at *
  generalize (kp x 0).name = qn0 at *
  generalize (kp x 0).pos = qp0 at *
  generalize (kp x 1).kind = qk1 at *
  generalize (kp x 1).op = qo1 at *
  generalize (kp x 1).name = qn1 at *
  generalize (kp x 1).pos = qp1 at *
  generalize (kp x 2).kind = qk2 at *
  generalize (kp x 2).op = qo2 at *
  generalize (kp x 2).name = qn2 at *
  generalize (kp x 2).pos = qp2 at *
  generalize x.op = o at *
  generalize x.name = nm at *
  generalize x.pos = ps at *
  simp only [List.length_append, List.length_cons, List.length_nil] at hl
  clear hx hk hs IF IE IO hkid hT hkl hK hx0 hk0 hlit hOT hFT hET hn0 hn1 hn2 z0 z1 z2 ho0 ho1 ho2 hs0 hs1 hs2
  obtain ⟨W1, hW1⟩ : ∃ W1, w.alloc (.cells (sv (6) (o) nm (v1) (v2) (.slice (some ⟨b, off, none⟩) 3 ck) (ps)) 34) = W1 := ⟨_, rfl⟩
  have hb1 : Below w.heap.size w W1 := by rw [← hW1]; exact alloc_one _ _
  have s1 : W1.heap.size = w.heap.size + 1 := by rw [← hW1]; simp
  have hbx : W1.heap[w.heap.size]? = some (.cells (sv (6) (o) nm (v1) (v2) (.slice (some ⟨b, off, none⟩) 3 ck) (ps)) 34 (0, 0)) := by rw [← hW1]; exact heap_alloc_new w _
  have hql : w.heap.size ≠ p := Nat.ne_of_gt h.lt
  have H1 := hide (h.next hb1)
  have HK1 := hide (h.wkn hb1)
  have HB1 := hide hbx
  have k0 : W1.cell? ⟨w.heap.size, 0, none⟩ = some (.int .i64 6) := (Lib.cell_of_heap hbx 0).trans rfl
  have k1 : W1.cell? ⟨w.heap.size, 1, none⟩ = some (.int .i64 o) := (Lib.cell_of_heap hbx 1).trans rfl
  have k2 : W1.cell? ⟨w.heap.size, 2, none⟩ = some (.string nm) := (Lib.cell_of_heap hbx 2).trans rfl
  have k3 : W1.cell? ⟨w.heap.size, 3, none⟩ = some (v1) := (Lib.cell_of_heap hbx 3).trans rfl
  have k4 : W1.cell? ⟨w.heap.size, 4, none⟩ = some (v2) := (Lib.cell_of_heap hbx 4).trans rfl
  have k5 : W1.cell? ⟨w.heap.size, 5, none⟩ = some (.slice (some ⟨b, off, none⟩) 3 ck) := (Lib.cell_of_heap hbx 5).trans rfl
  have k6 : W1.cell? ⟨w.heap.size, 6, none⟩ = some (.int .i64 ps) := (Lib.cell_of_heap hbx 6).trans rfl
  clear hb1 hbx
  have HC := hide (HO.out bg out W1 H1.out (by omega))
  obtain ⟨y0, y1, y2, y3, y4, y5, y6⟩ := Z1.out W1 H1.out.old
  clear h HO
  go_enter Tryd.func25, Tryd.ntmps25
  go_wp2_with fail
  refine HC.out.mono ?_
  rintro e w2 g2
  have H2 := hide (H1.out.got g2)
  have HK2 := hide (HK1.out.trans g2.2.2)
  have hb2 := g2.2.2.box HB1.out hql (by decide)
  have HB2 := hide hb2
  obtain rfl := g2.1
  clear g2 HC k0 k1 k2 k3 k4 k5 k6 y0 y1 y2 y3 y4 y5 y6
  have k0 : w2.cell? ⟨w.heap.size, 0, none⟩ = some (.int .i64 6) := (Lib.cell_of_heap hb2 0).trans rfl
  have k1 : w2.cell? ⟨w.heap.size, 1, none⟩ = some (.int .i64 o) := (Lib.cell_of_heap hb2 1).trans rfl
  have k2 : w2.cell? ⟨w.heap.size, 2, none⟩ = some (.string nm) := (Lib.cell_of_heap hb2 2).trans rfl
  have k3 : w2.cell? ⟨w.heap.size, 3, none⟩ = some (v1) := (Lib.cell_of_heap hb2 3).trans rfl
  have k4 : w2.cell? ⟨w.heap.size, 4, none⟩ = some (v2) := (Lib.cell_of_heap hb2 4).trans rfl
  have k5 : w2.cell? ⟨w.heap.size, 5, none⟩ = some (.slice (some ⟨b, off, none⟩) 3 ck) := (Lib.cell_of_heap hb2 5).trans rfl
  have k6 : w2.cell? ⟨w.heap.size, 6, none⟩ = some (.int .i64 ps) := (Lib.cell_of_heap hb2 6).trans rfl
  clear hb2
  obtain ⟨y0, y1, y2, y3, y4, y5, y6⟩ := Z0.out w2 H2.out.old
  have HC := hide (HF.out true _ w2 H2.out (by simp only [List.length_append]; omega))
  clear HF
  go_wp2_with fail
  refine HC.out.mono ?_
  rintro e w3 g3
  have H3 := hide (H2.out.got g3)
  have HK3 := hide (HK2.out.trans g3.2.2)
  have hb3 := g3.2.2.box HB2.out hql (by decide)
  have HB3 := hide hb3
  obtain rfl := g3.1
  clear g3 HC k0 k1 k2 k3 k4 k5 k6 y0 y1 y2 y3 y4 y5 y6
  have k0 : w3.cell? ⟨w.heap.size, 0, none⟩ = some (.int .i64 6) := (Lib.cell_of_heap hb3 0).trans rfl
  have k1 : w3.cell? ⟨w.heap.size, 1, none⟩ = some (.int .i64 o) := (Lib.cell_of_heap hb3 1).trans rfl
  have k2 : w3.cell? ⟨w.heap.size, 2, none⟩ = some (.string nm) := (Lib.cell_of_heap hb3 2).trans rfl
  have k3 : w3.cell? ⟨w.heap.size, 3, none⟩ = some (v1) := (Lib.cell_of_heap hb3 3).trans rfl
  have k4 : w3.cell? ⟨w.heap.size, 4, none⟩ = some (v2) := (Lib.cell_of_heap hb3 4).trans rfl
  have k5 : w3.cell? ⟨w.heap.size, 5, none⟩ = some (.slice (some ⟨b, off, none⟩) 3 ck) := (Lib.cell_of_heap hb3 5).trans rfl
  have k6 : w3.cell? ⟨w.heap.size, 6, none⟩ = some (.int .i64 ps) := (Lib.cell_of_heap hb3 6).trans rfl
  clear hb3
  obtain ⟨y0, y1, y2, y3, y4, y5, y6⟩ := Z2.out w3 H3.out.old
  have HC := hide (HE.out true _ w3 H3.out (by simp only [List.length_append, sep_true, List.length_cons, List.length_nil]; omega))
  clear HE
  go_wp2_with fail
  refine HC.out.mono ?_
  rintro e w9 ⟨rfl, hx9, hk9⟩
  have HF9 := hide (And.intro hx9 (HK3.out.trans hk9))
  clear hx9 hk9 HC 
  go_wp2
  go_end0
  refine ⟨rfl, ?_, HF9.out.2⟩
  have hx := HF9.out.1
  simpa [sep, rdT, bL, str, List.append_assoc] using hx
theorem ca_of {n m : Nat} {w0 : World} {B p : Nat} {G : Gs} (IF : CF n m w0 B p G) (IE : CE n m w0 B p G) (IO : CO n m w0 B p G) : CA n m w0 B p G := by
  intro rt bg out w x v hx hk hs h hK hl
  rcases hK with hK | hK
  · exact ex5 IF IE IO rt bg out w x v hx hk hs h hK hl
  · exact ex6 IF IE IO rt bg out w x v hx hk hs h hK hl
set_option maxHeartbeats 4000000 in
theorem op2 {n m : Nat} {w0 : World} {B p : Nat} {G : Gs} (IF : CF n m w0 B p G) (IE : CE n m w0 B p G) (IO : CO n m w0 B p G) (rt : ByteArray) (bg : Bool) (out : List UInt8) (w : World) (x : Nd) (v : Value) (hx : NdIn (m + 1) n 0 w0 x v) (hk : okN (m + 1) false x) (hs : sndA x) (h : St w0 B w p G rt bg out) (hK : x.kind = 2) (hl : out.length + 1 + (opT G (TX G m) rt x).length ≤ 140737488355328) :
    Calls Tryd.prog 40 #[.pointer (some ⟨p, 0, none⟩), v] w (GvT B p G rt true (out ++ (sep bg ++ opT G (TX G m) rt x)) w) := by
  have hx0 := hx
  have hk0 := hk
  obtain ⟨v1, v2, ak, ck, rfl, hv1, hlit, hkid⟩ := nd_kids hx
  have hse := sep_le bg
  have hT : opT G (TX G m) rt x = bL x.name := by simp [exA, opT, hK]
  have hkl : x.kids.length = 0 := by have := hk.1; rw [hK] at this; unfold arK at this; simp at this; first | omega | (rw [this]; rfl)
  rw [hT] at hl ⊢
  rw [hK, hkl]
  have hnb : (bL x.name).length = (x.name).size := by simp [bL]
  generalize x.name = nm at *
  generalize x.op = o at *
  generalize x.pos = ps at *
  clear hx hk hs IF IE IO hkid hT hkl hK hx0 hk0 hlit
  obtain ⟨W1, hW1⟩ : ∃ W1, w.alloc (.cells (sv (2) (o) nm (v1) (v2) (.slice ak 0 ck) (ps)) 34) = W1 := ⟨_, rfl⟩
  have hb1 : Below w.heap.size w W1 := by rw [← hW1]; exact alloc_one _ _
  have s1 : W1.heap.size = w.heap.size + 1 := by rw [← hW1]; simp
  have hbx : W1.heap[w.heap.size]? = some (.cells (sv (2) (o) nm (v1) (v2) (.slice ak 0 ck) (ps)) 34 (0, 0)) := by rw [← hW1]; exact heap_alloc_new w _
  have hql : w.heap.size ≠ p := Nat.ne_of_gt h.lt
  have H1 := hide (h.next hb1)
  have HK1 := hide (h.wkn hb1)
  have HB1 := hide hbx
  have k0 : W1.cell? ⟨w.heap.size, 0, none⟩ = some (.int .i64 2) := (Lib.cell_of_heap hbx 0).trans rfl
  have k1 : W1.cell? ⟨w.heap.size, 1, none⟩ = some (.int .i64 o) := (Lib.cell_of_heap hbx 1).trans rfl
  have k2 : W1.cell? ⟨w.heap.size, 2, none⟩ = some (.string nm) := (Lib.cell_of_heap hbx 2).trans rfl
  have k3 : W1.cell? ⟨w.heap.size, 3, none⟩ = some (v1) := (Lib.cell_of_heap hbx 3).trans rfl
  have k4 : W1.cell? ⟨w.heap.size, 4, none⟩ = some (v2) := (Lib.cell_of_heap hbx 4).trans rfl
  have k5 : W1.cell? ⟨w.heap.size, 5, none⟩ = some (.slice ak 0 ck) := (Lib.cell_of_heap hbx 5).trans rfl
  have k6 : W1.cell? ⟨w.heap.size, 6, none⟩ = some (.int .i64 ps) := (Lib.cell_of_heap hbx 6).trans rfl
  clear hb1 hbx
  have HC := hide (H1.out.put nm (by omega))
  rw [s1] at HC
  clear h
  go_enter Tryd.func40, Tryd.ntmps40
  go_wp2_with fail
  refine HC.out.mono ?_
  rintro e w9 ⟨rfl, hx9, hk9⟩
  have HF9 := hide (And.intro hx9 (HK1.out.trans hk9))
  clear hx9 hk9 HC 
  go_wp2
  go_end0
  refine ⟨rfl, ?_, HF9.out.2⟩
  have hx := HF9.out.1
  simpa [sep, rdT, bL, str, List.append_assoc] using hx
set_option maxHeartbeats 4000000 in
theorem op3 {n m : Nat} {w0 : World} {B p : Nat} {G : Gs} (IF : CF n m w0 B p G) (IE : CE n m w0 B p G) (IO : CO n m w0 B p G) (rt : ByteArray) (bg : Bool) (out : List UInt8) (w : World) (x : Nd) (v : Value) (hx : NdIn (m + 1) n 0 w0 x v) (hk : okN (m + 1) false x) (hs : sndA x) (h : St w0 B w p G rt bg out) (hK : x.kind = 3) (hl : out.length + 1 + (opT G (TX G m) rt x).length ≤ 140737488355328) :
    Calls Tryd.prog 40 #[.pointer (some ⟨p, 0, none⟩), v] w (GvT B p G rt true (out ++ (sep bg ++ opT G (TX G m) rt x)) w) := by
  have hx0 := hx
  have hk0 := hk
  obtain ⟨v1, v2, ak, ck, rfl, hv1, hlit, hkid⟩ := nd_kids hx
  have hse := sep_le bg
  have hT : opT G (TX G m) rt x = bL G.left := by simp [exA, opT, hK]
  have hkl : x.kids.length = 0 := by have := hk.1; rw [hK] at this; unfold arK at this; simp at this; first | omega | (rw [this]; rfl)
  rw [hT] at hl ⊢
  rw [hK, hkl]
  have hnb : (bL G.left).length = (G.left).size := by simp [bL]
  generalize x.name = nm at *
  generalize x.op = o at *
  generalize x.pos = ps at *
  clear hx hk hs IF IE IO hkid hT hkl hK hx0 hk0 hlit
  obtain ⟨W1, hW1⟩ : ∃ W1, w.alloc (.cells (sv (3) (o) nm (v1) (v2) (.slice ak 0 ck) (ps)) 34) = W1 := ⟨_, rfl⟩
  have hb1 : Below w.heap.size w W1 := by rw [← hW1]; exact alloc_one _ _
  have s1 : W1.heap.size = w.heap.size + 1 := by rw [← hW1]; simp
  have hbx : W1.heap[w.heap.size]? = some (.cells (sv (3) (o) nm (v1) (v2) (.slice ak 0 ck) (ps)) 34 (0, 0)) := by rw [← hW1]; exact heap_alloc_new w _
  have hql : w.heap.size ≠ p := Nat.ne_of_gt h.lt
  have H1 := hide (h.next hb1)
  have HK1 := hide (h.wkn hb1)
  have HB1 := hide hbx
  have k0 : W1.cell? ⟨w.heap.size, 0, none⟩ = some (.int .i64 3) := (Lib.cell_of_heap hbx 0).trans rfl
  have k1 : W1.cell? ⟨w.heap.size, 1, none⟩ = some (.int .i64 o) := (Lib.cell_of_heap hbx 1).trans rfl
  have k2 : W1.cell? ⟨w.heap.size, 2, none⟩ = some (.string nm) := (Lib.cell_of_heap hbx 2).trans rfl
  have k3 : W1.cell? ⟨w.heap.size, 3, none⟩ = some (v1) := (Lib.cell_of_heap hbx 3).trans rfl
  have k4 : W1.cell? ⟨w.heap.size, 4, none⟩ = some (v2) := (Lib.cell_of_heap hbx 4).trans rfl
  have k5 : W1.cell? ⟨w.heap.size, 5, none⟩ = some (.slice ak 0 ck) := (Lib.cell_of_heap hbx 5).trans rfl
  have k6 : W1.cell? ⟨w.heap.size, 6, none⟩ = some (.int .i64 ps) := (Lib.cell_of_heap hbx 6).trans rfl
  clear hb1 hbx
  obtain ⟨aw, vw, hw⟩ := H1.out.wr
  have c7 : W1.cell? ⟨p, 7, none⟩ = some (.string G.left) := hw.all.1.2.2.2.2.1
  clear hw
  have HC := hide (H1.out.put G.left (by omega))
  rw [s1] at HC
  clear h
  go_enter Tryd.func40, Tryd.ntmps40
  go_wp2_with fail
  refine HC.out.mono ?_
  rintro e w9 ⟨rfl, hx9, hk9⟩
  have HF9 := hide (And.intro hx9 (HK1.out.trans hk9))
  clear hx9 hk9 HC 
  go_wp2
  go_end0
  refine ⟨rfl, ?_, HF9.out.2⟩
  have hx := HF9.out.1
  simpa [sep, rdT, bL, str, List.append_assoc] using hx
set_option maxHeartbeats 4000000 in
theorem op4 {n m : Nat} {w0 : World} {B p : Nat} {G : Gs} (IF : CF n m w0 B p G) (IE : CE n m w0 B p G) (IO : CO n m w0 B p G) (rt : ByteArray) (bg : Bool) (out : List UInt8) (w : World) (x : Nd) (v : Value) (hx : NdIn (m + 1) n 0 w0 x v) (hk : okN (m + 1) false x) (hs : sndA x) (h : St w0 B w p G rt bg out) (hK : x.kind = 4) (hl : out.length + 1 + (opT G (TX G m) rt x).length ≤ 140737488355328) :
    Calls Tryd.prog 40 #[.pointer (some ⟨p, 0, none⟩), v] w (GvT B p G rt true (out ++ (sep bg ++ opT G (TX G m) rt x)) w) := by
  have hx0 := hx
  have hk0 := hk
  obtain ⟨v1, v2, ak, ck, rfl, hv1, hlit, hkid⟩ := nd_kids hx
  have hse := sep_le bg
  have hT : opT G (TX G m) rt x = bL rt := by simp [exA, opT, hK]
  have hkl : x.kids.length = 0 := by have := hk.1; rw [hK] at this; unfold arK at this; simp at this; first | omega | (rw [this]; rfl)
  rw [hT] at hl ⊢
  rw [hK, hkl]
  have hnb : (bL rt).length = (rt).size := by simp [bL]
  generalize x.name = nm at *
  generalize x.op = o at *
  generalize x.pos = ps at *
  clear hx hk hs IF IE IO hkid hT hkl hK hx0 hk0 hlit
  obtain ⟨W1, hW1⟩ : ∃ W1, w.alloc (.cells (sv (4) (o) nm (v1) (v2) (.slice ak 0 ck) (ps)) 34) = W1 := ⟨_, rfl⟩
  have hb1 : Below w.heap.size w W1 := by rw [← hW1]; exact alloc_one _ _
  have s1 : W1.heap.size = w.heap.size + 1 := by rw [← hW1]; simp
  have hbx : W1.heap[w.heap.size]? = some (.cells (sv (4) (o) nm (v1) (v2) (.slice ak 0 ck) (ps)) 34 (0, 0)) := by rw [← hW1]; exact heap_alloc_new w _
  have hql : w.heap.size ≠ p := Nat.ne_of_gt h.lt
  have H1 := hide (h.next hb1)
  have HK1 := hide (h.wkn hb1)
  have HB1 := hide hbx
  have k0 : W1.cell? ⟨w.heap.size, 0, none⟩ = some (.int .i64 4) := (Lib.cell_of_heap hbx 0).trans rfl
  have k1 : W1.cell? ⟨w.heap.size, 1, none⟩ = some (.int .i64 o) := (Lib.cell_of_heap hbx 1).trans rfl
  have k2 : W1.cell? ⟨w.heap.size, 2, none⟩ = some (.string nm) := (Lib.cell_of_heap hbx 2).trans rfl
  have k3 : W1.cell? ⟨w.heap.size, 3, none⟩ = some (v1) := (Lib.cell_of_heap hbx 3).trans rfl
  have k4 : W1.cell? ⟨w.heap.size, 4, none⟩ = some (v2) := (Lib.cell_of_heap hbx 4).trans rfl
  have k5 : W1.cell? ⟨w.heap.size, 5, none⟩ = some (.slice ak 0 ck) := (Lib.cell_of_heap hbx 5).trans rfl
  have k6 : W1.cell? ⟨w.heap.size, 6, none⟩ = some (.int .i64 ps) := (Lib.cell_of_heap hbx 6).trans rfl
  clear hb1 hbx
  obtain ⟨aw, vw, hw⟩ := H1.out.wr
  have c7 : W1.cell? ⟨p, 14, none⟩ = some (.string rt) := hw.all.2.1.2.2.2
  clear hw
  have HC := hide (H1.out.put rt (by omega))
  rw [s1] at HC
  clear h
  go_enter Tryd.func40, Tryd.ntmps40
  go_wp2_with fail
  refine HC.out.mono ?_
  rintro e w9 ⟨rfl, hx9, hk9⟩
  have HF9 := hide (And.intro hx9 (HK1.out.trans hk9))
  clear hx9 hk9 HC 
  go_wp2
  go_end0
  refine ⟨rfl, ?_, HF9.out.2⟩
  have hx := HF9.out.1
  simpa [sep, rdT, bL, str, List.append_assoc] using hx
set_option maxHeartbeats 4000000 in
theorem op8 {n m : Nat} {w0 : World} {B p : Nat} {G : Gs} (IF : CF n m w0 B p G) (IE : CE n m w0 B p G) (IO : CO n m w0 B p G) (rt : ByteArray) (bg : Bool) (out : List UInt8) (w : World) (x : Nd) (v : Value) (hx : NdIn (m + 1) n 0 w0 x v) (hk : okN (m + 1) false x) (hs : sndA x) (h : St w0 B w p G rt bg out) (hK : x.kind = 8) (hl : out.length + 1 + (opT G (TX G m) rt x).length ≤ 140737488355328) :
    Calls Tryd.prog 40 #[.pointer (some ⟨p, 0, none⟩), v] w (GvT B p G rt true (out ++ (sep bg ++ opT G (TX G m) rt x)) w) := by
  have hx0 := hx
  have hk0 := hk
  obtain ⟨v1, v2, ak, ck, rfl, hv1, hlit, hkid⟩ := nd_kids hx
  have hse := sep_le bg
  have hT : opT G (TX G m) rt x = (TX G m).O rt (kp x 0) ++ [32, 91] ++ ([32] ++ (TX G m).E rt (kp x 1)) ++ [32, 93] := by simp [exA, opT, hK]
  have hkl : x.kids.length = 2 := by have := hk.1; rw [hK] at this; unfold arK at this; simp at this; first | omega | (rw [this]; rfl)
  rw [hT] at hl ⊢
  obtain ⟨b, off, p01, p02, p03, rfl, hn0, z0⟩ := hkid 0 (by omega)
  have ho0 := hk.2.2.2 0 (by omega)
  rw [show fnP x.kind 0 = false by rw [hK]; rfl] at ho0
  have hs0 := hs.kid (i := 0) (by omega)
  have Z0 : Hid (∀ W, Below w0.heap.size w0 W → Sv7 W b (off) (kp x 0).kind (kp x 0).op (kp x 0).name p01 p02 p03 (kp x 0).pos) := hide (by simpa only [Nat.zero_mul, Nat.add_zero] using z0)
  obtain ⟨b1, off1, p11, p12, p13, he1, hn1, z1⟩ := hkid 1 (by omega)
  cases he1
  have ho1 := hk.2.2.2 1 (by omega)
  rw [show fnP x.kind 1 = false by rw [hK]; rfl] at ho1
  have hs1 := hs.kid (i := 1) (by omega)
  have Z1 : Hid (∀ W, Below w0.heap.size w0 W → Sv7 W b (off + 7) (kp x 1).kind (kp x 1).op (kp x 1).name p11 p12 p13 (kp x 1).pos) := hide (by exact z1)
  have HO := hide (fun bg out w (hst : St w0 B w p G rt bg out) hl => IO rt bg out w (kp x 0) _ hn0 ho0 hs0 hst hl)
  have HE := hide (fun bg out w (hst : St w0 B w p G rt bg out) hl => IE rt bg out w (kp x 1) _ hn1 ho1 hs1 hst hl)
  rw [hK, hkl]
  obtain ⟨OT, hOT⟩ : ∃ OT, (TX G m).O rt (kp x 0) = OT := ⟨_, rfl⟩
  rw [hOT] at HO hl ⊢
  obtain ⟨ET, hET⟩ : ∃ ET, (TX G m).E rt (kp x 1) = ET := ⟨_, rfl⟩
  rw [hET] at HE hl ⊢
  have hq1 : (⟨#[91]⟩ : ByteArray).size = 1 := rfl
  have hq2 : (⟨#[93]⟩ : ByteArray).size = 1 := rfl
  have hq3 : (bL ⟨#[91]⟩).length = 1 := rfl
  generalize (kp x 0).kind = qk0 at *
  generalize (kp x 0).op = qo0 at *
  generalize (kp x 0).name = qn0 at *
  generalize (kp x 0).pos = qp0 at *
  generalize (kp x 1).kind = qk1 at *
  generalize (kp x 1).op = qo1 at *
  generalize (kp x 1).name = qn1 at *
  generalize (kp x 1).pos = qp1 at *
  generalize x.op = o at *
  generalize x.name = nm at *
  generalize x.pos = ps at *
  simp only [List.length_append, List.length_cons, List.length_nil] at hl
  clear hx hk hs IF IE IO hkid hT hkl hK hx0 hk0 hlit hOT hET hn0 hn1 z0 z1 ho0 ho1 hs0 hs1
  obtain ⟨W1, hW1⟩ : ∃ W1, w.alloc (.cells (sv (8) (o) nm (v1) (v2) (.slice (some ⟨b, off, none⟩) 2 ck) (ps)) 34) = W1 := ⟨_, rfl⟩
  have hb1 : Below w.heap.size w W1 := by rw [← hW1]; exact alloc_one _ _
  have s1 : W1.heap.size = w.heap.size + 1 := by rw [← hW1]; simp
  have hbx : W1.heap[w.heap.size]? = some (.cells (sv (8) (o) nm (v1) (v2) (.slice (some ⟨b, off, none⟩) 2 ck) (ps)) 34 (0, 0)) := by rw [← hW1]; exact heap_alloc_new w _
  have hql : w.heap.size ≠ p := Nat.ne_of_gt h.lt
  have H1 := hide (h.next hb1)
  have HK1 := hide (h.wkn hb1)
  have HB1 := hide hbx
  have k0 : W1.cell? ⟨w.heap.size, 0, none⟩ = some (.int .i64 8) := (Lib.cell_of_heap hbx 0).trans rfl
  have k1 : W1.cell? ⟨w.heap.size, 1, none⟩ = some (.int .i64 o) := (Lib.cell_of_heap hbx 1).trans rfl
  have k2 : W1.cell? ⟨w.heap.size, 2, none⟩ = some (.string nm) := (Lib.cell_of_heap hbx 2).trans rfl
  have k3 : W1.cell? ⟨w.heap.size, 3, none⟩ = some (v1) := (Lib.cell_of_heap hbx 3).trans rfl
  have k4 : W1.cell? ⟨w.heap.size, 4, none⟩ = some (v2) := (Lib.cell_of_heap hbx 4).trans rfl
  have k5 : W1.cell? ⟨w.heap.size, 5, none⟩ = some (.slice (some ⟨b, off, none⟩) 2 ck) := (Lib.cell_of_heap hbx 5).trans rfl
  have k6 : W1.cell? ⟨w.heap.size, 6, none⟩ = some (.int .i64 ps) := (Lib.cell_of_heap hbx 6).trans rfl
  clear hb1 hbx
  have HC := hide (HO.out bg out W1 H1.out (by omega))
  obtain ⟨y0, y1, y2, y3, y4, y5, y6⟩ := Z0.out W1 H1.out.old
  clear h HO
  go_enter Tryd.func40, Tryd.ntmps40
  go_wp2_with fail
  refine HC.out.mono ?_
  rintro e w2 g2
  have H2 := hide (H1.out.got g2)
  have HK2 := hide (HK1.out.trans g2.2.2)
  have hb2 := g2.2.2.box HB1.out hql (by decide)
  have HB2 := hide hb2
  obtain rfl := g2.1
  clear g2 HC k0 k1 k2 k3 k4 k5 k6 y0 y1 y2 y3 y4 y5 y6
  clear hb2
  have HC := hide (H2.out.put ⟨#[91]⟩ (by simp only [List.length_append, sep_true, List.length_cons, List.length_nil]; omega))
  go_wp2_with fail
  refine HC.out.mono ?_
  rintro e w3 g3
  have H3 := hide (H2.out.got g3)
  have HK3 := hide (HK2.out.trans g3.2.2)
  have hb3 := g3.2.2.box HB2.out hql (by decide)
  have HB3 := hide hb3
  obtain rfl := g3.1
  clear g3 HC 
  have k0 : w3.cell? ⟨w.heap.size, 0, none⟩ = some (.int .i64 8) := (Lib.cell_of_heap hb3 0).trans rfl
  have k1 : w3.cell? ⟨w.heap.size, 1, none⟩ = some (.int .i64 o) := (Lib.cell_of_heap hb3 1).trans rfl
  have k2 : w3.cell? ⟨w.heap.size, 2, none⟩ = some (.string nm) := (Lib.cell_of_heap hb3 2).trans rfl
  have k3 : w3.cell? ⟨w.heap.size, 3, none⟩ = some (v1) := (Lib.cell_of_heap hb3 3).trans rfl
  have k4 : w3.cell? ⟨w.heap.size, 4, none⟩ = some (v2) := (Lib.cell_of_heap hb3 4).trans rfl
  have k5 : w3.cell? ⟨w.heap.size, 5, none⟩ = some (.slice (some ⟨b, off, none⟩) 2 ck) := (Lib.cell_of_heap hb3 5).trans rfl
  have k6 : w3.cell? ⟨w.heap.size, 6, none⟩ = some (.int .i64 ps) := (Lib.cell_of_heap hb3 6).trans rfl
  clear hb3
  obtain ⟨y0, y1, y2, y3, y4, y5, y6⟩ := Z1.out w3 H3.out.old
  have HC := hide (HE.out true _ w3 H3.out (by simp only [List.length_append, sep_true, hq3, List.length_cons, List.length_nil]; omega))
  clear HE
  go_wp2_with fail
  refine HC.out.mono ?_
  rintro e w4 g4
  have H4 := hide (H3.out.got g4)
  have HK4 := hide (HK3.out.trans g4.2.2)
  have hb4 := g4.2.2.box HB3.out hql (by decide)
  have HB4 := hide hb4
  obtain rfl := g4.1
  clear g4 HC k0 k1 k2 k3 k4 k5 k6 y0 y1 y2 y3 y4 y5 y6
  clear hb4
  have HC := hide (H4.out.put ⟨#[93]⟩ (by simp only [List.length_append, sep_true, hq3, List.length_cons, List.length_nil]; omega))
  go_wp2_with fail
  refine HC.out.mono ?_
  rintro e w9 ⟨rfl, hx9, hk9⟩
  have HF9 := hide (And.intro hx9 (HK4.out.trans hk9))
  clear hx9 hk9 HC 
  go_wp2
  go_end0
  refine ⟨rfl, ?_, HF9.out.2⟩
  have hx := HF9.out.1
  simpa [sep, rdT, bL, str, List.append_assoc] using hx
set_option maxHeartbeats 4000000 in
theorem op5 {n m : Nat} {w0 : World} {B p : Nat} {G : Gs} (IF : CF n m w0 B p G) (IE : CE n m w0 B p G) (IO : CO n m w0 B p G) (rt : ByteArray) (bg : Bool) (out : List UInt8) (w : World) (x : Nd) (v : Value) (hx : NdIn (m + 1) n 0 w0 x v) (hk : okN (m + 1) false x) (hs : sndA x) (h : St w0 B w p G rt bg out) (hK : x.kind = 5) (hl : out.length + 1 + (opT G (TX G m) rt x).length ≤ 140737488355328) :
    Calls Tryd.prog 40 #[.pointer (some ⟨p, 0, none⟩), v] w (GvT B p G rt true (out ++ (sep bg ++ opT G (TX G m) rt x)) w) := by
  have hx0 := hx
  have hk0 := hk
  obtain ⟨v1, v2, ak, ck, rfl, hv1, hlit, hkid⟩ := nd_kids hx
  have hse := sep_le bg
  have hT : opT G (TX G m) rt x = rdT (exA G (TX G m) rt x) := by simp [opT, hK]
  have hkl : x.kids.length = 2 := by have := hk.1; rw [hK] at this; unfold arK at this; simp at this; first | omega | (rw [this]; rfl)
  rw [hT] at hl ⊢
  have HA := hide (fun bg out w (hst : St w0 B w p G rt bg out) hl => ca_of IF IE IO rt bg out w x _ hx0 hk0 hs hst (by rw [hK]; simp) hl)
  rw [hK, hkl] at HA
  rw [hK, hkl]
  obtain ⟨XT, hXT⟩ : ∃ XT, exA G (TX G m) rt x = XT := ⟨_, rfl⟩
  rw [hXT] at HA hl ⊢
  have hlr : (rdT XT).length = XT.length + 4 := by simp [rdT]
  generalize x.op = o at *
  generalize x.name = nm at *
  generalize x.pos = ps at *
  clear hx hk hs IF IE IO hkid hT hkl hK hx0 hk0 hlit hXT
  obtain ⟨W1, hW1⟩ : ∃ W1, w.alloc (.cells (sv (5) (o) nm (v1) (v2) (.slice ak 2 ck) (ps)) 34) = W1 := ⟨_, rfl⟩
  have hb1 : Below w.heap.size w W1 := by rw [← hW1]; exact alloc_one _ _
  have s1 : W1.heap.size = w.heap.size + 1 := by rw [← hW1]; simp
  have hbx : W1.heap[w.heap.size]? = some (.cells (sv (5) (o) nm (v1) (v2) (.slice ak 2 ck) (ps)) 34 (0, 0)) := by rw [← hW1]; exact heap_alloc_new w _
  have hql : w.heap.size ≠ p := Nat.ne_of_gt h.lt
  have H1 := hide (h.next hb1)
  have HK1 := hide (h.wkn hb1)
  have HB1 := hide hbx
  have k0 : W1.cell? ⟨w.heap.size, 0, none⟩ = some (.int .i64 5) := (Lib.cell_of_heap hbx 0).trans rfl
  have k1 : W1.cell? ⟨w.heap.size, 1, none⟩ = some (.int .i64 o) := (Lib.cell_of_heap hbx 1).trans rfl
  have k2 : W1.cell? ⟨w.heap.size, 2, none⟩ = some (.string nm) := (Lib.cell_of_heap hbx 2).trans rfl
  have k3 : W1.cell? ⟨w.heap.size, 3, none⟩ = some (v1) := (Lib.cell_of_heap hbx 3).trans rfl
  have k4 : W1.cell? ⟨w.heap.size, 4, none⟩ = some (v2) := (Lib.cell_of_heap hbx 4).trans rfl
  have k5 : W1.cell? ⟨w.heap.size, 5, none⟩ = some (.slice ak 2 ck) := (Lib.cell_of_heap hbx 5).trans rfl
  have k6 : W1.cell? ⟨w.heap.size, 6, none⟩ = some (.int .i64 ps) := (Lib.cell_of_heap hbx 6).trans rfl
  clear hb1 hbx
  have HC := hide (brack63_25 H1.out XT 5 o nm v1 v2 (.slice ak 2 ck) hv1 ps (by omega) (fun w1 out1 hst hb => HA.out true out1 w1 hst hb))
  clear h HA
  go_enter Tryd.func40, Tryd.ntmps40
  go_wp2_with fail
  refine HC.out.mono ?_
  rintro e w9 ⟨rfl, hx9, hk9⟩
  have HF9 := hide (And.intro hx9 (HK1.out.trans hk9))
  clear hx9 hk9 HC 
  go_wp2
  go_end0
  refine ⟨rfl, ?_, HF9.out.2⟩
  have hx := HF9.out.1
  simpa [sep, rdT, bL, str, List.append_assoc] using hx
set_option maxHeartbeats 4000000 in
theorem op6 {n m : Nat} {w0 : World} {B p : Nat} {G : Gs} (IF : CF n m w0 B p G) (IE : CE n m w0 B p G) (IO : CO n m w0 B p G) (rt : ByteArray) (bg : Bool) (out : List UInt8) (w : World) (x : Nd) (v : Value) (hx : NdIn (m + 1) n 0 w0 x v) (hk : okN (m + 1) false x) (hs : sndA x) (h : St w0 B w p G rt bg out) (hK : x.kind = 6) (hl : out.length + 1 + (opT G (TX G m) rt x).length ≤ 140737488355328) :
    Calls Tryd.prog 40 #[.pointer (some ⟨p, 0, none⟩), v] w (GvT B p G rt true (out ++ (sep bg ++ opT G (TX G m) rt x)) w) := by
  have hx0 := hx
  have hk0 := hk
  obtain ⟨v1, v2, ak, ck, rfl, hv1, hlit, hkid⟩ := nd_kids hx
  have hse := sep_le bg
  have hT : opT G (TX G m) rt x = rdT (exA G (TX G m) rt x) := by simp [opT, hK]
  have hkl : x.kids.length = 3 := by have := hk.1; rw [hK] at this; unfold arK at this; simp at this; first | omega | (rw [this]; rfl)
  rw [hT] at hl ⊢
  have HA := hide (fun bg out w (hst : St w0 B w p G rt bg out) hl => ca_of IF IE IO rt bg out w x _ hx0 hk0 hs hst (by rw [hK]; simp) hl)
  rw [hK, hkl] at HA
  rw [hK, hkl]
  obtain ⟨XT, hXT⟩ : ∃ XT, exA G (TX G m) rt x = XT := ⟨_, rfl⟩
  rw [hXT] at HA hl ⊢
  have hlr : (rdT XT).length = XT.length + 4 := by simp [rdT]
  generalize x.op = o at *
  generalize x.name = nm at *
  generalize x.pos = ps at *
  clear hx hk hs IF IE IO hkid hT hkl hK hx0 hk0 hlit hXT
  obtain ⟨W1, hW1⟩ : ∃ W1, w.alloc (.cells (sv (6) (o) nm (v1) (v2) (.slice ak 3 ck) (ps)) 34) = W1 := ⟨_, rfl⟩
  have hb1 : Below w.heap.size w W1 := by rw [← hW1]; exact alloc_one _ _
  have s1 : W1.heap.size = w.heap.size + 1 := by rw [← hW1]; simp
  have hbx : W1.heap[w.heap.size]? = some (.cells (sv (6) (o) nm (v1) (v2) (.slice ak 3 ck) (ps)) 34 (0, 0)) := by rw [← hW1]; exact heap_alloc_new w _
  have hql : w.heap.size ≠ p := Nat.ne_of_gt h.lt
  have H1 := hide (h.next hb1)
  have HK1 := hide (h.wkn hb1)
  have HB1 := hide hbx
  have k0 : W1.cell? ⟨w.heap.size, 0, none⟩ = some (.int .i64 6) := (Lib.cell_of_heap hbx 0).trans rfl
  have k1 : W1.cell? ⟨w.heap.size, 1, none⟩ = some (.int .i64 o) := (Lib.cell_of_heap hbx 1).trans rfl
  have k2 : W1.cell? ⟨w.heap.size, 2, none⟩ = some (.string nm) := (Lib.cell_of_heap hbx 2).trans rfl
  have k3 : W1.cell? ⟨w.heap.size, 3, none⟩ = some (v1) := (Lib.cell_of_heap hbx 3).trans rfl
  have k4 : W1.cell? ⟨w.heap.size, 4, none⟩ = some (v2) := (Lib.cell_of_heap hbx 4).trans rfl
  have k5 : W1.cell? ⟨w.heap.size, 5, none⟩ = some (.slice ak 3 ck) := (Lib.cell_of_heap hbx 5).trans rfl
  have k6 : W1.cell? ⟨w.heap.size, 6, none⟩ = some (.int .i64 ps) := (Lib.cell_of_heap hbx 6).trans rfl
  clear hb1 hbx
  have HC := hide (brack63_25 H1.out XT 6 o nm v1 v2 (.slice ak 3 ck) hv1 ps (by omega) (fun w1 out1 hst hb => HA.out true out1 w1 hst hb))
  clear h HA
  go_enter Tryd.func40, Tryd.ntmps40
  go_wp2_with fail
  refine HC.out.mono ?_
  rintro e w9 ⟨rfl, hx9, hk9⟩
  have HF9 := hide (And.intro hx9 (HK1.out.trans hk9))
  clear hx9 hk9 HC 
  go_wp2
  go_end0
  refine ⟨rfl, ?_, HF9.out.2⟩
  have hx := HF9.out.1
  simpa [sep, rdT, bL, str, List.append_assoc] using hx
set_option maxHeartbeats 4000000 in
theorem op1 {n m : Nat} {w0 : World} {B p : Nat} {G : Gs} (IF : CF n m w0 B p G) (IE : CE n m w0 B p G) (IO : CO n m w0 B p G) (rt : ByteArray) (bg : Bool) (out : List UInt8) (w : World) (x : Nd) (v : Value) (hx : NdIn (m + 1) n 0 w0 x v) (hk : okN (m + 1) false x) (hs : sndA x) (h : St w0 B w p G rt bg out) (hK : x.kind = 1) (hl : out.length + 1 + (opT G (TX G m) rt x).length ≤ 140737488355328) :
    Calls Tryd.prog 40 #[.pointer (some ⟨p, 0, none⟩), v] w (GvT B p G rt true (out ++ (sep bg ++ opT G (TX G m) rt x)) w) := by
  have hx0 := hx
  have hk0 := hk
  obtain ⟨v1, v2, ak, ck, rfl, hv1, hlit, hkid⟩ := nd_kids hx
  have hse := sep_le bg
  have hT : opT G (TX G m) rt x = litT G x.lit := by simp [exA, opT, hK]
  have hkl : x.kids.length = 0 := by have := hk.1; rw [hK] at this; unfold arK at this; simp at this; first | omega | (rw [this]; rfl)
  rw [hT] at hl ⊢
  have hLB := hk.2.2.1 hK
  have hsn := hs 1
  have HL := hide (fun W (hW : Below w0.heap.size w0 W) => literal34 (hlit.next hW) hsn.2.1 (lit_good hLB) hsn.2.2.1 h.am.hm h.am.hq (h.am.tab.below hW h.am.tab.1) (Lib.tabBelow_of_tabIs h.am.pw _ hW))
  unfold gV at HL
  rw [hK, hkl]
  obtain ⟨⟨la1, ll1, lc1, rfl⟩, ⟨la2, ll2, lc2, rfl⟩, -⟩ := nd_slices hx0
  obtain ⟨LT, hLT⟩ : ∃ LT, litT G x.lit = LT := ⟨_, rfl⟩
  rw [hLT] at HL hl ⊢
  have hsz : (str LT).size = LT.length := by show (str LT).data.size = _; simp [str]
  have hbn : bL (str LT) = LT := by simp [bL, str]
  generalize x.op = o at *
  generalize x.name = nm at *
  generalize x.pos = ps at *
  clear hx hk hs IF IE IO hkid hT hkl hK hx0 hk0 hlit hLT hLB hsn
  obtain ⟨W1, hW1⟩ : ∃ W1, w.alloc (.cells (sv (1) (o) nm (.slice la1 ll1 lc1) (.slice la2 ll2 lc2) (.slice ak 0 ck) (ps)) 34) = W1 := ⟨_, rfl⟩
  have hb1 : Below w.heap.size w W1 := by rw [← hW1]; exact alloc_one _ _
  have s1 : W1.heap.size = w.heap.size + 1 := by rw [← hW1]; simp
  have hbx : W1.heap[w.heap.size]? = some (.cells (sv (1) (o) nm (.slice la1 ll1 lc1) (.slice la2 ll2 lc2) (.slice ak 0 ck) (ps)) 34 (0, 0)) := by rw [← hW1]; exact heap_alloc_new w _
  have hql : w.heap.size ≠ p := Nat.ne_of_gt h.lt
  have H1 := hide (h.next hb1)
  have HK1 := hide (h.wkn hb1)
  have HB1 := hide hbx
  have k0 : W1.cell? ⟨w.heap.size, 0, none⟩ = some (.int .i64 1) := (Lib.cell_of_heap hbx 0).trans rfl
  have k1 : W1.cell? ⟨w.heap.size, 1, none⟩ = some (.int .i64 o) := (Lib.cell_of_heap hbx 1).trans rfl
  have k2 : W1.cell? ⟨w.heap.size, 2, none⟩ = some (.string nm) := (Lib.cell_of_heap hbx 2).trans rfl
  have k3 : W1.cell? ⟨w.heap.size, 3, none⟩ = some (.slice la1 ll1 lc1) := (Lib.cell_of_heap hbx 3).trans rfl
  have k4 : W1.cell? ⟨w.heap.size, 4, none⟩ = some (.slice la2 ll2 lc2) := (Lib.cell_of_heap hbx 4).trans rfl
  have k5 : W1.cell? ⟨w.heap.size, 5, none⟩ = some (.slice ak 0 ck) := (Lib.cell_of_heap hbx 5).trans rfl
  have k6 : W1.cell? ⟨w.heap.size, 6, none⟩ = some (.int .i64 ps) := (Lib.cell_of_heap hbx 6).trans rfl
  clear hb1 hbx
  obtain ⟨aw, vw, hw⟩ := H1.out.wr
  have hplt := hw.lt
  have hblt := lt_heap HB1.out
  have HBX : Hid (∀ W, Below W1.heap.size W1 W → W.heap[w.heap.size]? = some (.cells (sv (1) (o) nm (.slice la1 ll1 lc1) (.slice la2 ll2 lc2) (.slice ak 0 ck) (ps)) 34 (0, 0))) := hide fun W hW => (hW.block _ hblt).trans HB1.out
  have KS : Hid (∀ W, Below W1.heap.size W1 W → W.cell? ⟨w.heap.size, 3, none⟩ = some (.slice la1 ll1 lc1) ∧ W.cell? ⟨w.heap.size, 4, none⟩ = some (.slice la2 ll2 lc2) ∧ W.cell? ⟨p, 0, none⟩ = some (G.s1) ∧ W.cell? ⟨p, 1, none⟩ = some (G.s2) ∧ W.cell? ⟨p, 2, none⟩ = some (G.s3) ∧ W.cell? ⟨p, 3, none⟩ = some (.string G.outer) ∧ W.cell? ⟨p, 4, none⟩ = some (.string G.power) ∧ W.cell? ⟨p, 5, none⟩ = some (.string G.opn) ∧ W.cell? ⟨p, 6, none⟩ = some (.string G.cls) ∧ W.cell? ⟨p, 7, none⟩ = some (.string G.left) ∧ W.cell? ⟨p, 8, none⟩ = some (.string G.right) ∧ W.cell? ⟨p, 9, none⟩ = some (.string G.minus) ∧ W.cell? ⟨p, 10, none⟩ = some (.string G.quote) ∧ W.cell? ⟨p, 11, none⟩ = some (.bool G.trains) ∧ W.cell? ⟨p, 12, none⟩ = some (.bool G.lone) ∧ W.cell? ⟨p, 13, none⟩ = some (.bool G.square)) := hide fun W hW => by
    have hw2 := hw.next hW
    have hbx := HBX.out W hW
    exact ⟨(Lib.cell_of_heap hbx 3).trans rfl, (Lib.cell_of_heap hbx 4).trans rfl, hw2.cells 0 _ rfl, hw2.cells 1 _ rfl, hw2.cells 2 _ rfl, hw2.cells 3 _ rfl, hw2.cells 4 _ rfl, hw2.cells 5 _ rfl, hw2.cells 6 _ rfl, hw2.cells 7 _ rfl, hw2.cells 8 _ rfl, hw2.cells 9 _ rfl, hw2.cells 10 _ rfl, hw2.cells 11 _ rfl, hw2.cells 12 _ rfl, hw2.cells 13 _ rfl⟩
  have HST : Hid (∀ W, Below W1.heap.size W1 W → St w0 B W p G rt bg out) := hide fun W hW => H1.out.next hW
  have HKW : Hid (∀ W, Below W1.heap.size W1 W → Wk B p w W) := hide fun W hW => HK1.out.trans (H1.out.wkn hW)
  have HLB : Hid (out.length + (sep bg).length + (str LT).size ≤ 140737488355328) := hide (by omega)
  have HSF : Hid (∀ w3 w4 o4, Below W1.heap.size W1 w3 → (∃ a v, Wr B w4 p G rt true o4 a v) → Wk B p w3 w4 → w4.cell? ⟨w.heap.size, 3, none⟩ = some (.slice la1 ll1 lc1) ∧ w4.cell? ⟨w.heap.size, 4, none⟩ = some (.slice la2 ll2 lc2) ∧ w4.cell? ⟨p, 0, none⟩ = some (G.s1) ∧ w4.cell? ⟨p, 1, none⟩ = some (G.s2) ∧ w4.cell? ⟨p, 2, none⟩ = some (G.s3) ∧ w4.cell? ⟨p, 3, none⟩ = some (.string G.outer) ∧ w4.cell? ⟨p, 4, none⟩ = some (.string G.power) ∧ w4.cell? ⟨p, 5, none⟩ = some (.string G.opn) ∧ w4.cell? ⟨p, 6, none⟩ = some (.string G.cls) ∧ w4.cell? ⟨p, 7, none⟩ = some (.string G.left) ∧ w4.cell? ⟨p, 8, none⟩ = some (.string G.right) ∧ w4.cell? ⟨p, 9, none⟩ = some (.string G.minus) ∧ w4.cell? ⟨p, 10, none⟩ = some (.string G.quote) ∧ w4.cell? ⟨p, 11, none⟩ = some (.bool G.trains) ∧ w4.cell? ⟨p, 12, none⟩ = some (.bool G.lone) ∧ w4.cell? ⟨p, 13, none⟩ = some (.bool G.square)) := hide fun w3 w4 o4 hb4 hx4 hk4 => by
    obtain ⟨a, v, h9⟩ := hx4
    have hbx := hk4.box (HBX.out _ hb4) hql (by decide)
    exact ⟨(Lib.cell_of_heap hbx 3).trans rfl, (Lib.cell_of_heap hbx 4).trans rfl, h9.cells 0 _ rfl, h9.cells 1 _ rfl, h9.cells 2 _ rfl, h9.cells 3 _ rfl, h9.cells 4 _ rfl, h9.cells 5 _ rfl, h9.cells 6 _ rfl, h9.cells 7 _ rfl, h9.cells 8 _ rfl, h9.cells 9 _ rfl, h9.cells 10 _ rfl, h9.cells 11 _ rfl, h9.cells 12 _ rfl, h9.cells 13 _ rfl⟩
  clear hw h H1 HK1 HB1 hse hl
  go_enter Tryd.func40, Tryd.ntmps40
  go_upto_region 4 with fail
  have HD0 : Hid (Below W1.heap.size W1 W1.drew) := hide ((Below.refl W1.heap.size W1).drew)
  clear k0 k1 k2 k3 k4 k5 k6
  go_region_held3 (fun W => W.cell? ⟨w.heap.size, 3, none⟩ = some (.slice la1 ll1 lc1) ∧ W.cell? ⟨w.heap.size, 4, none⟩ = some (.slice la2 ll2 lc2) ∧ W.cell? ⟨p, 0, none⟩ = some (G.s1) ∧ W.cell? ⟨p, 1, none⟩ = some (G.s2) ∧ W.cell? ⟨p, 2, none⟩ = some (G.s3) ∧ W.cell? ⟨p, 3, none⟩ = some (.string G.outer) ∧ W.cell? ⟨p, 4, none⟩ = some (.string G.power) ∧ W.cell? ⟨p, 5, none⟩ = some (.string G.opn) ∧ W.cell? ⟨p, 6, none⟩ = some (.string G.cls) ∧ W.cell? ⟨p, 7, none⟩ = some (.string G.left) ∧ W.cell? ⟨p, 8, none⟩ = some (.string G.right) ∧ W.cell? ⟨p, 9, none⟩ = some (.string G.minus) ∧ W.cell? ⟨p, 10, none⟩ = some (.string G.quote) ∧ W.cell? ⟨p, 11, none⟩ = some (.bool G.trains) ∧ W.cell? ⟨p, 12, none⟩ = some (.bool G.lone) ∧ W.cell? ⟨p, 13, none⟩ = some (.bool G.square)) (first | with_reducible exact KS.out _ HD0.out | with_reducible exact KS.out _ (by with_reducible assumption) | with_reducible assumption) (first | (go_at_call 34; refine (HL.out _ (HST.out _ HD0.out).old).mono ?_; rintro e w3 ⟨rfl, hb3⟩; have hb4 := HD0.out.trans (hb3.mono HD0.out.size); have hb5 := hb4.alloc hb4.size (.cells #[.string (str LT)] 9)) | (go_at_call 58; refine ((HST.out _ hb4).put (str LT) HLB.out).mono ?_; rintro e w4 ⟨rfl, hx4, hk4⟩; have hs4 := HSF.out _ _ _ hb4 hx4 hk4))
  have HF9 := hide (And.intro hx4 ((HKW.out _ hb4).trans hk4))
  clear hx4 hk4 hb3 hb4 hb5 hs4
  go_wp2
  go_end0
  refine ⟨rfl, ?_, HF9.out.2⟩
  have hx := HF9.out.1
  simpa [hbn, List.append_assoc] using hx
theorem oper_step {n m : Nat} {w0 : World} {B p : Nat} {G : Gs} (IF : CF n m w0 B p G) (IE : CE n m w0 B p G) (IO : CO n m w0 B p G) : CO n (m + 1) w0 B p G := by
  intro rt bg out w x v hx hk hs h hl
  have h21 : ¬ 21 ≤ x.kind := by have := hk.2.1; simpa using this.symm
  have hkn : x.kind = 1 ∨ x.kind = 2 ∨ x.kind = 3 ∨ x.kind = 4 ∨ x.kind = 5 ∨ x.kind = 6 ∨ x.kind = 8 := by
    have h1 := hk.1
    unfold arK at h1
    repeat' split at h1
    all_goals omega
  rcases hkn with hK | hK | hK | hK | hK | hK | hK
  · exact op1 IF IE IO rt bg out w x v hx hk hs h hK hl
  · exact op2 IF IE IO rt bg out w x v hx hk hs h hK hl
  · exact op3 IF IE IO rt bg out w x v hx hk hs h hK hl
  · exact op4 IF IE IO rt bg out w x v hx hk hs h hK hl
  · exact op5 IF IE IO rt bg out w x v hx hk hs h hK hl
  · exact op6 IF IE IO rt bg out w x v hx hk hs h hK hl
  · exact op8 IF IE IO rt bg out w x v hx hk hs h hK hl
set_option maxHeartbeats 4000000 in
theorem expr_step {n m : Nat} {w0 : World} {B p : Nat} {G : Gs} (IF : CF n m w0 B p G) (IE : CE n m w0 B p G) (IO : CO n m w0 B p G) : CE n (m + 1) w0 B p G := by
  intro rt bg out w x v hx hk hs h hl
  by_cases hK : x.kind = 5 ∨ x.kind = 6
  · have e : (TX G (m + 1)).E rt x = exA G (TX G m) rt x := if_pos hK
    rw [e] at hl ⊢
    exact ca_of IF IE IO rt bg out w x v hx hk hs h hK hl
  · have e : (TX G (m + 1)).E rt x = opT G (TX G m) rt x := if_neg hK
    rw [e] at hl ⊢
    have HO := hide (fun bg out w (hst : St w0 B w p G rt bg out) hl => oper_step IF IE IO rt bg out w x v hx hk hs hst hl)
    obtain ⟨v1, v2, v3, rfl, hv1⟩ := nd_form hx
    have hse := sep_le bg
    obtain ⟨OT, hOT⟩ : ∃ OT, opT G (TX G m) rt x = OT := ⟨_, rfl⟩
    have hOT' : (TX G (m + 1)).O rt x = OT := hOT
    rw [hOT'] at HO
    rw [hOT] at hl ⊢
    have n5 : (x.kind == 5) = false := beq_eq_false_iff_ne.2 (fun h => hK (Or.inl h))
    have n6 : (x.kind == 6) = false := beq_eq_false_iff_ne.2 (fun h => hK (Or.inr h))
    generalize x.kind = k at *
    generalize x.op = o at *
    generalize x.name = nm at *
    generalize x.pos = ps at *
    clear hOT hOT' hx hk hs IF IE IO e
    obtain ⟨W1, hW1⟩ : ∃ W1, w.alloc (.cells (sv (k) (o) nm (v1) (v2) (v3) (ps)) 34) = W1 := ⟨_, rfl⟩
    have hb1 : Below w.heap.size w W1 := by rw [← hW1]; exact alloc_one _ _
    have s1 : W1.heap.size = w.heap.size + 1 := by rw [← hW1]; simp
    have hbx : W1.heap[w.heap.size]? = some (.cells (sv (k) (o) nm (v1) (v2) (v3) (ps)) 34 (0, 0)) := by rw [← hW1]; exact heap_alloc_new w _
    have hql : w.heap.size ≠ p := Nat.ne_of_gt h.lt
    have H1 := hide (h.next hb1)
    have HK1 := hide (h.wkn hb1)
    have HB1 := hide hbx
    have k0 : W1.cell? ⟨w.heap.size, 0, none⟩ = some (.int .i64 k) := (Lib.cell_of_heap hbx 0).trans rfl
    have k1 : W1.cell? ⟨w.heap.size, 1, none⟩ = some (.int .i64 o) := (Lib.cell_of_heap hbx 1).trans rfl
    have k2 : W1.cell? ⟨w.heap.size, 2, none⟩ = some (.string nm) := (Lib.cell_of_heap hbx 2).trans rfl
    have k3 : W1.cell? ⟨w.heap.size, 3, none⟩ = some (v1) := (Lib.cell_of_heap hbx 3).trans rfl
    have k4 : W1.cell? ⟨w.heap.size, 4, none⟩ = some (v2) := (Lib.cell_of_heap hbx 4).trans rfl
    have k5 : W1.cell? ⟨w.heap.size, 5, none⟩ = some (v3) := (Lib.cell_of_heap hbx 5).trans rfl
    have k6 : W1.cell? ⟨w.heap.size, 6, none⟩ = some (.int .i64 ps) := (Lib.cell_of_heap hbx 6).trans rfl
    clear hb1 hbx
    have HC := hide (HO.out bg out W1 H1.out hl)
    clear h HO
    go_enter Tryd.func25, Tryd.ntmps25
    go_wp2_with fail
    refine HC.out.mono ?_
    rintro e w9 ⟨rfl, hx9, hk9⟩
    have HF9 := hide (And.intro hx9 (HK1.out.trans hk9))
    clear hx9 hk9 HC 
    go_wp2
    go_end0
    refine ⟨rfl, ?_, HF9.out.2⟩
    have hx := HF9.out.1
    simpa [sep, rdT, bL, str, List.append_assoc] using hx
/-- All three, of all depths. -/
theorem writers {w0 : World} {B p : Nat} {G : Gs} (n m : Nat) : CF n m w0 B p G ∧ CE n m w0 B p G ∧ CO n m w0 B p G := by
  induction m with
  | zero => exact ⟨fun _ _ _ _ _ _ hx => hx.elim, fun _ _ _ _ _ _ hx => hx.elim, fun _ _ _ _ _ _ hx => hx.elim⟩
  | succ m ih => exact ⟨fun_step ih.1 ih.2.1, expr_step ih.1 ih.2.1 ih.2.2, oper_step ih.1 ih.2.1 ih.2.2⟩
end Go.Proofs.YtneblkdkhlgmcaaDoor
namespace Go.Proofs.YtneblkdkhlgmcaaDoor
open Go.ChangeShapes Go.WideShapes Go.ChangeAt Go.RowKit
set_option maxRecDepth 100000
set_option linter.unusedVariables false
set_option linter.unusedSimpArgs false
/-- What the parts of a node of a kind must be. -/
def ptS (k : Int) : ByteArray :=
  if k = 22 ∨ k = 23 then ⟨#[120]⟩ else if k = 24 ∨ k = 25 ∨ k = 26 then ⟨#[102]⟩ else if k = 5 then ⟨#[102, 120]⟩ else if k = 8 then ⟨#[120, 120]⟩ else if k = 28 then ⟨#[102, 102]⟩ else if k = 6 then ⟨#[102, 120, 120]⟩ else if k = 27 then ⟨#[102, 102, 102]⟩ else ⟨#[]⟩
def fb (f : Bool) : Int := if f then 102 else 120
theorem parts36 (k : Int) (w : World) : Calls Tryd.prog 36 #[.int .i64 k] w fun e w' => e = .returned (.tuple #[.string (ptS k), .bool (decide (0 ≤ arK k))]) ∧ w' = w := by
  by_cases h : k = 1 ∨ k = 2 ∨ k = 3 ∨ k = 4 ∨ k = 21 ∨ k = 22 ∨ k = 23 ∨ k = 24 ∨ k = 25 ∨ k = 26 ∨ k = 5 ∨ k = 8 ∨ k = 28 ∨ k = 6 ∨ k = 27
  · rcases h with rfl | rfl | rfl | rfl | rfl | rfl | rfl | rfl | rfl | rfl | rfl | rfl | rfl | rfl | rfl <;> (go_enter Tryd.func36, Tryd.ntmps36; go_wp2; go_ret2; exact ⟨rfl, rfl⟩)
  · have e1 : ptS k = ⟨#[]⟩ := by unfold ptS; repeat' split
                                  all_goals first | omega | rfl
    have e2 : decide (0 ≤ arK k) = false := by
      unfold arK
      repeat' split
      all_goals first | omega | rfl
    rw [e1, e2]
    have n : ∀ c : Int, (c = 1 ∨ c = 2 ∨ c = 3 ∨ c = 4 ∨ c = 21 ∨ c = 22 ∨ c = 23 ∨ c = 24 ∨ c = 25 ∨ c = 26 ∨ c = 5 ∨ c = 8 ∨ c = 28 ∨ c = 6 ∨ c = 27) → (k == c) = false := fun c hc => beq_eq_false_iff_ne.2 (fun e => h (by rw [e]; exact hc))
    have n1 := n 1 (by simp)
    have n2 := n 2 (by simp)
    have n3 := n 3 (by simp)
    have n4 := n 4 (by simp)
    have n5 := n 5 (by simp)
    have n6 := n 6 (by simp)
    have n8 := n 8 (by simp)
    have n21 := n 21 (by simp)
    have n22 := n 22 (by simp)
    have n23 := n 23 (by simp)
    have n24 := n 24 (by simp)
    have n25 := n 25 (by simp)
    have n26 := n 26 (by simp)
    have n27 := n 27 (by simp)
    have n28 := n 28 (by simp)
    clear n h e1 e2
    go_enter Tryd.func36, Tryd.ntmps36
    go_wp2
    go_ret2
    exact ⟨rfl, rfl⟩
theorem stands37 (k : Int) (w : World) : Calls Tryd.prog 37 #[.int .i64 k] w fun e w' => e = .returned (.int .u8 (fb (decide (21 ≤ k)))) ∧ w' = w := by
  by_cases h : 21 ≤ k
  · rw [decide_eq_true h]
    go_enter Tryd.func37, Tryd.ntmps37
    go_wp2
    go_ret
    exact ⟨rfl, rfl⟩
  · rw [decide_eq_false h]
    have h' : k < 21 := by omega
    go_enter Tryd.func37, Tryd.ntmps37
    go_wp2
    go_ret
    exact ⟨rfl, rfl⟩
/-- Whether what a node says beside its parts can be written. -/
def riB (lone : Bool) (wh : Int) (x : Nd) : Bool :=
  if x.kind = 1 then litB x.lit else if x.kind = 26 then decide (0 ≤ x.op) || (lone && decide (wh = 5)) else true
/-- A checker in a block. -/
structure Ck (w0 : World) (B : Nat) (w : World) (p : Nat) (lone : Bool) (c : Int) : Prop where
  hB : w0.heap.size ≤ B
  hp : B ≤ p
  old : Below w0.heap.size w0 w
  blk : w.heap[p]? = some (.cells #[.bool lone, .int .i64 c] 54 (0, 0))
structure Kp (B p : Nat) (w w' : World) : Prop where
  bel : Below B w w'
  keep : ∀ k, k < w.heap.size → k ≠ p → w'.heap[k]? = w.heap[k]?
theorem Kp.trans {B p : Nat} {a b c : World} (h : Kp B p a b) (k : Kp B p b c) : Kp B p a c :=
  ⟨h.bel.trans k.bel, fun i hi hp => (k.keep i (Nat.lt_of_lt_of_le hi h.bel.size) hp).trans (h.keep i hi hp)⟩
theorem Ck.lt {w0 : World} {B : Nat} {w : World} {p : Nat} {lone : Bool} {c : Int} (h : Ck w0 B w p lone c) : p < w.heap.size := lt_heap h.blk
theorem Ck.next {w0 : World} {B : Nat} {w w' : World} {p : Nat} {lone : Bool} {c : Int} (h : Ck w0 B w p lone c) (hb : Below w.heap.size w w') : Ck w0 B w' p lone c :=
  ⟨h.hB, h.hp, h.old.trans (hb.mono h.old.size), (hb.block p h.lt).trans h.blk⟩
theorem Ck.kpn {w0 : World} {B : Nat} {w w' : World} {p : Nat} {lone : Bool} {c : Int} (h : Ck w0 B w p lone c) (hb : Below w.heap.size w w') : Kp B p w w' :=
  ⟨hb.mono (Nat.le_trans h.hp (Nat.le_of_lt h.lt)), fun k hk _ => hb.block k hk⟩
theorem Ck.set {w0 : World} {B : Nat} {w : World} {p : Nat} {lone : Bool} {c : Int} (h : Ck w0 B w p lone c) (z : Int) : Ck w0 B (w.setCell ⟨p, 1, none⟩ (.int .i64 z)) p lone z ∧ Kp B p w (w.setCell ⟨p, 1, none⟩ (.int .i64 z)) := by
  have hb : Below B w (w.setCell ⟨p, 1, none⟩ (.int .i64 z)) := (Below.refl B w).setCell (p := ⟨p, 1, none⟩) h.hp _
  exact ⟨⟨h.hB, h.hp, h.old.trans (hb.mono h.hB), by rw [heap_set h.blk]; rfl⟩, hb, fun k _ hk => heap_other _ hk⟩
theorem Kp.box {B p : Nat} {w w' : World} (h : Kp B p w w') {q : Nat} {o : Obj} (hq : w.heap[q]? = some o) (hp : q ≠ p) : w'.heap[q]? = some o := (h.keep q (lt_heap hq) hp).trans hq
theorem right38 {n lo : Nat} {w : World} {p : Nat} {lone : Bool} {x : Nd} {v1 v2 v3 : Value} {wh : Int} (hx : ArIn n lo w x.lit (.agg #[v1, v2])) (h1 : v1.cells.size = 1) (h2 : v2.cells.size = 1) (hc : w.cell? ⟨p, 0, none⟩ = some (.bool lone)) (hp : p < w.heap.size) :
    Calls Tryd.prog 38 #[.pointer (some ⟨p, 0, none⟩), .agg (sv x.kind x.op x.name v1 v2 v3 x.pos), .int .i64 wh] w fun e w' => e = .returned (.bool (riB lone wh x)) ∧ Below w.heap.size w w' := by
  have HR : Hid ((x.kind = 1 → riB lone wh x = litB x.lit) ∧ (x.kind = 26 → riB lone wh x = (decide (0 ≤ x.op) || (lone && decide (wh = 5)))) ∧ (x.kind ≠ 1 → x.kind ≠ 26 → riB lone wh x = true)) := hide (by
    unfold riB
    refine ⟨fun h => by rw [if_pos h], fun h => by rw [if_neg (by omega), if_pos h], fun h h' => by rw [if_neg h, if_neg h']⟩)
  have HL := hide (fun W (hW : Below w.heap.size w W) => lit17 x.lit _ W (hx.next hW))
  obtain ⟨RB, hRB⟩ : ∃ RB, riB lone wh x = RB := ⟨_, rfl⟩
  obtain ⟨LB, hLB⟩ : ∃ LB, litB x.lit = LB := ⟨_, rfl⟩
  rw [hRB] at HR ⊢
  rw [hLB] at HR HL
  generalize x.kind = k at *
  generalize x.op = o at *
  generalize x.name = nm at *
  generalize x.pos = ps at *
  obtain ⟨W1, hW1⟩ : ∃ W1, w.alloc (.cells (sv k o nm v1 v2 v3 ps) 34) = W1 := ⟨_, rfl⟩
  have hb1 : Below w.heap.size w W1 := by rw [← hW1]; exact alloc_one _ _
  have hbx : W1.heap[w.heap.size]? = some (.cells (sv k o nm v1 v2 v3 ps) 34 (0, 0)) := by rw [← hW1]; exact heap_alloc_new w _
  have c0 : W1.cell? ⟨p, 0, none⟩ = some (.bool lone) := (hb1.cell (p := ⟨p, 0, none⟩) hp).trans hc
  have HB1 := hide hb1
  have k0 : W1.cell? ⟨w.heap.size, 0, none⟩ = some (.int .i64 k) := (Lib.cell_of_heap hbx 0).trans rfl
  have k1 : W1.cell? ⟨w.heap.size, 1, none⟩ = some (.int .i64 o) := (Lib.cell_of_heap hbx 1).trans rfl
  have k2 : W1.cell? ⟨w.heap.size, 2, none⟩ = some (.string nm) := (Lib.cell_of_heap hbx 2).trans rfl
  have k3 : W1.cell? ⟨w.heap.size, 3, none⟩ = some (v1) := (Lib.cell_of_heap hbx 3).trans rfl
  have k4 : W1.cell? ⟨w.heap.size, 4, none⟩ = some (v2) := (Lib.cell_of_heap hbx 4).trans rfl
  have k5 : W1.cell? ⟨w.heap.size, 5, none⟩ = some (v3) := (Lib.cell_of_heap hbx 5).trans rfl
  have k6 : W1.cell? ⟨w.heap.size, 6, none⟩ = some (.int .i64 ps) := (Lib.cell_of_heap hbx 6).trans rfl
  clear hbx hx hc hb1 hRB hLB
  by_cases hk1 : k = 1
  · subst hk1
    obtain rfl := HR.out.1 rfl
    have HC := hide (HL.out W1 HB1.out)
    clear HL
    go_enter Tryd.func38, Tryd.ntmps38
    go_wp2_with fail
    refine HC.out.mono ?_
    rintro e w2 ⟨rfl, hb2⟩
    have HF := hide (HB1.out.trans (hb2.mono HB1.out.size))
    clear hb2 HC
    go_wp2
    go_ret
    exact ⟨rfl, HF.out⟩
  · have n1 : (k == 1) = false := beq_eq_false_iff_ne.2 hk1
    by_cases hk2 : k = 26
    · subst hk2
      have hr := HR.out.2.1 rfl
      clear HL HR
      by_cases ho : 0 ≤ o
      · rw [decide_eq_true ho, Bool.true_or] at hr
        subst hr
        go_enter Tryd.func38, Tryd.ntmps38
        go_wp2
        go_ret
        exact ⟨rfl, HB1.out⟩
      · rw [decide_eq_false ho, Bool.false_or] at hr
        have ho' : o < 0 := by omega
        cases lone with
        | false =>
          rw [Bool.false_and] at hr
          subst hr
          go_enter Tryd.func38, Tryd.ntmps38
          go_wp2
          go_ret
          exact ⟨rfl, HB1.out⟩
        | true =>
          rw [Bool.true_and] at hr
          by_cases hw : wh = 5
          · subst hw
            rw [decide_eq_true rfl] at hr
            subst hr
            go_enter Tryd.func38, Tryd.ntmps38
            go_wp2
            go_ret
            exact ⟨rfl, HB1.out⟩
          · rw [decide_eq_false hw] at hr
            have hw' : (wh == 5) = false := beq_eq_false_iff_ne.2 hw
            subst hr
            go_enter Tryd.func38, Tryd.ntmps38
            go_wp2
            go_ret
            exact ⟨rfl, HB1.out⟩
    · obtain rfl := HR.out.2.2 hk1 hk2
      have n2 : (k == 26) = false := beq_eq_false_iff_ne.2 hk2
      clear HL HR
      go_enter Tryd.func38, Tryd.ntmps38
      go_wp2
      go_ret
      exact ⟨rfl, HB1.out⟩
end Go.Proofs.YtneblkdkhlgmcaaDoor
namespace Go.Proofs.YtneblkdkhlgmcaaDoor
open Go.ChangeShapes Go.WideShapes Go.ChangeAt Go.RowKit
set_option maxRecDepth 100000
set_option linter.unusedVariables false
set_option linter.unusedSimpArgs false
/-- A text's byte. -/
def byt (s : ByteArray) (j : Nat) : Int := if h : j < s.size then ((s[j]'h).toNat : Int) else 0
theorem byt_run (s : ByteArray) (j : Nat) (h : j < s.size) (w : World) : (Instr.index 9 (.string s) (.int .i64 (j : Int))).run Tryd.prog w = .ok (.int .u8 (byt s j)) w := by
  rw [run_index_string w 9 s .i64 _ (by kernel_rfl), dif_pos ⟨by omega, by omega⟩]
  unfold byt
  rw [dif_pos h]
  rfl
end Go.Proofs.YtneblkdkhlgmcaaDoor
namespace Go.Proofs.YtneblkdkhlgmcaaDoor
open Go.ChangeShapes Go.WideShapes Go.ChangeAt Go.RowKit
set_option maxRecDepth 100000
set_option linter.unusedVariables false
set_option linter.unusedSimpArgs false
/-- The parts, one by one, until one does not fit. -/
def lpM (F : Int → Bool → Int → Nd → Bool × Int) (x : Nd) : Nat → Nat → Int → Bool × Int
  | 0, _, c => (true, c)
  | n + 1, j, c => if (F c (fnP x.kind j) x.kind (kp x j)).1 then lpM F x n (j + 1) (F c (fnP x.kind j) x.kind (kp x j)).2 else (false, (F c (fnP x.kind j) x.kind (kp x j)).2)
/-- Whether a program fits, and how many nodes were counted. -/
def fitM (lone : Bool) : Nat → Int → Bool → Int → Nd → Bool × Int
  | 0, c, _, _, _ => (false, c)
  | m + 1, c, f, wh, x =>
    if c + 1 > 2048 ∨ arK x.kind < 0 ∨ f ≠ decide (21 ≤ x.kind) ∨ (x.kids.length : Int) ≠ arK x.kind then (false, c + 1)
    else if riB lone wh x = false then (false, c + 1)
    else lpM (fitM lone m) x x.kids.length 0 (c + 1)
theorem lpM_le {F : Int → Bool → Int → Nd → Bool × Int} (hF : ∀ c f wh x, (F c f wh x).1 = true → c ≤ (F c f wh x).2 ∧ (F c f wh x).2 ≤ 2048) (x : Nd) (n j : Nat) (c : Int) (hc : c ≤ 2048) (h : (lpM F x n j c).1 = true) : c ≤ (lpM F x n j c).2 ∧ (lpM F x n j c).2 ≤ 2048 := by
  induction n generalizing j c with
  | zero => exact ⟨Int.le_refl _, hc⟩
  | succ n ih =>
    unfold lpM at h ⊢
    split at h
    · rename_i h1
      rw [if_pos h1]
      obtain ⟨h2, h3⟩ := hF _ _ _ _ h1
      obtain ⟨h4, h5⟩ := ih (j + 1) _ h3 h
      exact ⟨Int.le_trans h2 h4, h5⟩
    · cases h
theorem fitM_le (lone : Bool) (m : Nat) : ∀ c f wh x, (fitM lone m c f wh x).1 = true → c ≤ (fitM lone m c f wh x).2 ∧ (fitM lone m c f wh x).2 ≤ 2048 := by
  induction m with
  | zero => intro c f wh x h; cases h
  | succ m ih =>
    intro c f wh x h
    unfold fitM at h ⊢
    split at h
    · cases h
    · rename_i h1
      rw [if_neg h1]
      split at h
      · cases h
      · rename_i h2
        rw [if_neg h2]
        have := lpM_le ih x x.kids.length 0 (c + 1) (by omega) h
        exact ⟨by omega, this.2⟩
theorem ar_kinds {k : Int} (h : 0 ≤ arK k) : k = 1 ∨ k = 2 ∨ k = 3 ∨ k = 4 ∨ k = 21 ∨ k = 22 ∨ k = 23 ∨ k = 24 ∨ k = 25 ∨ k = 26 ∨ k = 5 ∨ k = 8 ∨ k = 28 ∨ k = 6 ∨ k = 27 := by
  unfold arK at h
  repeat' split at h
  all_goals omega
theorem pt_size {k : Int} (h : 0 ≤ arK k) : ((ptS k).size : Int) = arK k := by
  rcases ar_kinds h with rfl | rfl | rfl | rfl | rfl | rfl | rfl | rfl | rfl | rfl | rfl | rfl | rfl | rfl | rfl <;> rfl
theorem ar_le (k : Int) : arK k ≤ 3 := by
  unfold arK
  repeat' split
  all_goals omega
theorem pt_at {k : Int} {j : Nat} (h : (j : Int) < arK k) : byt (ptS k) j = fb (fnP k j) := by
  have h0 : 0 ≤ arK k := by omega
  have h3 := ar_le k
  rcases (show j = 0 ∨ j = 1 ∨ j = 2 by omega) with rfl | rfl | rfl
  all_goals (rcases ar_kinds h0 with rfl | rfl | rfl | rfl | rfl | rfl | rfl | rfl | rfl | rfl | rfl | rfl | rfl | rfl | rfl)
  all_goals (first | rfl | exact absurd h (by decide))
/-- What the look at a part promises. -/
def CFit (n m : Nat) (w0 : World) (B p : Nat) (lone : Bool) : Prop := ∀ (c : Int) (f : Bool) (wh : Int) (w : World) (x : Nd) (v : Value), NdIn m n 0 w0 x v → 0 ≤ c → c ≤ 2048 → Ck w0 B w p lone c →
  Calls Tryd.prog 24 #[.pointer (some ⟨p, 0, none⟩), v, .int .u8 (fb f), .int .i64 wh] w fun e w' => e = .returned (.bool (fitM lone m c f wh x).1) ∧ Ck w0 B w' p lone (fitM lone m c f wh x).2 ∧ Kp B p w w'
set_option maxHeartbeats 8000000 in
theorem fit_step {n m : Nat} {w0 : World} {B p : Nat} {lone : Bool} (IH : CFit n m w0 B p lone) : CFit n (m + 1) w0 B p lone := by
  intro c f wh w x v hx hc0 hc1 h
  obtain ⟨v1, v2, ak, ck, rfl, hv1, hlit, hkid⟩ := nd_kids hx
  obtain ⟨⟨la1, ll1, lc1, rfl⟩, ⟨la2, ll2, lc2, rfl⟩, -⟩ := nd_slices hx
  have HIH := hide (fun c j (hj : j < x.kids.length) u1 u2 u3 (hn : NdIn m n 0 w0 (kp x j) (.agg (sv (kp x j).kind (kp x j).op (kp x j).name u1 u2 u3 (kp x j).pos))) W h0 h1 (hck : Ck w0 B W p lone c) => IH c (fnP x.kind j) x.kind W (kp x j) _ hn h0 h1 hck)
  have HKID := hide hkid
  have HRI := hide (fun W (hW : Below w0.heap.size w0 W) (hc : W.cell? ⟨p, 0, none⟩ = some (.bool lone)) hp => right38 (v3 := .slice ak x.kids.length ck) (wh := wh) (hlit.next hW) rfl rfl hc hp)
  have HM1 : Hid (c + 1 > 2048 ∨ arK x.kind < 0 ∨ f ≠ decide (21 ≤ x.kind) ∨ (x.kids.length : Int) ≠ arK x.kind → fitM lone (m + 1) c f wh x = (false, c + 1)) := hide (fun h => if_pos h)
  have HM2 : Hid (¬ (c + 1 > 2048 ∨ arK x.kind < 0 ∨ f ≠ decide (21 ≤ x.kind) ∨ (x.kids.length : Int) ≠ arK x.kind) → riB lone wh x = false → fitM lone (m + 1) c f wh x = (false, c + 1)) := hide (fun h h' => by unfold fitM; rw [if_neg h, if_pos h'])
  have HM3 : Hid (¬ (c + 1 > 2048 ∨ arK x.kind < 0 ∨ f ≠ decide (21 ≤ x.kind) ∨ (x.kids.length : Int) ≠ arK x.kind) → riB lone wh x = true → fitM lone (m + 1) c f wh x = lpM (fitM lone m) x x.kids.length 0 (c + 1)) := hide (fun h h' => by
    unfold fitM
    rw [if_neg h, if_neg (by rw [h']; simp)])
  have HLP : Hid (∀ n j c, lpM (fitM lone m) x (n + 1) j c = if (fitM lone m c (fnP x.kind j) x.kind (kp x j)).1 then lpM (fitM lone m) x n (j + 1) (fitM lone m c (fnP x.kind j) x.kind (kp x j)).2 else (false, (fitM lone m c (fnP x.kind j) x.kind (kp x j)).2)) := hide (fun n j c => rfl)
  have HLP0 : Hid (∀ j c, lpM (fitM lone m) x 0 j c = (true, c)) := hide (fun j c => rfl)
  have HFL := hide (fun j c => fitM_le lone m c (fnP x.kind j) x.kind (kp x j))
  have HPS := hide (fun (h : 0 ≤ arK x.kind) => pt_size h)
  have HPA := hide (fun (j : Nat) (hj : (j : Int) < arK x.kind) (hs : j < (ptS x.kind).size) (w : World) => (byt_run (ptS x.kind) j hs w).trans (by rw [pt_at hj]))
  obtain ⟨RB, hRB⟩ : ∃ RB, riB lone wh x = RB := ⟨_, rfl⟩
  rw [hRB] at HRI HM2 HM3
  obtain ⟨R, hR⟩ : ∃ R, fitM lone (m + 1) c f wh x = R := ⟨_, rfl⟩
  rw [hR] at HM1 HM2 HM3 ⊢
  obtain ⟨LP, hLP⟩ : ∃ LP, lpM (fitM lone m) x = LP := ⟨_, rfl⟩
  rw [hLP] at HM3 HLP HLP0
  obtain ⟨PS, hPS⟩ : ∃ PS, ptS x.kind = PS := ⟨_, rfl⟩
  have HP36 := hide (fun W => parts36 x.kind W)
  rw [hPS] at HPS HPA HP36
  obtain ⟨AR, hAR⟩ : ∃ AR, arK x.kind = AR := ⟨_, rfl⟩
  rw [hAR] at HM1 HM2 HM3 HPS HPA HP36
  obtain ⟨KL, hKL⟩ : ∃ KL, x.kids.length = KL := ⟨_, rfl⟩
  have hklb : KL ≤ 1256584717421 := by
    rw [← hKL]
    obtain ⟨_, _, _, _, _, _, _, _, h9, _⟩ := hx
    exact h9
  rw [hKL] at HIH HKID HRI HM1 HM2 HM3 ⊢
  obtain ⟨k, hk⟩ : ∃ k, x.kind = k := ⟨_, rfl⟩
  rw [hk] at HIH HRI HM1 HM2 HM3 HLP HFL HPA HP36 ⊢
  generalize x.op = o at *
  generalize x.name = nm at *
  generalize x.pos = ps at *
  clear hx IH hlit hkid hRB hR hLP hPS hAR hKL hk hv1
  obtain ⟨W1, hW1⟩ : ∃ W1, w.alloc (.cells (sv (k) (o) nm (.slice la1 ll1 lc1) (.slice la2 ll2 lc2) (.slice ak KL ck) (ps)) 34) = W1 := ⟨_, rfl⟩
  have hb1 : Below w.heap.size w W1 := by rw [← hW1]; exact alloc_one _ _
  have s1 : W1.heap.size = w.heap.size + 1 := by rw [← hW1]; simp
  have hbx : W1.heap[w.heap.size]? = some (.cells (sv (k) (o) nm (.slice la1 ll1 lc1) (.slice la2 ll2 lc2) (.slice ak KL ck) (ps)) 34 (0, 0)) := by rw [← hW1]; exact heap_alloc_new w _
  have hql : w.heap.size ≠ p := Nat.ne_of_gt h.lt
  have H1 := hide (h.next hb1)
  have HK1 := hide (h.kpn hb1)
  have HB1 := hide hbx
  have k0 : W1.cell? ⟨w.heap.size, 0, none⟩ = some (.int .i64 k) := (Lib.cell_of_heap hbx 0).trans rfl
  have k1 : W1.cell? ⟨w.heap.size, 1, none⟩ = some (.int .i64 o) := (Lib.cell_of_heap hbx 1).trans rfl
  have k2 : W1.cell? ⟨w.heap.size, 2, none⟩ = some (.string nm) := (Lib.cell_of_heap hbx 2).trans rfl
  have k3 : W1.cell? ⟨w.heap.size, 3, none⟩ = some (.slice la1 ll1 lc1) := (Lib.cell_of_heap hbx 3).trans rfl
  have k4 : W1.cell? ⟨w.heap.size, 4, none⟩ = some (.slice la2 ll2 lc2) := (Lib.cell_of_heap hbx 4).trans rfl
  have k5 : W1.cell? ⟨w.heap.size, 5, none⟩ = some (.slice ak KL ck) := (Lib.cell_of_heap hbx 5).trans rfl
  have k6 : W1.cell? ⟨w.heap.size, 6, none⟩ = some (.int .i64 ps) := (Lib.cell_of_heap hbx 6).trans rfl
  clear hb1 hbx
  have hwc : IntKind.i64.wrap (c + 1) = c + 1 := IntWalk.i64_in _ ⟨by omega, by omega⟩
  have p1 : W1.cell? ⟨p, 1, none⟩ = some (.int .i64 c) := (Lib.cell_of_heap H1.out.blk 1).trans rfl
  have pf : W1.frozen? ⟨p, 1, none⟩ = false := Lib.frozen_of_heap H1.out.blk 1
  have hp1 := H1.out.lt
  have H2 := hide (H1.out.set (c + 1))
  go_enter Tryd.func24, Tryd.ntmps24
  go_upto_region 2 with fail
  obtain ⟨W2, hW2⟩ : ∃ W2, W1.setCell ⟨p, 1, none⟩ (.int .i64 (c + 1)) = W2 := ⟨_, rfl⟩
  rw [hW2] at H2
  try rw [hW2]
  have HK2 := hide (HK1.out.trans H2.out.2)
  have hb2 := H2.out.2.box HB1.out hql
  have HB2 := hide hb2
  have H2 := hide H2.out.1
  have d0 : W2.cell? ⟨p, 0, none⟩ = some (.bool lone) := (Lib.cell_of_heap H2.out.blk 0).trans rfl
  have d1 : W2.cell? ⟨p, 1, none⟩ = some (.int .i64 (c + 1)) := (Lib.cell_of_heap H2.out.blk 1).trans rfl
  clear hW2 p1 pf hp1 k0 k1 k2 k3 k4 k5 k6
  have k0 : W2.cell? ⟨w.heap.size, 0, none⟩ = some (.int .i64 k) := (Lib.cell_of_heap hb2 0).trans rfl
  have k1 : W2.cell? ⟨w.heap.size, 1, none⟩ = some (.int .i64 o) := (Lib.cell_of_heap hb2 1).trans rfl
  have k2 : W2.cell? ⟨w.heap.size, 2, none⟩ = some (.string nm) := (Lib.cell_of_heap hb2 2).trans rfl
  have k3 : W2.cell? ⟨w.heap.size, 3, none⟩ = some (.slice la1 ll1 lc1) := (Lib.cell_of_heap hb2 3).trans rfl
  have k4 : W2.cell? ⟨w.heap.size, 4, none⟩ = some (.slice la2 ll2 lc2) := (Lib.cell_of_heap hb2 4).trans rfl
  have k5 : W2.cell? ⟨w.heap.size, 5, none⟩ = some (.slice ak KL ck) := (Lib.cell_of_heap hb2 5).trans rfl
  have k6 : W2.cell? ⟨w.heap.size, 6, none⟩ = some (.int .i64 ps) := (Lib.cell_of_heap hb2 6).trans rfl
  clear hb2
  by_cases ha : c + 1 > 2048
  · obtain rfl := HM1.out (Or.inl ha)
    go_wp2_with (first | (go_at_call 36; refine (HP36.out _).mono ?_; rintro e w3 ⟨rfl, rfl⟩))
    go_ret
    exact ⟨rfl, H2.out, HK2.out⟩
  · have ha' : c + 1 ≤ 2048 := by omega
    by_cases hb : AR < 0
    · obtain rfl := HM1.out (Or.inr (Or.inl hb))
      have hb' : decide (0 ≤ AR) = false := decide_eq_false (by omega)
      rw [hb'] at HP36
      go_wp2_with (first | (go_at_call 36; refine (HP36.out _).mono ?_; rintro e w3 ⟨rfl, rfl⟩))
      go_ret
      exact ⟨rfl, H2.out, HK2.out⟩
    · have hb' : decide (0 ≤ AR) = true := decide_eq_true (by omega)
      rw [hb'] at HP36
      have hps := HPS.out (by omega)
      by_cases hf : f ≠ decide (21 ≤ k)
      · obtain rfl := HM1.out (Or.inr (Or.inr (Or.inl hf)))
        have hne : (fb f != fb (decide (21 ≤ k))) = true := bne_iff_ne.2 (by
          intro e
          apply hf
          cases f <;> cases hd : decide (21 ≤ k) <;> first | rfl | (rw [hd] at e; cases e))
        generalize fb f = FB at *
        have HS37 := hide (fun W => stands37 k W)
        generalize fb (decide (21 ≤ k)) = SB at *
        go_wp2_with (first | (go_at_call 36; refine (HP36.out _).mono ?_; rintro e w3 ⟨rfl, rfl⟩) | (go_at_call 37; refine (HS37.out _).mono ?_; rintro e w3 ⟨rfl, rfl⟩))
        go_ret
        exact ⟨rfl, H2.out, HK2.out⟩
      · have hf' : f = decide (21 ≤ k) := Decidable.not_not.1 hf
        have HS37 := hide (fun W => stands37 k W)
        rw [← hf'] at HS37
        obtain ⟨FB, hFB⟩ : ∃ FB, fb f = FB := ⟨_, rfl⟩
        rw [hFB] at HS37 ⊢
        by_cases hd : (KL : Int) ≠ AR
        · obtain rfl := HM1.out (Or.inr (Or.inr (Or.inr hd)))
          have hdd : ((KL : Int) != (PS.size : Int)) = true := bne_iff_ne.2 (by omega)
          have hdn : ¬ KL = PS.size := by omega
          have hde : ((KL : Int) != AR) = true := bne_iff_ne.2 hd
          have hdb : (KL == PS.size) = false := beq_eq_false_iff_ne.2 hdn
          have hdc : ((KL : Int) == (PS.size : Int)) = false := beq_eq_false_iff_ne.2 (by omega)
          go_wp2_with (first | (go_at_call 36; refine (HP36.out _).mono ?_; rintro e w3 ⟨rfl, rfl⟩) | (go_at_call 37; refine (HS37.out _).mono ?_; rintro e w3 ⟨rfl, rfl⟩))
          go_ret
          exact ⟨rfl, H2.out, HK2.out⟩
        · have hnot : ¬ (c + 1 > 2048 ∨ AR < 0 ∨ f ≠ decide (21 ≤ k) ∨ (KL : Int) ≠ AR) := by
            rintro (h1 | h1 | h1 | h1)
            · exact ha h1
            · exact hb h1
            · exact hf h1
            · exact hd h1
          have hke : (KL : Int) = AR := Decidable.not_not.1 hd
          have hsz : PS.size = KL := by omega
          have HRC := hide (HRI.out W2 H2.out.old d0 H2.out.lt)
          have HN2 := hide (fun h => HM2.out hnot h)
          have HN3 := hide (fun h => HM3.out hnot h)
          have HPA2 : Hid (∀ j, j < KL → ∀ w, (Instr.index 9 (.string PS) (.int .i64 (j : Int))).run Tryd.prog w = .ok (.int .u8 (fb (fnP k j))) w) := hide (fun j hj w => HPA.out j (by omega) (by omega) w)
          clear hnot HM1 HM2 HM3 HPA HPS hps hf hf' hd hFB hke
          go_wp2_with (first | (go_at_call 36; refine (HP36.out _).mono ?_; rintro e w3 ⟨rfl, rfl⟩) | (go_at_call 37; refine (HS37.out _).mono ?_; rintro e w3 ⟨rfl, rfl⟩))
          refine HRC.out.mono ?_
          rintro e w3 ⟨rfl, hb3⟩
          have H3 := hide (H2.out.next hb3)
          have HK3 := hide (HK2.out.trans (H2.out.kpn hb3))
          have hb4 := (H2.out.kpn hb3).box HB2.out hql
          have HB3 := hide hb4
          clear hb3 HRC H2 HK2 HB2 d0 d1 k0 k1 k2 k3 k4 k5 k6
          have k0 : w3.cell? ⟨w.heap.size, 0, none⟩ = some (.int .i64 k) := (Lib.cell_of_heap hb4 0).trans rfl
          have k1 : w3.cell? ⟨w.heap.size, 1, none⟩ = some (.int .i64 o) := (Lib.cell_of_heap hb4 1).trans rfl
          have k2 : w3.cell? ⟨w.heap.size, 2, none⟩ = some (.string nm) := (Lib.cell_of_heap hb4 2).trans rfl
          have k3 : w3.cell? ⟨w.heap.size, 3, none⟩ = some (.slice la1 ll1 lc1) := (Lib.cell_of_heap hb4 3).trans rfl
          have k4 : w3.cell? ⟨w.heap.size, 4, none⟩ = some (.slice la2 ll2 lc2) := (Lib.cell_of_heap hb4 4).trans rfl
          have k5 : w3.cell? ⟨w.heap.size, 5, none⟩ = some (.slice ak KL ck) := (Lib.cell_of_heap hb4 5).trans rfl
          have k6 : w3.cell? ⟨w.heap.size, 6, none⟩ = some (.int .i64 ps) := (Lib.cell_of_heap hb4 6).trans rfl
          clear hb4
          cases RB with
          | false =>
            obtain rfl := HN2.out rfl
            go_wp2
            go_ret
            exact ⟨rfl, H3.out, HK3.out⟩
          | true =>
            obtain rfl := HN3.out rfl
            go_wp2
            go_loopw [58] (fun i wr => ∃ (j : Nat) (cj : Int), j ≤ KL ∧ i = .int .i64 j ∧ (0 ≤ cj ∧ cj ≤ 2048) ∧ LP KL 0 (c + 1) = LP (KL - j) j cj ∧ Ck w0 B wr p lone cj ∧ Kp B p w wr ∧ Kp B p w3 wr) (fun i _ => KL - (match i with | .int _ z => z.toNat | _ => 0))
            case atStart => exact ⟨0, c + 1, Nat.zero_le _, rfl, ⟨by omega, ha'⟩, rfl, H3.out, HK3.out, ⟨Below.refl _ _, fun _ _ _ => rfl⟩⟩
            case round =>
              obtain ⟨j, cj, hj, rfl, hcj, hlp, hck, hkp, hkp3⟩ := hrel
              have HCK := hide hck
              have HKP := hide hkp
              have HKP3 := hide hkp3
              have HLQ := hide hlp
              have hbw := hkp3.box HB3.out hql
              have HBW := hide hbw
              have r0 : wr.cell? ⟨w.heap.size, 0, none⟩ = some (.int .i64 k) := (Lib.cell_of_heap hbw 0).trans rfl
              clear hck hkp hkp3 hlp hbw k0 k1 k2 k3 k4 k5 k6
              by_cases hlt : j < KL
              · obtain ⟨b, off, u1, u2, u3, rfl, hn, h7⟩ := HKID.out j hlt
                obtain ⟨⟨d1, l1, e1, rfl⟩, ⟨d2, l2, e2, rfl⟩, ⟨d3, l3, e3, rfl⟩⟩ := nd_slices hn
                obtain ⟨y0, y1, y2, y3, y4, y5, y6⟩ := h7 wr HCK.out.old
                have HCL := hide (fun W (hw : Ck w0 B W p lone cj) => HIH.out cj j hlt _ _ _ hn W hcj.1 hcj.2 hw)
                have hlp1 := HLP.out (KL - (j + 1)) j cj
                rw [show KL - (j + 1) + 1 = KL - j by omega] at hlp1
                have HL1 := hide (HLQ.out.trans hlp1)
                have HFF := hide (HFL.out j cj)
                have hix := HPA2.out j hlt
                obtain ⟨FR, hFR⟩ : ∃ FR, fitM lone m cj (fnP k j) k (kp x j) = FR := ⟨_, rfl⟩
                rw [hFR] at HCL HL1 HFF
                obtain ⟨fbj, hfbj⟩ : ∃ z, fb (fnP k j) = z := ⟨_, rfl⟩
                rw [hfbj] at hix HCL
                generalize (kp x j).kind = k' at *
                generalize (kp x j).op = o' at *
                generalize (kp x j).name = nm' at *
                generalize (kp x j).pos = ps' at *
                clear hn h7 hlp1 hFR hfbj HLP HFL HLQ HPA2 HKID HIH
                obtain ⟨W5, hW5⟩ : ∃ W5, wr.alloc (.cells (sv k' o' nm' (.slice d1 l1 e1) (.slice d2 l2 e2) (.slice d3 l3 e3) ps') 34) = W5 := ⟨_, rfl⟩
                have hb5 : Below wr.heap.size wr W5 := by rw [← hW5]; exact alloc_one _ _
                have s5 : W5.heap.size = wr.heap.size + 1 := by rw [← hW5]; simp
                have hbx5 : W5.heap[wr.heap.size]? = some (.cells (sv k' o' nm' (.slice d1 l1 e1) (.slice d2 l2 e2) (.slice d3 l3 e3) ps') 34 (0, 0)) := by rw [← hW5]; exact heap_alloc_new wr _
                have H5 := hide (HCK.out.next hb5)
                have HK5 := hide (HKP.out.trans (HCK.out.kpn hb5))
                have HK53 := hide (HKP3.out.trans (HCK.out.kpn hb5))
                have hbo5 : W5.heap[w.heap.size]? = _ := (hb5.block w.heap.size (lt_heap HBW.out)).trans HBW.out
                have hqr : wr.heap.size ≠ p := Nat.ne_of_gt HCK.out.lt
                have hlt5 := lt_heap hbx5
                have hlto5 := lt_heap hbo5
                have KS : Hid (∀ W, Below W5.heap.size W5 W → (W.cell? ⟨wr.heap.size, 0, none⟩ = some ((.int .i64 k')) ∧ W.cell? ⟨wr.heap.size, 1, none⟩ = some ((.int .i64 o')) ∧ W.cell? ⟨wr.heap.size, 2, none⟩ = some ((.string nm')) ∧ W.cell? ⟨wr.heap.size, 3, none⟩ = some ((.slice d1 l1 e1)) ∧ W.cell? ⟨wr.heap.size, 4, none⟩ = some ((.slice d2 l2 e2)) ∧ W.cell? ⟨wr.heap.size, 5, none⟩ = some ((.slice d3 l3 e3)) ∧ W.cell? ⟨wr.heap.size, 6, none⟩ = some ((.int .i64 ps'))) ∧ W.cell? ⟨w.heap.size, 0, none⟩ = some (.int .i64 k)) := hide fun W hW => by
                  have q1 := (hW.block wr.heap.size hlt5).trans hbx5
                  have q2 := (hW.block w.heap.size hlto5).trans hbo5
                  exact ⟨⟨(Lib.cell_of_heap q1 0).trans rfl, (Lib.cell_of_heap q1 1).trans rfl, (Lib.cell_of_heap q1 2).trans rfl, (Lib.cell_of_heap q1 3).trans rfl, (Lib.cell_of_heap q1 4).trans rfl, (Lib.cell_of_heap q1 5).trans rfl, (Lib.cell_of_heap q1 6).trans rfl⟩, (Lib.cell_of_heap q2 0).trans rfl⟩
                have KT : Hid (∀ W' W, Below W5.heap.size W5 W' → Kp B p W' W → (W.cell? ⟨wr.heap.size, 0, none⟩ = some ((.int .i64 k')) ∧ W.cell? ⟨wr.heap.size, 1, none⟩ = some ((.int .i64 o')) ∧ W.cell? ⟨wr.heap.size, 2, none⟩ = some ((.string nm')) ∧ W.cell? ⟨wr.heap.size, 3, none⟩ = some ((.slice d1 l1 e1)) ∧ W.cell? ⟨wr.heap.size, 4, none⟩ = some ((.slice d2 l2 e2)) ∧ W.cell? ⟨wr.heap.size, 5, none⟩ = some ((.slice d3 l3 e3)) ∧ W.cell? ⟨wr.heap.size, 6, none⟩ = some ((.int .i64 ps'))) ∧ W.cell? ⟨w.heap.size, 0, none⟩ = some (.int .i64 k)) := hide fun W' W hW hk => by
                  have q1 := hk.box ((hW.block wr.heap.size hlt5).trans hbx5) hqr
                  have q2 := hk.box ((hW.block w.heap.size hlto5).trans hbo5) hql
                  exact ⟨⟨(Lib.cell_of_heap q1 0).trans rfl, (Lib.cell_of_heap q1 1).trans rfl, (Lib.cell_of_heap q1 2).trans rfl, (Lib.cell_of_heap q1 3).trans rfl, (Lib.cell_of_heap q1 4).trans rfl, (Lib.cell_of_heap q1 5).trans rfl, (Lib.cell_of_heap q1 6).trans rfl⟩, (Lib.cell_of_heap q2 0).trans rfl⟩
                clear hbx5 hbo5 hb5 HCK HKP HKP3 HBW
                go_upto_region 10 with fail
                try rw [hW5]
                have HD5 : Hid (Below W5.heap.size W5 W5.drew) := hide ((Below.refl W5.heap.size W5).drew)
                clear hW5 y0 y1 y2 y3 y4 y5 y6 r0
                go_region_held3 (fun W => (W.cell? ⟨wr.heap.size, 0, none⟩ = some ((.int .i64 k')) ∧ W.cell? ⟨wr.heap.size, 1, none⟩ = some ((.int .i64 o')) ∧ W.cell? ⟨wr.heap.size, 2, none⟩ = some ((.string nm')) ∧ W.cell? ⟨wr.heap.size, 3, none⟩ = some ((.slice d1 l1 e1)) ∧ W.cell? ⟨wr.heap.size, 4, none⟩ = some ((.slice d2 l2 e2)) ∧ W.cell? ⟨wr.heap.size, 5, none⟩ = some ((.slice d3 l3 e3)) ∧ W.cell? ⟨wr.heap.size, 6, none⟩ = some ((.int .i64 ps'))) ∧ W.cell? ⟨w.heap.size, 0, none⟩ = some (.int .i64 k)) (first | with_reducible exact KS.out _ HD5.out | with_reducible exact KS.out _ (by with_reducible assumption) | with_reducible assumption) (first | (go_at_call 24; refine (HCL.out _ (H5.out.next HD5.out)).mono ?_; rintro e w6 ⟨rfl, hc6, hk6⟩; have hs6 := KT.out _ _ HD5.out hk6))
                have H6 := hide hc6
                have HK6 := hide (HK5.out.trans ((H5.out.kpn HD5.out).trans hk6))
                have HK63 := hide (HK53.out.trans ((H5.out.kpn HD5.out).trans hk6))
                obtain ⟨fb1, fc⟩ := FR
                clear hc6 hk6 hs6 HCL hix
                cases fb1 with
                | false =>
                  have hres : LP KL 0 (c + 1) = (false, fc) := HL1.out.trans rfl
                  have HRES := hide hres
                  clear hres
                  go_wp2
                  go_ret
                  rw [HRES.out]
                  exact ⟨rfl, H6.out, HK6.out⟩
                | true =>
                  have hff := HFF.out rfl
                  have hres : LP KL 0 (c + 1) = LP (KL - (j + 1)) (j + 1) fc := HL1.out.trans rfl
                  have HRES := hide hres
                  clear hres
                  go_wp2
                  refine ⟨⟨j + 1, fc, by omega, by go_num, ⟨Int.le_trans hcj.1 hff.1, hff.2⟩, HRES.out, H6.out, HK6.out, HK63.out⟩, ?_⟩
                  show KL - _ < KL - _
                  simp
                  omega
              · have hje : j = KL := by omega
                subst hje
                have hres : LP j 0 (c + 1) = (true, cj) := by
                  rw [HLQ.out, Nat.sub_self]
                  exact HLP0.out _ _
                have HRES := hide hres
                clear hres
                go_wp2
                go_ret
                rw [HRES.out]
                exact ⟨rfl, HCK.out, HKP.out⟩
theorem fits {w0 : World} {B p : Nat} {lone : Bool} (n m : Nat) : CFit n m w0 B p lone := by
  induction m with
  | zero => exact fun _ _ _ _ _ _ hx => hx.elim
  | succ m ih => exact fit_step ih
end Go.Proofs.YtneblkdkhlgmcaaDoor
namespace Go.Proofs.YtneblkdkhlgmcaaDoor
open Go.ChangeShapes Go.WideShapes Go.ChangeAt Go.RowKit
set_option maxRecDepth 100000
set_option linter.unusedVariables false
set_option linter.unusedSimpArgs false
/-- A part's cells and its value, in letters. -/
theorem kid_cells {m n lo : Nat} {w : World} {ks : List Nd} {ak : Option Addr} (h : KidsIn m n lo w ks ak) {j : Nat} (hj : j < ks.length) :
    ∃ b off K O S A1 L1 C1 A2 L2 C2 AK LK CK P, ak = some ⟨b, off, none⟩ ∧ b < w.heap.size ∧ ∀ wr, Below w.heap.size w wr → (wr.cell? ⟨b, off + j * 7, none⟩ = some (.int .i64 K) ∧ wr.cell? ⟨b, off + j * 7 + 1, none⟩ = some (.int .i64 O) ∧ wr.cell? ⟨b, off + j * 7 + 2, none⟩ = some (.string S) ∧ wr.cell? ⟨b, off + j * 7 + 3, none⟩ = some (.slice A1 L1 C1) ∧ wr.cell? ⟨b, off + j * 7 + 4, none⟩ = some (.slice A2 L2 C2) ∧ wr.cell? ⟨b, off + j * 7 + 5, none⟩ = some (.slice AK LK CK) ∧ wr.cell? ⟨b, off + j * 7 + 6, none⟩ = some (.int .i64 P)) ∧
      NdIn m n lo wr (nAt ks j) (.agg #[.int .i64 K, .int .i64 O, .string S, .slice A1 L1 C1, .slice A2 L2 C2, .slice AK LK CK, .int .i64 P]) := by
  obtain ⟨b, off, d1, e1, d2, e2, dk, ek, ha, hlo, hb, hw⟩ := kid_at h hj
  exact ⟨b, off, _, _, _, d1, _, e1, d2, _, e2, dk, _, ek, _, ha, hb, hw⟩
/-- A node's value, in letters. -/
theorem NdIn.letters {m n lo : Nat} {w : World} {x : Nd} {v : Value} (h : NdIn m n lo w x v) :
    ∃ m', m = m' + 1 ∧ ∃ a1 c1 a2 c2 ak ck, v = .agg #[.int .i64 x.kind, .int .i64 x.op, .string x.name, .slice a1 x.lit.shape.length c1, .slice a2 x.lit.cells.length c2, .slice ak x.kids.length ck, .int .i64 x.pos] ∧ ArIn n lo w x.lit (.agg #[.slice a1 x.lit.shape.length c1, .slice a2 x.lit.cells.length c2]) ∧ x.kids.length ≤ 1256584717421 ∧ x.name.size ≤ 140737488355328 ∧ KidsIn m' n lo w x.kids ak := h.form
/-- What the count of nodes promises. -/
def SizeC (k m : Nat) : Prop := ∀ n x lo va w, NdIn m n lo w x va → sizeN m x ≤ 4000 → Calls Tryd.prog k #[va] w fun e w' => e = .returned (.int .i64 (sizeN m x : Nat)) ∧ Below w.heap.size w w'
theorem kid_size {k m n lo : Nat} {w : World} {x : Nd} {ak : Option Addr} (IH : SizeC k m) (hsz : sizeN (m + 1) x ≤ 4000) (h : KidsIn m n lo w x.kids ak) (j : Nat) (hj : j < x.kids.length) :
    ∃ b off K O S A1 L1 C1 A2 L2 C2 AK LK CK P, ak = some ⟨b, off, none⟩ ∧ ∀ wr, Below w.heap.size w wr → (wr.cell? ⟨b, off + j * 7, none⟩ = some (.int .i64 K) ∧ wr.cell? ⟨b, off + j * 7 + 1, none⟩ = some (.int .i64 O) ∧ wr.cell? ⟨b, off + j * 7 + 2, none⟩ = some (.string S) ∧ wr.cell? ⟨b, off + j * 7 + 3, none⟩ = some (.slice A1 L1 C1) ∧ wr.cell? ⟨b, off + j * 7 + 4, none⟩ = some (.slice A2 L2 C2) ∧ wr.cell? ⟨b, off + j * 7 + 5, none⟩ = some (.slice AK LK CK) ∧ wr.cell? ⟨b, off + j * 7 + 6, none⟩ = some (.int .i64 P)) ∧
      Calls Tryd.prog k #[.agg #[.int .i64 K, .int .i64 O, .string S, .slice A1 L1 C1, .slice A2 L2 C2, .slice AK LK CK, .int .i64 P]] wr fun e w' => e = .returned (.int .i64 (sizeN m (nAt x.kids j) : Nat)) ∧ Below wr.heap.size wr w' := by
  obtain ⟨b, off, K, O, S, A1, L1, C1, A2, L2, C2, AK, LK, CK, P, ha, hb, hw⟩ := kid_cells h hj
  refine ⟨b, off, K, O, S, A1, L1, C1, A2, L2, C2, AK, LK, CK, P, ha, fun wr hwr => ⟨(hw wr hwr).1, IH n _ lo _ wr (hw wr hwr).2 ?_⟩⟩
  have := size_kid (m := m) hj
  omega

set_option maxHeartbeats 2000000 in
theorem size13 (m : Nat) : SizeC 27 m := by
  induction m with
  | zero => intro n x lo va w hx; exact hx.elim
  | succ m IH =>
  intro n x lo va w hx hsz
  obtain ⟨m', hm', a1, c1, a2, c2, ak, ck, rfl, hA, hl, hs, hK⟩ := hx.letters
  obtain rfl : m = m' := by omega
  have HKS := hide (kid_size IH hsz hK)
  have hsum := hsz
  simp only [sizeN] at hsum ⊢
  generalize hF : (fun i => sizeN m (nAt x.kids i)) = F at hsum ⊢
  have HF : Hid (∀ j, sizeN m (nAt x.kids j) = F j) := fun j => by rw [← hF]
  clear hF IH hK hA hm' hs hsz
  have HU : Hid (∀ j, j < x.kids.length → sumUp F (j + 1) = sumUp F j + F j ∧ sumUp F j + F j ≤ sumUp F x.kids.length) := fun j hj => ⟨rfl, sumUp_one hj⟩
  generalize x.kids.length = L at *
  generalize x.kind = K0 at *
  generalize x.op = O0 at *
  generalize x.name = S0 at *
  generalize x.pos = P0 at *
  generalize x.lit.shape.length = L10 at *
  generalize x.lit.cells.length = L20 at *
  have hb0 := one_alloc w (.cells #[.int .i64 K0, .int .i64 O0, .string S0, .slice a1 L10 c1, .slice a2 L20 c2, .slice ak L ck, .int .i64 P0] 34)
  have q5 := cell_new0 w #[.int .i64 K0, .int .i64 O0, .string S0, .slice a1 L10 c1, .slice a2 L20 c2, .slice ak L ck, .int .i64 P0] 34 5 _ rfl
  have HQ := hide (And.intro hb0 (And.intro q5 (show w.heap.size < (w.alloc (.cells #[.int .i64 K0, .int .i64 O0, .string S0, .slice a1 L10 c1, .slice a2 L20 c2, .slice ak L ck, .int .i64 P0] 34)).heap.size by simp)))
  clear hb0 q5
  go_enter Tryd.func27, Tryd.ntmps27
  go_wp2
  go_loopg [3, 4] L (fun g nv i wr => ∃ (j : Nat), g + j = L ∧ i = .int .i64 (j : Int) ∧ nv = .int .i64 ((1 + sumUp F j : Nat) : Int) ∧ Below w.heap.size w wr ∧ wr.cell? ⟨w.heap.size, 5, none⟩ = some (.slice ak L ck) ∧ w.heap.size < wr.heap.size)
  case atStart => exact ⟨0, rfl, rfl, rfl, HQ.out.1, HQ.out.2.1, HQ.out.2.2⟩
  case round =>
    clear HQ
    obtain ⟨j, hj, rfl, rfl, hnx, hcl, hsz⟩ := hrel
    have HSZ := hide hsz
    clear hsz
    by_cases hlt : j < L
    · obtain ⟨hu1, hu2⟩ := HU.out j hlt
      have HU1 := hide hu1
      obtain ⟨b, off, K, O, S, A1, L1, C1, A2, L2, C2, AK, LK, CK, P, rfl, hw⟩ := HKS.out j hlt
      obtain ⟨⟨g0, g1, g2, g3, g4, g5, g6⟩, C⟩ := hw _ hnx
      rw [HF.out j] at C
      have HC := hide C
      clear C hw HKS HF hu1
      generalize F j = FJ at *
      generalize sumUp F j = SJ at *
      go_wp2_with fail
      refine HC.out.mono ?_
      rintro e w1 ⟨rfl, hb1⟩
      clear HC
      go_wp2
      go_roundg (L - (j + 1))
      case rel => exact ⟨j + 1, by omega, by go_num, by rw [HU1.out]; go_num, hnx.trans (hb1.mono hnx.size), (hb1.cell (p := ⟨w.heap.size, 5, none⟩) HSZ.out).trans hcl, Nat.lt_of_lt_of_le HSZ.out hb1.size⟩
      case measure => omega
    · have hje : j = L := by omega
      subst hje
      clear HU HKS
      go_wp2
      go_ret
      exact ⟨rfl, hnx⟩

end Go.Proofs.YtneblkdkhlgmcaaDoor
