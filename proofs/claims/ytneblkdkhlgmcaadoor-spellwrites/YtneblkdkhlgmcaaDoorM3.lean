/-
  The document's own texts of a program, by depth: a function in brackets of its own; function as a whole.
-/
import Derived.Test.YtneblkdkhlgmcaaDoorM2
import Derived.Shelf.Strconv.Itoa4
import Derived.Test.YtneblkdkhlgmcaaDoorProg
import Derived.WalkKit
import Derived.Test.YtneblkdkhlgmcaaDoorChecked
import GoSem.Claim
import GoSem.ClaimJoined
import GoSem.ClaimMapViews
import Derived.JoinedTies
import Derived.KernelRfl
import Derived.ProofKit
import Derived.Below
import Derived.Deep.OwnRows
import Derived.Deep.QuietTactic
import Derived.BigQuiet
import Derived.Deep.RegionWith
import Derived.Lib.AppendIntMem
import Derived.Lib.ConvBytes
import Derived.Lib.Builder
import Derived.Lib.AppendStr
import Derived.Lib.UnsafeStr
import Derived.Deep.LoopGhost
import Derived.Deep.RegionHeld3
import Derived.Lib.MakeNoZero
import Derived.Laws.MakeOwn
import Derived.Laws.BitsAllLaws
import Derived.Lib.Bits
import Derived.Deep.Cut
import Derived.Deep.MidRow
import Derived.OpenShut
import Derived.ChangeOld
import Derived.SizedLaws
import Derived.Deep.Slices
import Derived.Deep.Strs
import Derived.Deep.RegionLaw
import GoSem.ClaimSeven
import Derived.LaidByTextLater
import Derived.SevenTiedAt
import Derived.LaidSub
import Derived.LaidOnce
import Derived.Deep.DeepHandedRow
import Derived.Lib.LaidTab
import Derived.Lay
namespace Go.Proofs.YtneblkdkhlgmcaaDoor
open Go.ChangeShapes Go.WideShapes Go.ChangeAt Go.RowKit
set_option maxRecDepth 100000
set_option linter.unusedVariables false
set_option linter.unusedSimpArgs false
theorem catB (a : ByteArray) (T : List UInt8) (c : ByteArray) : a ++ (⟨#[32]⟩ : ByteArray) ++ ⟨T.toArray⟩ ++ (⟨#[32]⟩ : ByteArray) ++ c = str (bL a ++ ([32] ++ T) ++ ([32] ++ bL c)) := by
  have e : (⟨#[32]⟩ : ByteArray) = ⟨[32].toArray⟩ := rfl
  rw [catO, e]
  unfold str
  rw [cat_mk, cat_r]
  simp [bL]
set_option maxHeartbeats 4000000 in
theorem rf22t {n m : Nat} {w0 : World} {G : Gs} (AM : Rm G) (IE : RE n m w0 G) (rt : ByteArray) (w : World) (x : Nd) (v : Value) (hx : NdIn (m + 1) n 0 w0 x v) (hk : okN (m + 1) true x) (hs : sndA x) (hb : Below w0.heap.size w0 w) (hK : x.kind = 22) (hlo : G.lone = true) (hl : (fnT G (TX G m) x).length ≤ 140737488355328) :
    Calls Tryd.prog 44 #[tV G rt, v] w fun e w' => e = .returned (.string (str (fnT G (TX G m) x))) ∧ Below w.heap.size w w' := by
  obtain ⟨v1, v2, ak, ck, rfl, hv1, hA0, hkid⟩ := nd_kids hx
  have hkl : x.kids.length = 1 := by have := hk.1; rw [hK] at this; unfold arK at this; simp at this; first | omega | (rw [this]; rfl)
  have hT : fnT G (TX G m) x = bL G.opn ++ ([32] ++ (TX G m).E G.left (kp x 0)) ++ ([32] ++ bL G.cls) := by simp [fnT, hK, hlo]
  rw [hT] at hl ⊢
  obtain ⟨b, off, x0, y0, z0, rfl, hn0, hs0⟩ := hkid 0 (by omega)
  have ok0 := hk.2.2.2 0 (by omega)
  rw [show fnP x.kind 0 = false by rw [hK]; rfl] at ok0
  have HC0 := hide (fun W (hW : Below w.heap.size w W) hl => IE G.left W (kp x 0) _ hn0 ok0 (hs.kid (by omega)) (hb.trans (hW.mono hb.size)) hl)
  rw [hK, hkl]
  have hm := AM.hm
  have hsl := AM.hsl
  obtain ⟨T0, hT0⟩ : ∃ T0, (TX G m).E G.left (kp x 0) = T0 := ⟨_, rfl⟩
  rw [hT0] at HC0 hl ⊢
  clear hx hk hs IE hkid hT hkl hK ok0 hn0 hT0 AM
  generalize x.op = o at *
  generalize x.name = nm at *
  generalize x.pos = ps at *
  generalize (kp x 0).kind = ki0 at *
  generalize (kp x 0).op = op0 at *
  generalize (kp x 0).name = nm0 at *
  generalize (kp x 0).pos = ps0 at *
  have hps : G.opn.data.toList.length = G.opn.size := by simp
  have hps2 : G.cls.data.toList.length = G.cls.size := by simp
  simp only [bL, List.length_append, List.length_cons, List.length_nil] at hl
  unfold tV at HC0 ⊢
  rw [hlo] at HC0 ⊢
  clear hlo
  generalize G.s1 = S1 at *
  generalize G.s2 = S2 at *
  generalize G.s3 = S3 at *
  obtain ⟨a1, n1, c1, a2, n2, c2, a3, n3, c3, rfl, rfl, rfl⟩ := hsl
  obtain ⟨W2, hW2⟩ : ∃ W2, (w.alloc (.cells #[.slice a1 n1 c1, .slice a2 n2 c2, .slice a3 n3 c3, .string G.outer, .string G.power, .string G.opn, .string G.cls, .string G.left, .string G.right, .string G.minus, .string G.quote, .bool G.trains, .bool true, .bool G.square, .string rt] 66)).alloc (.cells (sv (22) (o) nm (v1) (v2) (.slice (some ⟨b, off, none⟩) 1 ck) (ps)) 34) = W2 := ⟨_, rfl⟩
  have hb2 : Below w.heap.size w W2 := by rw [← hW2]; exact two_allocs _ _ _
  have s2 : W2.heap.size = w.heap.size + 2 := by rw [← hW2]; simp
  have hA : W2.heap[w.heap.size]? = some (.cells #[.slice a1 n1 c1, .slice a2 n2 c2, .slice a3 n3 c3, .string G.outer, .string G.power, .string G.opn, .string G.cls, .string G.left, .string G.right, .string G.minus, .string G.quote, .bool G.trains, .bool true, .bool G.square, .string rt] 66 (0, 0)) := by
    rw [← hW2]; exact (Lib.alloc_old _ _ w.heap.size (by simp)).trans (heap_alloc_new w _)
  have hNb : W2.heap[w.heap.size + 1]? = some (.cells (sv (22) (o) nm (v1) (v2) (.slice (some ⟨b, off, none⟩) 1 ck) (ps)) 34 (0, 0)) := by
    have h := heap_alloc_new (w.alloc (.cells #[.slice a1 n1 c1, .slice a2 n2 c2, .slice a3 n3 c3, .string G.outer, .string G.power, .string G.opn, .string G.cls, .string G.left, .string G.right, .string G.minus, .string G.quote, .bool G.trains, .bool true, .bool G.square, .string rt] 66)) (.cells (sv (22) (o) nm (v1) (v2) (.slice (some ⟨b, off, none⟩) 1 ck) (ps)) 34)
    have e : (w.alloc (.cells #[.slice a1 n1 c1, .slice a2 n2 c2, .slice a3 n3 c3, .string G.outer, .string G.power, .string G.opn, .string G.cls, .string G.left, .string G.right, .string G.minus, .string G.quote, .bool G.trains, .bool true, .bool G.square, .string rt] 66)).heap.size = w.heap.size + 1 := by simp
    rw [e] at h
    rw [← hW2]; exact h
  have HB22 : Hid (∀ W, Below W2.heap.size W2 W → Below w.heap.size w W) := hide fun W h => hb2.trans (h.mono hb2.size)
  obtain ⟨W3, hW3⟩ : ∃ W3, W2.alloc (.cells #[.slice a1 n1 c1, .slice a2 n2 c2, .slice a3 n3 c3, .string G.outer, .string G.power, .string G.opn, .string G.cls, .string G.left, .string G.right, .string G.minus, .string G.quote, .bool G.trains, .bool true, .bool G.square, .string G.left] 66) = W3 := ⟨_, rfl⟩
  have hb3 : Below W2.heap.size W2 W3 := by rw [← hW3]; exact alloc_one _ _
  have s3 : W3.heap.size = w.heap.size + 3 := by rw [← hW3]; simp [s2]
  have hC : W3.heap[w.heap.size + 2]? = some (.cells #[.slice a1 n1 c1, .slice a2 n2 c2, .slice a3 n3 c3, .string G.outer, .string G.power, .string G.opn, .string G.cls, .string G.left, .string G.right, .string G.minus, .string G.quote, .bool G.trains, .bool true, .bool G.square, .string G.left] 66 (0, 0)) := by rw [← hW3, ← s2]; exact heap_alloc_new W2 _
  have hA3 : W3.heap[w.heap.size]? = _ := (hb3.block w.heap.size (by omega)).trans hA
  have hN3 : W3.heap[w.heap.size + 1]? = _ := (hb3.block (w.heap.size + 1) (by omega)).trans hNb
  have HB23 : Hid (∀ W, Below W3.heap.size W3 W → Below w.heap.size w W) := hide fun W h => HB22.out W (hb3.trans (h.mono hb3.size))
  have KS : Hid (∀ W, Below W3.heap.size W3 W → Below W3.heap.size W3 W ∧ W.cell? ⟨w.heap.size, 0, none⟩ = some (.slice a1 n1 c1) ∧ W.cell? ⟨w.heap.size, 1, none⟩ = some (.slice a2 n2 c2) ∧ W.cell? ⟨w.heap.size, 2, none⟩ = some (.slice a3 n3 c3) ∧ W.cell? ⟨w.heap.size, 3, none⟩ = some (.string G.outer) ∧ W.cell? ⟨w.heap.size, 4, none⟩ = some (.string G.power) ∧ W.cell? ⟨w.heap.size, 5, none⟩ = some (.string G.opn) ∧ W.cell? ⟨w.heap.size, 6, none⟩ = some (.string G.cls) ∧ W.cell? ⟨w.heap.size, 7, none⟩ = some (.string G.left) ∧ W.cell? ⟨w.heap.size, 8, none⟩ = some (.string G.right) ∧ W.cell? ⟨w.heap.size, 9, none⟩ = some (.string G.minus) ∧ W.cell? ⟨w.heap.size, 10, none⟩ = some (.string G.quote) ∧ W.cell? ⟨w.heap.size, 11, none⟩ = some (.bool G.trains) ∧ W.cell? ⟨w.heap.size, 12, none⟩ = some (.bool true) ∧ W.cell? ⟨w.heap.size, 13, none⟩ = some (.bool G.square) ∧ W.cell? ⟨w.heap.size, 14, none⟩ = some (.string rt) ∧ W.cell? ⟨w.heap.size + 1, 0, none⟩ = some (.int .i64 22) ∧ W.cell? ⟨w.heap.size + 1, 1, none⟩ = some (.int .i64 o) ∧ W.cell? ⟨w.heap.size + 1, 2, none⟩ = some (.string nm) ∧ W.cell? ⟨w.heap.size + 1, 3, none⟩ = some (v1) ∧ W.cell? ⟨w.heap.size + 1, 4, none⟩ = some (v2) ∧ W.cell? ⟨w.heap.size + 1, 5, none⟩ = some (.slice (some ⟨b, off, none⟩) 1 ck) ∧ W.cell? ⟨w.heap.size + 1, 6, none⟩ = some (.int .i64 ps) ∧ W.cell? ⟨w.heap.size + 2, 0, none⟩ = some (.slice a1 n1 c1) ∧ W.cell? ⟨w.heap.size + 2, 1, none⟩ = some (.slice a2 n2 c2) ∧ W.cell? ⟨w.heap.size + 2, 2, none⟩ = some (.slice a3 n3 c3) ∧ W.cell? ⟨w.heap.size + 2, 3, none⟩ = some (.string G.outer) ∧ W.cell? ⟨w.heap.size + 2, 4, none⟩ = some (.string G.power) ∧ W.cell? ⟨w.heap.size + 2, 5, none⟩ = some (.string G.opn) ∧ W.cell? ⟨w.heap.size + 2, 6, none⟩ = some (.string G.cls) ∧ W.cell? ⟨w.heap.size + 2, 7, none⟩ = some (.string G.left) ∧ W.cell? ⟨w.heap.size + 2, 8, none⟩ = some (.string G.right) ∧ W.cell? ⟨w.heap.size + 2, 9, none⟩ = some (.string G.minus) ∧ W.cell? ⟨w.heap.size + 2, 10, none⟩ = some (.string G.quote) ∧ W.cell? ⟨w.heap.size + 2, 11, none⟩ = some (.bool G.trains) ∧ W.cell? ⟨w.heap.size + 2, 12, none⟩ = some (.bool true) ∧ W.cell? ⟨w.heap.size + 2, 13, none⟩ = some (.bool G.square) ∧ W.cell? ⟨w.heap.size + 2, 14, none⟩ = some (.string G.left) ∧ W.cell? ⟨b, off, none⟩ = some (.int .i64 ki0) ∧ W.cell? ⟨b, off + 1, none⟩ = some (.int .i64 op0) ∧ W.cell? ⟨b, off + 2, none⟩ = some (.string nm0) ∧ W.cell? ⟨b, off + 3, none⟩ = some (x0) ∧ W.cell? ⟨b, off + 4, none⟩ = some (y0) ∧ W.cell? ⟨b, off + 5, none⟩ = some (z0) ∧ W.cell? ⟨b, off + 6, none⟩ = some (.int .i64 ps0)) := hide fun W h => by
    have hA2 := (h.block w.heap.size (by omega)).trans hA3
    have hN2 := (h.block (w.heap.size + 1) (by omega)).trans hN3
    have hU2 := (h.block (w.heap.size + 2) (by omega)).trans hC
    obtain ⟨q0, q1, q2, q3, q4, q5, q6⟩ := hs0 W (hb.trans ((HB23.out W h).mono hb.size))
    exact ⟨h, (Lib.cell_of_heap hA2 0).trans rfl, (Lib.cell_of_heap hA2 1).trans rfl, (Lib.cell_of_heap hA2 2).trans rfl, (Lib.cell_of_heap hA2 3).trans rfl, (Lib.cell_of_heap hA2 4).trans rfl, (Lib.cell_of_heap hA2 5).trans rfl, (Lib.cell_of_heap hA2 6).trans rfl, (Lib.cell_of_heap hA2 7).trans rfl, (Lib.cell_of_heap hA2 8).trans rfl, (Lib.cell_of_heap hA2 9).trans rfl, (Lib.cell_of_heap hA2 10).trans rfl, (Lib.cell_of_heap hA2 11).trans rfl, (Lib.cell_of_heap hA2 12).trans rfl, (Lib.cell_of_heap hA2 13).trans rfl, (Lib.cell_of_heap hA2 14).trans rfl, (Lib.cell_of_heap hN2 0).trans rfl, (Lib.cell_of_heap hN2 1).trans rfl, (Lib.cell_of_heap hN2 2).trans rfl, (Lib.cell_of_heap hN2 3).trans rfl, (Lib.cell_of_heap hN2 4).trans rfl, (Lib.cell_of_heap hN2 5).trans rfl, (Lib.cell_of_heap hN2 6).trans rfl, (Lib.cell_of_heap hU2 0).trans rfl, (Lib.cell_of_heap hU2 1).trans rfl, (Lib.cell_of_heap hU2 2).trans rfl, (Lib.cell_of_heap hU2 3).trans rfl, (Lib.cell_of_heap hU2 4).trans rfl, (Lib.cell_of_heap hU2 5).trans rfl, (Lib.cell_of_heap hU2 6).trans rfl, (Lib.cell_of_heap hU2 7).trans rfl, (Lib.cell_of_heap hU2 8).trans rfl, (Lib.cell_of_heap hU2 9).trans rfl, (Lib.cell_of_heap hU2 10).trans rfl, (Lib.cell_of_heap hU2 11).trans rfl, (Lib.cell_of_heap hU2 12).trans rfl, (Lib.cell_of_heap hU2 13).trans rfl, (Lib.cell_of_heap hU2 14).trans rfl, q0, q1, q2, q3, q4, q5, q6⟩
  have HD0 : Hid (∀ W, Below W3.heap.size W3 W → Calls Tryd.prog 30 #[.agg #[.slice a1 n1 c1, .slice a2 n2 c2, .slice a3 n3 c3, .string G.outer, .string G.power, .string G.opn, .string G.cls, .string G.left, .string G.right, .string G.minus, .string G.quote, .bool G.trains, .bool true, .bool G.square, .string G.left], .agg (sv (ki0) (op0) nm0 (x0) (y0) (z0) (ps0))] W fun e w' => e = .returned (.string ⟨T0.toArray⟩) ∧ Below W3.heap.size W3 w') := hide fun W h => (HC0.out W (HB23.out W h) (by omega)).mono (by rintro e w' ⟨rfl, h2⟩; exact ⟨rfl, h.trans (h2.mono h.size)⟩)
  have HD : Hid (Below W3.heap.size W3 W3.drew) := hide ((Below.refl _ _).drew)
  have l1 : ¬ (9223372036854775807 < G.opn.size + 1) := by omega
  have l2 : ¬ (9223372036854775807 < G.opn.size + 1 + T0.length) := by omega
  have l3 : ¬ (9223372036854775807 < G.opn.size + 1 + T0.length + 1) := by omega
  have l4 : ¬ (9223372036854775807 < G.opn.size + 1 + T0.length + 1 + G.cls.size) := by omega
  have t0 : W2.cell? ⟨w.heap.size, 0, none⟩ = some (.slice a1 n1 c1) := (Lib.cell_of_heap hA 0).trans rfl
  have t1 : W2.cell? ⟨w.heap.size, 1, none⟩ = some (.slice a2 n2 c2) := (Lib.cell_of_heap hA 1).trans rfl
  have t2 : W2.cell? ⟨w.heap.size, 2, none⟩ = some (.slice a3 n3 c3) := (Lib.cell_of_heap hA 2).trans rfl
  have t3 : W2.cell? ⟨w.heap.size, 3, none⟩ = some (.string G.outer) := (Lib.cell_of_heap hA 3).trans rfl
  have t4 : W2.cell? ⟨w.heap.size, 4, none⟩ = some (.string G.power) := (Lib.cell_of_heap hA 4).trans rfl
  have t5 : W2.cell? ⟨w.heap.size, 5, none⟩ = some (.string G.opn) := (Lib.cell_of_heap hA 5).trans rfl
  have t6 : W2.cell? ⟨w.heap.size, 6, none⟩ = some (.string G.cls) := (Lib.cell_of_heap hA 6).trans rfl
  have t7 : W2.cell? ⟨w.heap.size, 7, none⟩ = some (.string G.left) := (Lib.cell_of_heap hA 7).trans rfl
  have t8 : W2.cell? ⟨w.heap.size, 8, none⟩ = some (.string G.right) := (Lib.cell_of_heap hA 8).trans rfl
  have t9 : W2.cell? ⟨w.heap.size, 9, none⟩ = some (.string G.minus) := (Lib.cell_of_heap hA 9).trans rfl
  have t10 : W2.cell? ⟨w.heap.size, 10, none⟩ = some (.string G.quote) := (Lib.cell_of_heap hA 10).trans rfl
  have t11 : W2.cell? ⟨w.heap.size, 11, none⟩ = some (.bool G.trains) := (Lib.cell_of_heap hA 11).trans rfl
  have t12 : W2.cell? ⟨w.heap.size, 12, none⟩ = some (.bool true) := (Lib.cell_of_heap hA 12).trans rfl
  have t13 : W2.cell? ⟨w.heap.size, 13, none⟩ = some (.bool G.square) := (Lib.cell_of_heap hA 13).trans rfl
  have t14 : W2.cell? ⟨w.heap.size, 14, none⟩ = some (.string rt) := (Lib.cell_of_heap hA 14).trans rfl
  have n0 : W2.cell? ⟨w.heap.size + 1, 0, none⟩ = some (.int .i64 22) := (Lib.cell_of_heap hNb 0).trans rfl
  have HW3 := hide hW3
  clear hW3
  go_enter Tryd.func44, Tryd.ntmps44
  go_upto_region 1 with fail
  try rw [hW2]
  clear hW2 hA hNb hb2 HC0 hs0 hA3 hN3 hps hps2 hC hb3 s3
  go_upto_region 20 with fail
  try rw [HW3.out]
  clear t0 t1 t2 t3 t4 t5 t6 t7 t8 t9 t10 t11 t12 t13 t14 n0 HW3
  go_region_held3 (fun W => Below W3.heap.size W3 W ∧ W.cell? ⟨w.heap.size, 0, none⟩ = some (.slice a1 n1 c1) ∧ W.cell? ⟨w.heap.size, 1, none⟩ = some (.slice a2 n2 c2) ∧ W.cell? ⟨w.heap.size, 2, none⟩ = some (.slice a3 n3 c3) ∧ W.cell? ⟨w.heap.size, 3, none⟩ = some (.string G.outer) ∧ W.cell? ⟨w.heap.size, 4, none⟩ = some (.string G.power) ∧ W.cell? ⟨w.heap.size, 5, none⟩ = some (.string G.opn) ∧ W.cell? ⟨w.heap.size, 6, none⟩ = some (.string G.cls) ∧ W.cell? ⟨w.heap.size, 7, none⟩ = some (.string G.left) ∧ W.cell? ⟨w.heap.size, 8, none⟩ = some (.string G.right) ∧ W.cell? ⟨w.heap.size, 9, none⟩ = some (.string G.minus) ∧ W.cell? ⟨w.heap.size, 10, none⟩ = some (.string G.quote) ∧ W.cell? ⟨w.heap.size, 11, none⟩ = some (.bool G.trains) ∧ W.cell? ⟨w.heap.size, 12, none⟩ = some (.bool true) ∧ W.cell? ⟨w.heap.size, 13, none⟩ = some (.bool G.square) ∧ W.cell? ⟨w.heap.size, 14, none⟩ = some (.string rt) ∧ W.cell? ⟨w.heap.size + 1, 0, none⟩ = some (.int .i64 22) ∧ W.cell? ⟨w.heap.size + 1, 1, none⟩ = some (.int .i64 o) ∧ W.cell? ⟨w.heap.size + 1, 2, none⟩ = some (.string nm) ∧ W.cell? ⟨w.heap.size + 1, 3, none⟩ = some (v1) ∧ W.cell? ⟨w.heap.size + 1, 4, none⟩ = some (v2) ∧ W.cell? ⟨w.heap.size + 1, 5, none⟩ = some (.slice (some ⟨b, off, none⟩) 1 ck) ∧ W.cell? ⟨w.heap.size + 1, 6, none⟩ = some (.int .i64 ps) ∧ W.cell? ⟨w.heap.size + 2, 0, none⟩ = some (.slice a1 n1 c1) ∧ W.cell? ⟨w.heap.size + 2, 1, none⟩ = some (.slice a2 n2 c2) ∧ W.cell? ⟨w.heap.size + 2, 2, none⟩ = some (.slice a3 n3 c3) ∧ W.cell? ⟨w.heap.size + 2, 3, none⟩ = some (.string G.outer) ∧ W.cell? ⟨w.heap.size + 2, 4, none⟩ = some (.string G.power) ∧ W.cell? ⟨w.heap.size + 2, 5, none⟩ = some (.string G.opn) ∧ W.cell? ⟨w.heap.size + 2, 6, none⟩ = some (.string G.cls) ∧ W.cell? ⟨w.heap.size + 2, 7, none⟩ = some (.string G.left) ∧ W.cell? ⟨w.heap.size + 2, 8, none⟩ = some (.string G.right) ∧ W.cell? ⟨w.heap.size + 2, 9, none⟩ = some (.string G.minus) ∧ W.cell? ⟨w.heap.size + 2, 10, none⟩ = some (.string G.quote) ∧ W.cell? ⟨w.heap.size + 2, 11, none⟩ = some (.bool G.trains) ∧ W.cell? ⟨w.heap.size + 2, 12, none⟩ = some (.bool true) ∧ W.cell? ⟨w.heap.size + 2, 13, none⟩ = some (.bool G.square) ∧ W.cell? ⟨w.heap.size + 2, 14, none⟩ = some (.string G.left) ∧ W.cell? ⟨b, off, none⟩ = some (.int .i64 ki0) ∧ W.cell? ⟨b, off + 1, none⟩ = some (.int .i64 op0) ∧ W.cell? ⟨b, off + 2, none⟩ = some (.string nm0) ∧ W.cell? ⟨b, off + 3, none⟩ = some (x0) ∧ W.cell? ⟨b, off + 4, none⟩ = some (y0) ∧ W.cell? ⟨b, off + 5, none⟩ = some (z0) ∧ W.cell? ⟨b, off + 6, none⟩ = some (.int .i64 ps0)) (first | with_reducible exact KS.out _ HD.out | with_reducible exact KS.out _ (by with_reducible assumption)) (first | (go_at_call 30; with_reducible refine (HD0.out _ (by first | with_reducible exact HD.out | with_reducible assumption)).mono ?_; rintro e wq ⟨rfl, hbq⟩))
  go_wp2
  go_ret
  refine ⟨?_, HB23.out _ (by with_reducible assumption)⟩
  show Ending.returned (Value.string (G.opn ++ (⟨#[32]⟩ : ByteArray) ++ ⟨T0.toArray⟩ ++ (⟨#[32]⟩ : ByteArray) ++ G.cls)) = _
  exact congrArg (fun s => Ending.returned (Value.string s)) (catB G.opn T0 G.cls)
set_option maxHeartbeats 4000000 in
theorem rf22f {n m : Nat} {w0 : World} {G : Gs} (AM : Rm G) (IE : RE n m w0 G) (rt : ByteArray) (w : World) (x : Nd) (v : Value) (hx : NdIn (m + 1) n 0 w0 x v) (hk : okN (m + 1) true x) (hs : sndA x) (hb : Below w0.heap.size w0 w) (hK : x.kind = 22) (hlo : G.lone = false) (hl : (fnT G (TX G m) x).length ≤ 140737488355328) :
    Calls Tryd.prog 44 #[tV G rt, v] w fun e w' => e = .returned (.string (str (fnT G (TX G m) x))) ∧ Below w.heap.size w w' := by
  obtain ⟨v1, v2, ak, ck, rfl, hv1, hA0, hkid⟩ := nd_kids hx
  have hkl : x.kids.length = 1 := by have := hk.1; rw [hK] at this; unfold arK at this; simp at this; first | omega | (rw [this]; rfl)
  have hT : fnT G (TX G m) x = bL G.opn ++ ([32] ++ (TX G m).E G.right (kp x 0)) ++ ([32] ++ bL G.cls) := by simp [fnT, hK, hlo]
  rw [hT] at hl ⊢
  obtain ⟨b, off, x0, y0, z0, rfl, hn0, hs0⟩ := hkid 0 (by omega)
  have ok0 := hk.2.2.2 0 (by omega)
  rw [show fnP x.kind 0 = false by rw [hK]; rfl] at ok0
  have HC0 := hide (fun W (hW : Below w.heap.size w W) hl => IE G.right W (kp x 0) _ hn0 ok0 (hs.kid (by omega)) (hb.trans (hW.mono hb.size)) hl)
  rw [hK, hkl]
  have hm := AM.hm
  have hsl := AM.hsl
  obtain ⟨T0, hT0⟩ : ∃ T0, (TX G m).E G.right (kp x 0) = T0 := ⟨_, rfl⟩
  rw [hT0] at HC0 hl ⊢
  clear hx hk hs IE hkid hT hkl hK ok0 hn0 hT0 AM
  generalize x.op = o at *
  generalize x.name = nm at *
  generalize x.pos = ps at *
  generalize (kp x 0).kind = ki0 at *
  generalize (kp x 0).op = op0 at *
  generalize (kp x 0).name = nm0 at *
  generalize (kp x 0).pos = ps0 at *
  have hps : G.opn.data.toList.length = G.opn.size := by simp
  have hps2 : G.cls.data.toList.length = G.cls.size := by simp
  simp only [bL, List.length_append, List.length_cons, List.length_nil] at hl
  unfold tV at HC0 ⊢
  rw [hlo] at HC0 ⊢
  clear hlo
  generalize G.s1 = S1 at *
  generalize G.s2 = S2 at *
  generalize G.s3 = S3 at *
  obtain ⟨a1, n1, c1, a2, n2, c2, a3, n3, c3, rfl, rfl, rfl⟩ := hsl
  obtain ⟨W2, hW2⟩ : ∃ W2, (w.alloc (.cells #[.slice a1 n1 c1, .slice a2 n2 c2, .slice a3 n3 c3, .string G.outer, .string G.power, .string G.opn, .string G.cls, .string G.left, .string G.right, .string G.minus, .string G.quote, .bool G.trains, .bool false, .bool G.square, .string rt] 66)).alloc (.cells (sv (22) (o) nm (v1) (v2) (.slice (some ⟨b, off, none⟩) 1 ck) (ps)) 34) = W2 := ⟨_, rfl⟩
  have hb2 : Below w.heap.size w W2 := by rw [← hW2]; exact two_allocs _ _ _
  have s2 : W2.heap.size = w.heap.size + 2 := by rw [← hW2]; simp
  have hA : W2.heap[w.heap.size]? = some (.cells #[.slice a1 n1 c1, .slice a2 n2 c2, .slice a3 n3 c3, .string G.outer, .string G.power, .string G.opn, .string G.cls, .string G.left, .string G.right, .string G.minus, .string G.quote, .bool G.trains, .bool false, .bool G.square, .string rt] 66 (0, 0)) := by
    rw [← hW2]; exact (Lib.alloc_old _ _ w.heap.size (by simp)).trans (heap_alloc_new w _)
  have hNb : W2.heap[w.heap.size + 1]? = some (.cells (sv (22) (o) nm (v1) (v2) (.slice (some ⟨b, off, none⟩) 1 ck) (ps)) 34 (0, 0)) := by
    have h := heap_alloc_new (w.alloc (.cells #[.slice a1 n1 c1, .slice a2 n2 c2, .slice a3 n3 c3, .string G.outer, .string G.power, .string G.opn, .string G.cls, .string G.left, .string G.right, .string G.minus, .string G.quote, .bool G.trains, .bool false, .bool G.square, .string rt] 66)) (.cells (sv (22) (o) nm (v1) (v2) (.slice (some ⟨b, off, none⟩) 1 ck) (ps)) 34)
    have e : (w.alloc (.cells #[.slice a1 n1 c1, .slice a2 n2 c2, .slice a3 n3 c3, .string G.outer, .string G.power, .string G.opn, .string G.cls, .string G.left, .string G.right, .string G.minus, .string G.quote, .bool G.trains, .bool false, .bool G.square, .string rt] 66)).heap.size = w.heap.size + 1 := by simp
    rw [e] at h
    rw [← hW2]; exact h
  have HB22 : Hid (∀ W, Below W2.heap.size W2 W → Below w.heap.size w W) := hide fun W h => hb2.trans (h.mono hb2.size)
  obtain ⟨W3, hW3⟩ : ∃ W3, W2.alloc (.cells #[.slice a1 n1 c1, .slice a2 n2 c2, .slice a3 n3 c3, .string G.outer, .string G.power, .string G.opn, .string G.cls, .string G.left, .string G.right, .string G.minus, .string G.quote, .bool G.trains, .bool false, .bool G.square, .string G.right] 66) = W3 := ⟨_, rfl⟩
  have hb3 : Below W2.heap.size W2 W3 := by rw [← hW3]; exact alloc_one _ _
  have s3 : W3.heap.size = w.heap.size + 3 := by rw [← hW3]; simp [s2]
  have hC : W3.heap[w.heap.size + 2]? = some (.cells #[.slice a1 n1 c1, .slice a2 n2 c2, .slice a3 n3 c3, .string G.outer, .string G.power, .string G.opn, .string G.cls, .string G.left, .string G.right, .string G.minus, .string G.quote, .bool G.trains, .bool false, .bool G.square, .string G.right] 66 (0, 0)) := by rw [← hW3, ← s2]; exact heap_alloc_new W2 _
  have hA3 : W3.heap[w.heap.size]? = _ := (hb3.block w.heap.size (by omega)).trans hA
  have hN3 : W3.heap[w.heap.size + 1]? = _ := (hb3.block (w.heap.size + 1) (by omega)).trans hNb
  have HB23 : Hid (∀ W, Below W3.heap.size W3 W → Below w.heap.size w W) := hide fun W h => HB22.out W (hb3.trans (h.mono hb3.size))
  have KS : Hid (∀ W, Below W3.heap.size W3 W → Below W3.heap.size W3 W ∧ W.cell? ⟨w.heap.size, 0, none⟩ = some (.slice a1 n1 c1) ∧ W.cell? ⟨w.heap.size, 1, none⟩ = some (.slice a2 n2 c2) ∧ W.cell? ⟨w.heap.size, 2, none⟩ = some (.slice a3 n3 c3) ∧ W.cell? ⟨w.heap.size, 3, none⟩ = some (.string G.outer) ∧ W.cell? ⟨w.heap.size, 4, none⟩ = some (.string G.power) ∧ W.cell? ⟨w.heap.size, 5, none⟩ = some (.string G.opn) ∧ W.cell? ⟨w.heap.size, 6, none⟩ = some (.string G.cls) ∧ W.cell? ⟨w.heap.size, 7, none⟩ = some (.string G.left) ∧ W.cell? ⟨w.heap.size, 8, none⟩ = some (.string G.right) ∧ W.cell? ⟨w.heap.size, 9, none⟩ = some (.string G.minus) ∧ W.cell? ⟨w.heap.size, 10, none⟩ = some (.string G.quote) ∧ W.cell? ⟨w.heap.size, 11, none⟩ = some (.bool G.trains) ∧ W.cell? ⟨w.heap.size, 12, none⟩ = some (.bool false) ∧ W.cell? ⟨w.heap.size, 13, none⟩ = some (.bool G.square) ∧ W.cell? ⟨w.heap.size, 14, none⟩ = some (.string rt) ∧ W.cell? ⟨w.heap.size + 1, 0, none⟩ = some (.int .i64 22) ∧ W.cell? ⟨w.heap.size + 1, 1, none⟩ = some (.int .i64 o) ∧ W.cell? ⟨w.heap.size + 1, 2, none⟩ = some (.string nm) ∧ W.cell? ⟨w.heap.size + 1, 3, none⟩ = some (v1) ∧ W.cell? ⟨w.heap.size + 1, 4, none⟩ = some (v2) ∧ W.cell? ⟨w.heap.size + 1, 5, none⟩ = some (.slice (some ⟨b, off, none⟩) 1 ck) ∧ W.cell? ⟨w.heap.size + 1, 6, none⟩ = some (.int .i64 ps) ∧ W.cell? ⟨w.heap.size + 2, 0, none⟩ = some (.slice a1 n1 c1) ∧ W.cell? ⟨w.heap.size + 2, 1, none⟩ = some (.slice a2 n2 c2) ∧ W.cell? ⟨w.heap.size + 2, 2, none⟩ = some (.slice a3 n3 c3) ∧ W.cell? ⟨w.heap.size + 2, 3, none⟩ = some (.string G.outer) ∧ W.cell? ⟨w.heap.size + 2, 4, none⟩ = some (.string G.power) ∧ W.cell? ⟨w.heap.size + 2, 5, none⟩ = some (.string G.opn) ∧ W.cell? ⟨w.heap.size + 2, 6, none⟩ = some (.string G.cls) ∧ W.cell? ⟨w.heap.size + 2, 7, none⟩ = some (.string G.left) ∧ W.cell? ⟨w.heap.size + 2, 8, none⟩ = some (.string G.right) ∧ W.cell? ⟨w.heap.size + 2, 9, none⟩ = some (.string G.minus) ∧ W.cell? ⟨w.heap.size + 2, 10, none⟩ = some (.string G.quote) ∧ W.cell? ⟨w.heap.size + 2, 11, none⟩ = some (.bool G.trains) ∧ W.cell? ⟨w.heap.size + 2, 12, none⟩ = some (.bool false) ∧ W.cell? ⟨w.heap.size + 2, 13, none⟩ = some (.bool G.square) ∧ W.cell? ⟨w.heap.size + 2, 14, none⟩ = some (.string G.right) ∧ W.cell? ⟨b, off, none⟩ = some (.int .i64 ki0) ∧ W.cell? ⟨b, off + 1, none⟩ = some (.int .i64 op0) ∧ W.cell? ⟨b, off + 2, none⟩ = some (.string nm0) ∧ W.cell? ⟨b, off + 3, none⟩ = some (x0) ∧ W.cell? ⟨b, off + 4, none⟩ = some (y0) ∧ W.cell? ⟨b, off + 5, none⟩ = some (z0) ∧ W.cell? ⟨b, off + 6, none⟩ = some (.int .i64 ps0)) := hide fun W h => by
    have hA2 := (h.block w.heap.size (by omega)).trans hA3
    have hN2 := (h.block (w.heap.size + 1) (by omega)).trans hN3
    have hU2 := (h.block (w.heap.size + 2) (by omega)).trans hC
    obtain ⟨q0, q1, q2, q3, q4, q5, q6⟩ := hs0 W (hb.trans ((HB23.out W h).mono hb.size))
    exact ⟨h, (Lib.cell_of_heap hA2 0).trans rfl, (Lib.cell_of_heap hA2 1).trans rfl, (Lib.cell_of_heap hA2 2).trans rfl, (Lib.cell_of_heap hA2 3).trans rfl, (Lib.cell_of_heap hA2 4).trans rfl, (Lib.cell_of_heap hA2 5).trans rfl, (Lib.cell_of_heap hA2 6).trans rfl, (Lib.cell_of_heap hA2 7).trans rfl, (Lib.cell_of_heap hA2 8).trans rfl, (Lib.cell_of_heap hA2 9).trans rfl, (Lib.cell_of_heap hA2 10).trans rfl, (Lib.cell_of_heap hA2 11).trans rfl, (Lib.cell_of_heap hA2 12).trans rfl, (Lib.cell_of_heap hA2 13).trans rfl, (Lib.cell_of_heap hA2 14).trans rfl, (Lib.cell_of_heap hN2 0).trans rfl, (Lib.cell_of_heap hN2 1).trans rfl, (Lib.cell_of_heap hN2 2).trans rfl, (Lib.cell_of_heap hN2 3).trans rfl, (Lib.cell_of_heap hN2 4).trans rfl, (Lib.cell_of_heap hN2 5).trans rfl, (Lib.cell_of_heap hN2 6).trans rfl, (Lib.cell_of_heap hU2 0).trans rfl, (Lib.cell_of_heap hU2 1).trans rfl, (Lib.cell_of_heap hU2 2).trans rfl, (Lib.cell_of_heap hU2 3).trans rfl, (Lib.cell_of_heap hU2 4).trans rfl, (Lib.cell_of_heap hU2 5).trans rfl, (Lib.cell_of_heap hU2 6).trans rfl, (Lib.cell_of_heap hU2 7).trans rfl, (Lib.cell_of_heap hU2 8).trans rfl, (Lib.cell_of_heap hU2 9).trans rfl, (Lib.cell_of_heap hU2 10).trans rfl, (Lib.cell_of_heap hU2 11).trans rfl, (Lib.cell_of_heap hU2 12).trans rfl, (Lib.cell_of_heap hU2 13).trans rfl, (Lib.cell_of_heap hU2 14).trans rfl, q0, q1, q2, q3, q4, q5, q6⟩
  have HD0 : Hid (∀ W, Below W3.heap.size W3 W → Calls Tryd.prog 30 #[.agg #[.slice a1 n1 c1, .slice a2 n2 c2, .slice a3 n3 c3, .string G.outer, .string G.power, .string G.opn, .string G.cls, .string G.left, .string G.right, .string G.minus, .string G.quote, .bool G.trains, .bool false, .bool G.square, .string G.right], .agg (sv (ki0) (op0) nm0 (x0) (y0) (z0) (ps0))] W fun e w' => e = .returned (.string ⟨T0.toArray⟩) ∧ Below W3.heap.size W3 w') := hide fun W h => (HC0.out W (HB23.out W h) (by omega)).mono (by rintro e w' ⟨rfl, h2⟩; exact ⟨rfl, h.trans (h2.mono h.size)⟩)
  have HD : Hid (Below W3.heap.size W3 W3.drew) := hide ((Below.refl _ _).drew)
  have l1 : ¬ (9223372036854775807 < G.opn.size + 1) := by omega
  have l2 : ¬ (9223372036854775807 < G.opn.size + 1 + T0.length) := by omega
  have l3 : ¬ (9223372036854775807 < G.opn.size + 1 + T0.length + 1) := by omega
  have l4 : ¬ (9223372036854775807 < G.opn.size + 1 + T0.length + 1 + G.cls.size) := by omega
  have t0 : W2.cell? ⟨w.heap.size, 0, none⟩ = some (.slice a1 n1 c1) := (Lib.cell_of_heap hA 0).trans rfl
  have t1 : W2.cell? ⟨w.heap.size, 1, none⟩ = some (.slice a2 n2 c2) := (Lib.cell_of_heap hA 1).trans rfl
  have t2 : W2.cell? ⟨w.heap.size, 2, none⟩ = some (.slice a3 n3 c3) := (Lib.cell_of_heap hA 2).trans rfl
  have t3 : W2.cell? ⟨w.heap.size, 3, none⟩ = some (.string G.outer) := (Lib.cell_of_heap hA 3).trans rfl
  have t4 : W2.cell? ⟨w.heap.size, 4, none⟩ = some (.string G.power) := (Lib.cell_of_heap hA 4).trans rfl
  have t5 : W2.cell? ⟨w.heap.size, 5, none⟩ = some (.string G.opn) := (Lib.cell_of_heap hA 5).trans rfl
  have t6 : W2.cell? ⟨w.heap.size, 6, none⟩ = some (.string G.cls) := (Lib.cell_of_heap hA 6).trans rfl
  have t7 : W2.cell? ⟨w.heap.size, 7, none⟩ = some (.string G.left) := (Lib.cell_of_heap hA 7).trans rfl
  have t8 : W2.cell? ⟨w.heap.size, 8, none⟩ = some (.string G.right) := (Lib.cell_of_heap hA 8).trans rfl
  have t9 : W2.cell? ⟨w.heap.size, 9, none⟩ = some (.string G.minus) := (Lib.cell_of_heap hA 9).trans rfl
  have t10 : W2.cell? ⟨w.heap.size, 10, none⟩ = some (.string G.quote) := (Lib.cell_of_heap hA 10).trans rfl
  have t11 : W2.cell? ⟨w.heap.size, 11, none⟩ = some (.bool G.trains) := (Lib.cell_of_heap hA 11).trans rfl
  have t12 : W2.cell? ⟨w.heap.size, 12, none⟩ = some (.bool false) := (Lib.cell_of_heap hA 12).trans rfl
  have t13 : W2.cell? ⟨w.heap.size, 13, none⟩ = some (.bool G.square) := (Lib.cell_of_heap hA 13).trans rfl
  have t14 : W2.cell? ⟨w.heap.size, 14, none⟩ = some (.string rt) := (Lib.cell_of_heap hA 14).trans rfl
  have n0 : W2.cell? ⟨w.heap.size + 1, 0, none⟩ = some (.int .i64 22) := (Lib.cell_of_heap hNb 0).trans rfl
  have HW3 := hide hW3
  clear hW3
  go_enter Tryd.func44, Tryd.ntmps44
  go_upto_region 1 with fail
  try rw [hW2]
  clear hW2 hA hNb hb2 HC0 hs0 hA3 hN3 hps hps2 hC hb3 s3
  go_upto_region 20 with fail
  try rw [HW3.out]
  clear t0 t1 t2 t3 t4 t5 t6 t7 t8 t9 t10 t11 t12 t13 t14 n0 HW3
  go_region_held3 (fun W => Below W3.heap.size W3 W ∧ W.cell? ⟨w.heap.size, 0, none⟩ = some (.slice a1 n1 c1) ∧ W.cell? ⟨w.heap.size, 1, none⟩ = some (.slice a2 n2 c2) ∧ W.cell? ⟨w.heap.size, 2, none⟩ = some (.slice a3 n3 c3) ∧ W.cell? ⟨w.heap.size, 3, none⟩ = some (.string G.outer) ∧ W.cell? ⟨w.heap.size, 4, none⟩ = some (.string G.power) ∧ W.cell? ⟨w.heap.size, 5, none⟩ = some (.string G.opn) ∧ W.cell? ⟨w.heap.size, 6, none⟩ = some (.string G.cls) ∧ W.cell? ⟨w.heap.size, 7, none⟩ = some (.string G.left) ∧ W.cell? ⟨w.heap.size, 8, none⟩ = some (.string G.right) ∧ W.cell? ⟨w.heap.size, 9, none⟩ = some (.string G.minus) ∧ W.cell? ⟨w.heap.size, 10, none⟩ = some (.string G.quote) ∧ W.cell? ⟨w.heap.size, 11, none⟩ = some (.bool G.trains) ∧ W.cell? ⟨w.heap.size, 12, none⟩ = some (.bool false) ∧ W.cell? ⟨w.heap.size, 13, none⟩ = some (.bool G.square) ∧ W.cell? ⟨w.heap.size, 14, none⟩ = some (.string rt) ∧ W.cell? ⟨w.heap.size + 1, 0, none⟩ = some (.int .i64 22) ∧ W.cell? ⟨w.heap.size + 1, 1, none⟩ = some (.int .i64 o) ∧ W.cell? ⟨w.heap.size + 1, 2, none⟩ = some (.string nm) ∧ W.cell? ⟨w.heap.size + 1, 3, none⟩ = some (v1) ∧ W.cell? ⟨w.heap.size + 1, 4, none⟩ = some (v2) ∧ W.cell? ⟨w.heap.size + 1, 5, none⟩ = some (.slice (some ⟨b, off, none⟩) 1 ck) ∧ W.cell? ⟨w.heap.size + 1, 6, none⟩ = some (.int .i64 ps) ∧ W.cell? ⟨w.heap.size + 2, 0, none⟩ = some (.slice a1 n1 c1) ∧ W.cell? ⟨w.heap.size + 2, 1, none⟩ = some (.slice a2 n2 c2) ∧ W.cell? ⟨w.heap.size + 2, 2, none⟩ = some (.slice a3 n3 c3) ∧ W.cell? ⟨w.heap.size + 2, 3, none⟩ = some (.string G.outer) ∧ W.cell? ⟨w.heap.size + 2, 4, none⟩ = some (.string G.power) ∧ W.cell? ⟨w.heap.size + 2, 5, none⟩ = some (.string G.opn) ∧ W.cell? ⟨w.heap.size + 2, 6, none⟩ = some (.string G.cls) ∧ W.cell? ⟨w.heap.size + 2, 7, none⟩ = some (.string G.left) ∧ W.cell? ⟨w.heap.size + 2, 8, none⟩ = some (.string G.right) ∧ W.cell? ⟨w.heap.size + 2, 9, none⟩ = some (.string G.minus) ∧ W.cell? ⟨w.heap.size + 2, 10, none⟩ = some (.string G.quote) ∧ W.cell? ⟨w.heap.size + 2, 11, none⟩ = some (.bool G.trains) ∧ W.cell? ⟨w.heap.size + 2, 12, none⟩ = some (.bool false) ∧ W.cell? ⟨w.heap.size + 2, 13, none⟩ = some (.bool G.square) ∧ W.cell? ⟨w.heap.size + 2, 14, none⟩ = some (.string G.right) ∧ W.cell? ⟨b, off, none⟩ = some (.int .i64 ki0) ∧ W.cell? ⟨b, off + 1, none⟩ = some (.int .i64 op0) ∧ W.cell? ⟨b, off + 2, none⟩ = some (.string nm0) ∧ W.cell? ⟨b, off + 3, none⟩ = some (x0) ∧ W.cell? ⟨b, off + 4, none⟩ = some (y0) ∧ W.cell? ⟨b, off + 5, none⟩ = some (z0) ∧ W.cell? ⟨b, off + 6, none⟩ = some (.int .i64 ps0)) (first | with_reducible exact KS.out _ HD.out | with_reducible exact KS.out _ (by with_reducible assumption)) (first | (go_at_call 30; with_reducible refine (HD0.out _ (by first | with_reducible exact HD.out | with_reducible assumption)).mono ?_; rintro e wq ⟨rfl, hbq⟩))
  go_wp2
  go_ret
  refine ⟨?_, HB23.out _ (by with_reducible assumption)⟩
  show Ending.returned (Value.string (G.opn ++ (⟨#[32]⟩ : ByteArray) ++ ⟨T0.toArray⟩ ++ (⟨#[32]⟩ : ByteArray) ++ G.cls)) = _
  exact congrArg (fun s => Ending.returned (Value.string s)) (catB G.opn T0 G.cls)
set_option maxHeartbeats 4000000 in
theorem rf23t {n m : Nat} {w0 : World} {G : Gs} (AM : Rm G) (IE : RE n m w0 G) (rt : ByteArray) (w : World) (x : Nd) (v : Value) (hx : NdIn (m + 1) n 0 w0 x v) (hk : okN (m + 1) true x) (hs : sndA x) (hb : Below w0.heap.size w0 w) (hK : x.kind = 23) (hlo : G.lone = true) (hl : (fnT G (TX G m) x).length ≤ 140737488355328) :
    Calls Tryd.prog 44 #[tV G rt, v] w fun e w' => e = .returned (.string (str (fnT G (TX G m) x))) ∧ Below w.heap.size w w' := by
  obtain ⟨v1, v2, ak, ck, rfl, hv1, hA0, hkid⟩ := nd_kids hx
  have hkl : x.kids.length = 1 := by have := hk.1; rw [hK] at this; unfold arK at this; simp at this; first | omega | (rw [this]; rfl)
  have hT : fnT G (TX G m) x = bL G.opn ++ ([32] ++ (TX G m).E G.right (kp x 0)) ++ ([32] ++ bL G.cls) := by simp [fnT, hK, hlo]
  rw [hT] at hl ⊢
  obtain ⟨b, off, x0, y0, z0, rfl, hn0, hs0⟩ := hkid 0 (by omega)
  have ok0 := hk.2.2.2 0 (by omega)
  rw [show fnP x.kind 0 = false by rw [hK]; rfl] at ok0
  have HC0 := hide (fun W (hW : Below w.heap.size w W) hl => IE G.right W (kp x 0) _ hn0 ok0 (hs.kid (by omega)) (hb.trans (hW.mono hb.size)) hl)
  rw [hK, hkl]
  have hm := AM.hm
  have hsl := AM.hsl
  obtain ⟨T0, hT0⟩ : ∃ T0, (TX G m).E G.right (kp x 0) = T0 := ⟨_, rfl⟩
  rw [hT0] at HC0 hl ⊢
  clear hx hk hs IE hkid hT hkl hK ok0 hn0 hT0 AM
  generalize x.op = o at *
  generalize x.name = nm at *
  generalize x.pos = ps at *
  generalize (kp x 0).kind = ki0 at *
  generalize (kp x 0).op = op0 at *
  generalize (kp x 0).name = nm0 at *
  generalize (kp x 0).pos = ps0 at *
  have hps : G.opn.data.toList.length = G.opn.size := by simp
  have hps2 : G.cls.data.toList.length = G.cls.size := by simp
  simp only [bL, List.length_append, List.length_cons, List.length_nil] at hl
  unfold tV at HC0 ⊢
  rw [hlo] at HC0 ⊢
  clear hlo
  generalize G.s1 = S1 at *
  generalize G.s2 = S2 at *
  generalize G.s3 = S3 at *
  obtain ⟨a1, n1, c1, a2, n2, c2, a3, n3, c3, rfl, rfl, rfl⟩ := hsl
  obtain ⟨W2, hW2⟩ : ∃ W2, (w.alloc (.cells #[.slice a1 n1 c1, .slice a2 n2 c2, .slice a3 n3 c3, .string G.outer, .string G.power, .string G.opn, .string G.cls, .string G.left, .string G.right, .string G.minus, .string G.quote, .bool G.trains, .bool true, .bool G.square, .string rt] 66)).alloc (.cells (sv (23) (o) nm (v1) (v2) (.slice (some ⟨b, off, none⟩) 1 ck) (ps)) 34) = W2 := ⟨_, rfl⟩
  have hb2 : Below w.heap.size w W2 := by rw [← hW2]; exact two_allocs _ _ _
  have s2 : W2.heap.size = w.heap.size + 2 := by rw [← hW2]; simp
  have hA : W2.heap[w.heap.size]? = some (.cells #[.slice a1 n1 c1, .slice a2 n2 c2, .slice a3 n3 c3, .string G.outer, .string G.power, .string G.opn, .string G.cls, .string G.left, .string G.right, .string G.minus, .string G.quote, .bool G.trains, .bool true, .bool G.square, .string rt] 66 (0, 0)) := by
    rw [← hW2]; exact (Lib.alloc_old _ _ w.heap.size (by simp)).trans (heap_alloc_new w _)
  have hNb : W2.heap[w.heap.size + 1]? = some (.cells (sv (23) (o) nm (v1) (v2) (.slice (some ⟨b, off, none⟩) 1 ck) (ps)) 34 (0, 0)) := by
    have h := heap_alloc_new (w.alloc (.cells #[.slice a1 n1 c1, .slice a2 n2 c2, .slice a3 n3 c3, .string G.outer, .string G.power, .string G.opn, .string G.cls, .string G.left, .string G.right, .string G.minus, .string G.quote, .bool G.trains, .bool true, .bool G.square, .string rt] 66)) (.cells (sv (23) (o) nm (v1) (v2) (.slice (some ⟨b, off, none⟩) 1 ck) (ps)) 34)
    have e : (w.alloc (.cells #[.slice a1 n1 c1, .slice a2 n2 c2, .slice a3 n3 c3, .string G.outer, .string G.power, .string G.opn, .string G.cls, .string G.left, .string G.right, .string G.minus, .string G.quote, .bool G.trains, .bool true, .bool G.square, .string rt] 66)).heap.size = w.heap.size + 1 := by simp
    rw [e] at h
    rw [← hW2]; exact h
  have HB22 : Hid (∀ W, Below W2.heap.size W2 W → Below w.heap.size w W) := hide fun W h => hb2.trans (h.mono hb2.size)
  obtain ⟨W3, hW3⟩ : ∃ W3, W2.alloc (.cells #[.slice a1 n1 c1, .slice a2 n2 c2, .slice a3 n3 c3, .string G.outer, .string G.power, .string G.opn, .string G.cls, .string G.left, .string G.right, .string G.minus, .string G.quote, .bool G.trains, .bool true, .bool G.square, .string G.right] 66) = W3 := ⟨_, rfl⟩
  have hb3 : Below W2.heap.size W2 W3 := by rw [← hW3]; exact alloc_one _ _
  have s3 : W3.heap.size = w.heap.size + 3 := by rw [← hW3]; simp [s2]
  have hC : W3.heap[w.heap.size + 2]? = some (.cells #[.slice a1 n1 c1, .slice a2 n2 c2, .slice a3 n3 c3, .string G.outer, .string G.power, .string G.opn, .string G.cls, .string G.left, .string G.right, .string G.minus, .string G.quote, .bool G.trains, .bool true, .bool G.square, .string G.right] 66 (0, 0)) := by rw [← hW3, ← s2]; exact heap_alloc_new W2 _
  have hA3 : W3.heap[w.heap.size]? = _ := (hb3.block w.heap.size (by omega)).trans hA
  have hN3 : W3.heap[w.heap.size + 1]? = _ := (hb3.block (w.heap.size + 1) (by omega)).trans hNb
  have HB23 : Hid (∀ W, Below W3.heap.size W3 W → Below w.heap.size w W) := hide fun W h => HB22.out W (hb3.trans (h.mono hb3.size))
  have KS : Hid (∀ W, Below W3.heap.size W3 W → Below W3.heap.size W3 W ∧ W.cell? ⟨w.heap.size, 0, none⟩ = some (.slice a1 n1 c1) ∧ W.cell? ⟨w.heap.size, 1, none⟩ = some (.slice a2 n2 c2) ∧ W.cell? ⟨w.heap.size, 2, none⟩ = some (.slice a3 n3 c3) ∧ W.cell? ⟨w.heap.size, 3, none⟩ = some (.string G.outer) ∧ W.cell? ⟨w.heap.size, 4, none⟩ = some (.string G.power) ∧ W.cell? ⟨w.heap.size, 5, none⟩ = some (.string G.opn) ∧ W.cell? ⟨w.heap.size, 6, none⟩ = some (.string G.cls) ∧ W.cell? ⟨w.heap.size, 7, none⟩ = some (.string G.left) ∧ W.cell? ⟨w.heap.size, 8, none⟩ = some (.string G.right) ∧ W.cell? ⟨w.heap.size, 9, none⟩ = some (.string G.minus) ∧ W.cell? ⟨w.heap.size, 10, none⟩ = some (.string G.quote) ∧ W.cell? ⟨w.heap.size, 11, none⟩ = some (.bool G.trains) ∧ W.cell? ⟨w.heap.size, 12, none⟩ = some (.bool true) ∧ W.cell? ⟨w.heap.size, 13, none⟩ = some (.bool G.square) ∧ W.cell? ⟨w.heap.size, 14, none⟩ = some (.string rt) ∧ W.cell? ⟨w.heap.size + 1, 0, none⟩ = some (.int .i64 23) ∧ W.cell? ⟨w.heap.size + 1, 1, none⟩ = some (.int .i64 o) ∧ W.cell? ⟨w.heap.size + 1, 2, none⟩ = some (.string nm) ∧ W.cell? ⟨w.heap.size + 1, 3, none⟩ = some (v1) ∧ W.cell? ⟨w.heap.size + 1, 4, none⟩ = some (v2) ∧ W.cell? ⟨w.heap.size + 1, 5, none⟩ = some (.slice (some ⟨b, off, none⟩) 1 ck) ∧ W.cell? ⟨w.heap.size + 1, 6, none⟩ = some (.int .i64 ps) ∧ W.cell? ⟨w.heap.size + 2, 0, none⟩ = some (.slice a1 n1 c1) ∧ W.cell? ⟨w.heap.size + 2, 1, none⟩ = some (.slice a2 n2 c2) ∧ W.cell? ⟨w.heap.size + 2, 2, none⟩ = some (.slice a3 n3 c3) ∧ W.cell? ⟨w.heap.size + 2, 3, none⟩ = some (.string G.outer) ∧ W.cell? ⟨w.heap.size + 2, 4, none⟩ = some (.string G.power) ∧ W.cell? ⟨w.heap.size + 2, 5, none⟩ = some (.string G.opn) ∧ W.cell? ⟨w.heap.size + 2, 6, none⟩ = some (.string G.cls) ∧ W.cell? ⟨w.heap.size + 2, 7, none⟩ = some (.string G.left) ∧ W.cell? ⟨w.heap.size + 2, 8, none⟩ = some (.string G.right) ∧ W.cell? ⟨w.heap.size + 2, 9, none⟩ = some (.string G.minus) ∧ W.cell? ⟨w.heap.size + 2, 10, none⟩ = some (.string G.quote) ∧ W.cell? ⟨w.heap.size + 2, 11, none⟩ = some (.bool G.trains) ∧ W.cell? ⟨w.heap.size + 2, 12, none⟩ = some (.bool true) ∧ W.cell? ⟨w.heap.size + 2, 13, none⟩ = some (.bool G.square) ∧ W.cell? ⟨w.heap.size + 2, 14, none⟩ = some (.string G.right) ∧ W.cell? ⟨b, off, none⟩ = some (.int .i64 ki0) ∧ W.cell? ⟨b, off + 1, none⟩ = some (.int .i64 op0) ∧ W.cell? ⟨b, off + 2, none⟩ = some (.string nm0) ∧ W.cell? ⟨b, off + 3, none⟩ = some (x0) ∧ W.cell? ⟨b, off + 4, none⟩ = some (y0) ∧ W.cell? ⟨b, off + 5, none⟩ = some (z0) ∧ W.cell? ⟨b, off + 6, none⟩ = some (.int .i64 ps0)) := hide fun W h => by
    have hA2 := (h.block w.heap.size (by omega)).trans hA3
    have hN2 := (h.block (w.heap.size + 1) (by omega)).trans hN3
    have hU2 := (h.block (w.heap.size + 2) (by omega)).trans hC
    obtain ⟨q0, q1, q2, q3, q4, q5, q6⟩ := hs0 W (hb.trans ((HB23.out W h).mono hb.size))
    exact ⟨h, (Lib.cell_of_heap hA2 0).trans rfl, (Lib.cell_of_heap hA2 1).trans rfl, (Lib.cell_of_heap hA2 2).trans rfl, (Lib.cell_of_heap hA2 3).trans rfl, (Lib.cell_of_heap hA2 4).trans rfl, (Lib.cell_of_heap hA2 5).trans rfl, (Lib.cell_of_heap hA2 6).trans rfl, (Lib.cell_of_heap hA2 7).trans rfl, (Lib.cell_of_heap hA2 8).trans rfl, (Lib.cell_of_heap hA2 9).trans rfl, (Lib.cell_of_heap hA2 10).trans rfl, (Lib.cell_of_heap hA2 11).trans rfl, (Lib.cell_of_heap hA2 12).trans rfl, (Lib.cell_of_heap hA2 13).trans rfl, (Lib.cell_of_heap hA2 14).trans rfl, (Lib.cell_of_heap hN2 0).trans rfl, (Lib.cell_of_heap hN2 1).trans rfl, (Lib.cell_of_heap hN2 2).trans rfl, (Lib.cell_of_heap hN2 3).trans rfl, (Lib.cell_of_heap hN2 4).trans rfl, (Lib.cell_of_heap hN2 5).trans rfl, (Lib.cell_of_heap hN2 6).trans rfl, (Lib.cell_of_heap hU2 0).trans rfl, (Lib.cell_of_heap hU2 1).trans rfl, (Lib.cell_of_heap hU2 2).trans rfl, (Lib.cell_of_heap hU2 3).trans rfl, (Lib.cell_of_heap hU2 4).trans rfl, (Lib.cell_of_heap hU2 5).trans rfl, (Lib.cell_of_heap hU2 6).trans rfl, (Lib.cell_of_heap hU2 7).trans rfl, (Lib.cell_of_heap hU2 8).trans rfl, (Lib.cell_of_heap hU2 9).trans rfl, (Lib.cell_of_heap hU2 10).trans rfl, (Lib.cell_of_heap hU2 11).trans rfl, (Lib.cell_of_heap hU2 12).trans rfl, (Lib.cell_of_heap hU2 13).trans rfl, (Lib.cell_of_heap hU2 14).trans rfl, q0, q1, q2, q3, q4, q5, q6⟩
  have HD0 : Hid (∀ W, Below W3.heap.size W3 W → Calls Tryd.prog 30 #[.agg #[.slice a1 n1 c1, .slice a2 n2 c2, .slice a3 n3 c3, .string G.outer, .string G.power, .string G.opn, .string G.cls, .string G.left, .string G.right, .string G.minus, .string G.quote, .bool G.trains, .bool true, .bool G.square, .string G.right], .agg (sv (ki0) (op0) nm0 (x0) (y0) (z0) (ps0))] W fun e w' => e = .returned (.string ⟨T0.toArray⟩) ∧ Below W3.heap.size W3 w') := hide fun W h => (HC0.out W (HB23.out W h) (by omega)).mono (by rintro e w' ⟨rfl, h2⟩; exact ⟨rfl, h.trans (h2.mono h.size)⟩)
  have HD : Hid (Below W3.heap.size W3 W3.drew) := hide ((Below.refl _ _).drew)
  have l1 : ¬ (9223372036854775807 < G.opn.size + 1) := by omega
  have l2 : ¬ (9223372036854775807 < G.opn.size + 1 + T0.length) := by omega
  have l3 : ¬ (9223372036854775807 < G.opn.size + 1 + T0.length + 1) := by omega
  have l4 : ¬ (9223372036854775807 < G.opn.size + 1 + T0.length + 1 + G.cls.size) := by omega
  have t0 : W2.cell? ⟨w.heap.size, 0, none⟩ = some (.slice a1 n1 c1) := (Lib.cell_of_heap hA 0).trans rfl
  have t1 : W2.cell? ⟨w.heap.size, 1, none⟩ = some (.slice a2 n2 c2) := (Lib.cell_of_heap hA 1).trans rfl
  have t2 : W2.cell? ⟨w.heap.size, 2, none⟩ = some (.slice a3 n3 c3) := (Lib.cell_of_heap hA 2).trans rfl
  have t3 : W2.cell? ⟨w.heap.size, 3, none⟩ = some (.string G.outer) := (Lib.cell_of_heap hA 3).trans rfl
  have t4 : W2.cell? ⟨w.heap.size, 4, none⟩ = some (.string G.power) := (Lib.cell_of_heap hA 4).trans rfl
  have t5 : W2.cell? ⟨w.heap.size, 5, none⟩ = some (.string G.opn) := (Lib.cell_of_heap hA 5).trans rfl
  have t6 : W2.cell? ⟨w.heap.size, 6, none⟩ = some (.string G.cls) := (Lib.cell_of_heap hA 6).trans rfl
  have t7 : W2.cell? ⟨w.heap.size, 7, none⟩ = some (.string G.left) := (Lib.cell_of_heap hA 7).trans rfl
  have t8 : W2.cell? ⟨w.heap.size, 8, none⟩ = some (.string G.right) := (Lib.cell_of_heap hA 8).trans rfl
  have t9 : W2.cell? ⟨w.heap.size, 9, none⟩ = some (.string G.minus) := (Lib.cell_of_heap hA 9).trans rfl
  have t10 : W2.cell? ⟨w.heap.size, 10, none⟩ = some (.string G.quote) := (Lib.cell_of_heap hA 10).trans rfl
  have t11 : W2.cell? ⟨w.heap.size, 11, none⟩ = some (.bool G.trains) := (Lib.cell_of_heap hA 11).trans rfl
  have t12 : W2.cell? ⟨w.heap.size, 12, none⟩ = some (.bool true) := (Lib.cell_of_heap hA 12).trans rfl
  have t13 : W2.cell? ⟨w.heap.size, 13, none⟩ = some (.bool G.square) := (Lib.cell_of_heap hA 13).trans rfl
  have t14 : W2.cell? ⟨w.heap.size, 14, none⟩ = some (.string rt) := (Lib.cell_of_heap hA 14).trans rfl
  have n0 : W2.cell? ⟨w.heap.size + 1, 0, none⟩ = some (.int .i64 23) := (Lib.cell_of_heap hNb 0).trans rfl
  have HW3 := hide hW3
  clear hW3
  go_enter Tryd.func44, Tryd.ntmps44
  go_upto_region 1 with fail
  try rw [hW2]
  clear hW2 hA hNb hb2 HC0 hs0 hA3 hN3 hps hps2 hC hb3 s3
  go_upto_region 20 with fail
  try rw [HW3.out]
  clear t0 t1 t2 t3 t4 t5 t6 t7 t8 t9 t10 t11 t12 t13 t14 n0 HW3
  go_region_held3 (fun W => Below W3.heap.size W3 W ∧ W.cell? ⟨w.heap.size, 0, none⟩ = some (.slice a1 n1 c1) ∧ W.cell? ⟨w.heap.size, 1, none⟩ = some (.slice a2 n2 c2) ∧ W.cell? ⟨w.heap.size, 2, none⟩ = some (.slice a3 n3 c3) ∧ W.cell? ⟨w.heap.size, 3, none⟩ = some (.string G.outer) ∧ W.cell? ⟨w.heap.size, 4, none⟩ = some (.string G.power) ∧ W.cell? ⟨w.heap.size, 5, none⟩ = some (.string G.opn) ∧ W.cell? ⟨w.heap.size, 6, none⟩ = some (.string G.cls) ∧ W.cell? ⟨w.heap.size, 7, none⟩ = some (.string G.left) ∧ W.cell? ⟨w.heap.size, 8, none⟩ = some (.string G.right) ∧ W.cell? ⟨w.heap.size, 9, none⟩ = some (.string G.minus) ∧ W.cell? ⟨w.heap.size, 10, none⟩ = some (.string G.quote) ∧ W.cell? ⟨w.heap.size, 11, none⟩ = some (.bool G.trains) ∧ W.cell? ⟨w.heap.size, 12, none⟩ = some (.bool true) ∧ W.cell? ⟨w.heap.size, 13, none⟩ = some (.bool G.square) ∧ W.cell? ⟨w.heap.size, 14, none⟩ = some (.string rt) ∧ W.cell? ⟨w.heap.size + 1, 0, none⟩ = some (.int .i64 23) ∧ W.cell? ⟨w.heap.size + 1, 1, none⟩ = some (.int .i64 o) ∧ W.cell? ⟨w.heap.size + 1, 2, none⟩ = some (.string nm) ∧ W.cell? ⟨w.heap.size + 1, 3, none⟩ = some (v1) ∧ W.cell? ⟨w.heap.size + 1, 4, none⟩ = some (v2) ∧ W.cell? ⟨w.heap.size + 1, 5, none⟩ = some (.slice (some ⟨b, off, none⟩) 1 ck) ∧ W.cell? ⟨w.heap.size + 1, 6, none⟩ = some (.int .i64 ps) ∧ W.cell? ⟨w.heap.size + 2, 0, none⟩ = some (.slice a1 n1 c1) ∧ W.cell? ⟨w.heap.size + 2, 1, none⟩ = some (.slice a2 n2 c2) ∧ W.cell? ⟨w.heap.size + 2, 2, none⟩ = some (.slice a3 n3 c3) ∧ W.cell? ⟨w.heap.size + 2, 3, none⟩ = some (.string G.outer) ∧ W.cell? ⟨w.heap.size + 2, 4, none⟩ = some (.string G.power) ∧ W.cell? ⟨w.heap.size + 2, 5, none⟩ = some (.string G.opn) ∧ W.cell? ⟨w.heap.size + 2, 6, none⟩ = some (.string G.cls) ∧ W.cell? ⟨w.heap.size + 2, 7, none⟩ = some (.string G.left) ∧ W.cell? ⟨w.heap.size + 2, 8, none⟩ = some (.string G.right) ∧ W.cell? ⟨w.heap.size + 2, 9, none⟩ = some (.string G.minus) ∧ W.cell? ⟨w.heap.size + 2, 10, none⟩ = some (.string G.quote) ∧ W.cell? ⟨w.heap.size + 2, 11, none⟩ = some (.bool G.trains) ∧ W.cell? ⟨w.heap.size + 2, 12, none⟩ = some (.bool true) ∧ W.cell? ⟨w.heap.size + 2, 13, none⟩ = some (.bool G.square) ∧ W.cell? ⟨w.heap.size + 2, 14, none⟩ = some (.string G.right) ∧ W.cell? ⟨b, off, none⟩ = some (.int .i64 ki0) ∧ W.cell? ⟨b, off + 1, none⟩ = some (.int .i64 op0) ∧ W.cell? ⟨b, off + 2, none⟩ = some (.string nm0) ∧ W.cell? ⟨b, off + 3, none⟩ = some (x0) ∧ W.cell? ⟨b, off + 4, none⟩ = some (y0) ∧ W.cell? ⟨b, off + 5, none⟩ = some (z0) ∧ W.cell? ⟨b, off + 6, none⟩ = some (.int .i64 ps0)) (first | with_reducible exact KS.out _ HD.out | with_reducible exact KS.out _ (by with_reducible assumption)) (first | (go_at_call 30; with_reducible refine (HD0.out _ (by first | with_reducible exact HD.out | with_reducible assumption)).mono ?_; rintro e wq ⟨rfl, hbq⟩))
  go_wp2
  go_ret
  refine ⟨?_, HB23.out _ (by with_reducible assumption)⟩
  show Ending.returned (Value.string (G.opn ++ (⟨#[32]⟩ : ByteArray) ++ ⟨T0.toArray⟩ ++ (⟨#[32]⟩ : ByteArray) ++ G.cls)) = _
  exact congrArg (fun s => Ending.returned (Value.string s)) (catB G.opn T0 G.cls)
set_option maxHeartbeats 4000000 in
theorem rf23f {n m : Nat} {w0 : World} {G : Gs} (AM : Rm G) (IE : RE n m w0 G) (rt : ByteArray) (w : World) (x : Nd) (v : Value) (hx : NdIn (m + 1) n 0 w0 x v) (hk : okN (m + 1) true x) (hs : sndA x) (hb : Below w0.heap.size w0 w) (hK : x.kind = 23) (hlo : G.lone = false) (hl : (fnT G (TX G m) x).length ≤ 140737488355328) :
    Calls Tryd.prog 44 #[tV G rt, v] w fun e w' => e = .returned (.string (str (fnT G (TX G m) x))) ∧ Below w.heap.size w w' := by
  obtain ⟨v1, v2, ak, ck, rfl, hv1, hA0, hkid⟩ := nd_kids hx
  have hkl : x.kids.length = 1 := by have := hk.1; rw [hK] at this; unfold arK at this; simp at this; first | omega | (rw [this]; rfl)
  have hT : fnT G (TX G m) x = bL G.opn ++ ([32] ++ (TX G m).E G.right (kp x 0)) ++ ([32] ++ bL G.cls) := by simp [fnT, hK, hlo]
  rw [hT] at hl ⊢
  obtain ⟨b, off, x0, y0, z0, rfl, hn0, hs0⟩ := hkid 0 (by omega)
  have ok0 := hk.2.2.2 0 (by omega)
  rw [show fnP x.kind 0 = false by rw [hK]; rfl] at ok0
  have HC0 := hide (fun W (hW : Below w.heap.size w W) hl => IE G.right W (kp x 0) _ hn0 ok0 (hs.kid (by omega)) (hb.trans (hW.mono hb.size)) hl)
  rw [hK, hkl]
  have hm := AM.hm
  have hsl := AM.hsl
  obtain ⟨T0, hT0⟩ : ∃ T0, (TX G m).E G.right (kp x 0) = T0 := ⟨_, rfl⟩
  rw [hT0] at HC0 hl ⊢
  clear hx hk hs IE hkid hT hkl hK ok0 hn0 hT0 AM
  generalize x.op = o at *
  generalize x.name = nm at *
  generalize x.pos = ps at *
  generalize (kp x 0).kind = ki0 at *
  generalize (kp x 0).op = op0 at *
  generalize (kp x 0).name = nm0 at *
  generalize (kp x 0).pos = ps0 at *
  have hps : G.opn.data.toList.length = G.opn.size := by simp
  have hps2 : G.cls.data.toList.length = G.cls.size := by simp
  simp only [bL, List.length_append, List.length_cons, List.length_nil] at hl
  unfold tV at HC0 ⊢
  rw [hlo] at HC0 ⊢
  clear hlo
  generalize G.s1 = S1 at *
  generalize G.s2 = S2 at *
  generalize G.s3 = S3 at *
  obtain ⟨a1, n1, c1, a2, n2, c2, a3, n3, c3, rfl, rfl, rfl⟩ := hsl
  obtain ⟨W2, hW2⟩ : ∃ W2, (w.alloc (.cells #[.slice a1 n1 c1, .slice a2 n2 c2, .slice a3 n3 c3, .string G.outer, .string G.power, .string G.opn, .string G.cls, .string G.left, .string G.right, .string G.minus, .string G.quote, .bool G.trains, .bool false, .bool G.square, .string rt] 66)).alloc (.cells (sv (23) (o) nm (v1) (v2) (.slice (some ⟨b, off, none⟩) 1 ck) (ps)) 34) = W2 := ⟨_, rfl⟩
  have hb2 : Below w.heap.size w W2 := by rw [← hW2]; exact two_allocs _ _ _
  have s2 : W2.heap.size = w.heap.size + 2 := by rw [← hW2]; simp
  have hA : W2.heap[w.heap.size]? = some (.cells #[.slice a1 n1 c1, .slice a2 n2 c2, .slice a3 n3 c3, .string G.outer, .string G.power, .string G.opn, .string G.cls, .string G.left, .string G.right, .string G.minus, .string G.quote, .bool G.trains, .bool false, .bool G.square, .string rt] 66 (0, 0)) := by
    rw [← hW2]; exact (Lib.alloc_old _ _ w.heap.size (by simp)).trans (heap_alloc_new w _)
  have hNb : W2.heap[w.heap.size + 1]? = some (.cells (sv (23) (o) nm (v1) (v2) (.slice (some ⟨b, off, none⟩) 1 ck) (ps)) 34 (0, 0)) := by
    have h := heap_alloc_new (w.alloc (.cells #[.slice a1 n1 c1, .slice a2 n2 c2, .slice a3 n3 c3, .string G.outer, .string G.power, .string G.opn, .string G.cls, .string G.left, .string G.right, .string G.minus, .string G.quote, .bool G.trains, .bool false, .bool G.square, .string rt] 66)) (.cells (sv (23) (o) nm (v1) (v2) (.slice (some ⟨b, off, none⟩) 1 ck) (ps)) 34)
    have e : (w.alloc (.cells #[.slice a1 n1 c1, .slice a2 n2 c2, .slice a3 n3 c3, .string G.outer, .string G.power, .string G.opn, .string G.cls, .string G.left, .string G.right, .string G.minus, .string G.quote, .bool G.trains, .bool false, .bool G.square, .string rt] 66)).heap.size = w.heap.size + 1 := by simp
    rw [e] at h
    rw [← hW2]; exact h
  have HB22 : Hid (∀ W, Below W2.heap.size W2 W → Below w.heap.size w W) := hide fun W h => hb2.trans (h.mono hb2.size)
  obtain ⟨W3, hW3⟩ : ∃ W3, W2.alloc (.cells #[.slice a1 n1 c1, .slice a2 n2 c2, .slice a3 n3 c3, .string G.outer, .string G.power, .string G.opn, .string G.cls, .string G.left, .string G.right, .string G.minus, .string G.quote, .bool G.trains, .bool false, .bool G.square, .string G.right] 66) = W3 := ⟨_, rfl⟩
  have hb3 : Below W2.heap.size W2 W3 := by rw [← hW3]; exact alloc_one _ _
  have s3 : W3.heap.size = w.heap.size + 3 := by rw [← hW3]; simp [s2]
  have hC : W3.heap[w.heap.size + 2]? = some (.cells #[.slice a1 n1 c1, .slice a2 n2 c2, .slice a3 n3 c3, .string G.outer, .string G.power, .string G.opn, .string G.cls, .string G.left, .string G.right, .string G.minus, .string G.quote, .bool G.trains, .bool false, .bool G.square, .string G.right] 66 (0, 0)) := by rw [← hW3, ← s2]; exact heap_alloc_new W2 _
  have hA3 : W3.heap[w.heap.size]? = _ := (hb3.block w.heap.size (by omega)).trans hA
  have hN3 : W3.heap[w.heap.size + 1]? = _ := (hb3.block (w.heap.size + 1) (by omega)).trans hNb
  have HB23 : Hid (∀ W, Below W3.heap.size W3 W → Below w.heap.size w W) := hide fun W h => HB22.out W (hb3.trans (h.mono hb3.size))
  have KS : Hid (∀ W, Below W3.heap.size W3 W → Below W3.heap.size W3 W ∧ W.cell? ⟨w.heap.size, 0, none⟩ = some (.slice a1 n1 c1) ∧ W.cell? ⟨w.heap.size, 1, none⟩ = some (.slice a2 n2 c2) ∧ W.cell? ⟨w.heap.size, 2, none⟩ = some (.slice a3 n3 c3) ∧ W.cell? ⟨w.heap.size, 3, none⟩ = some (.string G.outer) ∧ W.cell? ⟨w.heap.size, 4, none⟩ = some (.string G.power) ∧ W.cell? ⟨w.heap.size, 5, none⟩ = some (.string G.opn) ∧ W.cell? ⟨w.heap.size, 6, none⟩ = some (.string G.cls) ∧ W.cell? ⟨w.heap.size, 7, none⟩ = some (.string G.left) ∧ W.cell? ⟨w.heap.size, 8, none⟩ = some (.string G.right) ∧ W.cell? ⟨w.heap.size, 9, none⟩ = some (.string G.minus) ∧ W.cell? ⟨w.heap.size, 10, none⟩ = some (.string G.quote) ∧ W.cell? ⟨w.heap.size, 11, none⟩ = some (.bool G.trains) ∧ W.cell? ⟨w.heap.size, 12, none⟩ = some (.bool false) ∧ W.cell? ⟨w.heap.size, 13, none⟩ = some (.bool G.square) ∧ W.cell? ⟨w.heap.size, 14, none⟩ = some (.string rt) ∧ W.cell? ⟨w.heap.size + 1, 0, none⟩ = some (.int .i64 23) ∧ W.cell? ⟨w.heap.size + 1, 1, none⟩ = some (.int .i64 o) ∧ W.cell? ⟨w.heap.size + 1, 2, none⟩ = some (.string nm) ∧ W.cell? ⟨w.heap.size + 1, 3, none⟩ = some (v1) ∧ W.cell? ⟨w.heap.size + 1, 4, none⟩ = some (v2) ∧ W.cell? ⟨w.heap.size + 1, 5, none⟩ = some (.slice (some ⟨b, off, none⟩) 1 ck) ∧ W.cell? ⟨w.heap.size + 1, 6, none⟩ = some (.int .i64 ps) ∧ W.cell? ⟨w.heap.size + 2, 0, none⟩ = some (.slice a1 n1 c1) ∧ W.cell? ⟨w.heap.size + 2, 1, none⟩ = some (.slice a2 n2 c2) ∧ W.cell? ⟨w.heap.size + 2, 2, none⟩ = some (.slice a3 n3 c3) ∧ W.cell? ⟨w.heap.size + 2, 3, none⟩ = some (.string G.outer) ∧ W.cell? ⟨w.heap.size + 2, 4, none⟩ = some (.string G.power) ∧ W.cell? ⟨w.heap.size + 2, 5, none⟩ = some (.string G.opn) ∧ W.cell? ⟨w.heap.size + 2, 6, none⟩ = some (.string G.cls) ∧ W.cell? ⟨w.heap.size + 2, 7, none⟩ = some (.string G.left) ∧ W.cell? ⟨w.heap.size + 2, 8, none⟩ = some (.string G.right) ∧ W.cell? ⟨w.heap.size + 2, 9, none⟩ = some (.string G.minus) ∧ W.cell? ⟨w.heap.size + 2, 10, none⟩ = some (.string G.quote) ∧ W.cell? ⟨w.heap.size + 2, 11, none⟩ = some (.bool G.trains) ∧ W.cell? ⟨w.heap.size + 2, 12, none⟩ = some (.bool false) ∧ W.cell? ⟨w.heap.size + 2, 13, none⟩ = some (.bool G.square) ∧ W.cell? ⟨w.heap.size + 2, 14, none⟩ = some (.string G.right) ∧ W.cell? ⟨b, off, none⟩ = some (.int .i64 ki0) ∧ W.cell? ⟨b, off + 1, none⟩ = some (.int .i64 op0) ∧ W.cell? ⟨b, off + 2, none⟩ = some (.string nm0) ∧ W.cell? ⟨b, off + 3, none⟩ = some (x0) ∧ W.cell? ⟨b, off + 4, none⟩ = some (y0) ∧ W.cell? ⟨b, off + 5, none⟩ = some (z0) ∧ W.cell? ⟨b, off + 6, none⟩ = some (.int .i64 ps0)) := hide fun W h => by
    have hA2 := (h.block w.heap.size (by omega)).trans hA3
    have hN2 := (h.block (w.heap.size + 1) (by omega)).trans hN3
    have hU2 := (h.block (w.heap.size + 2) (by omega)).trans hC
    obtain ⟨q0, q1, q2, q3, q4, q5, q6⟩ := hs0 W (hb.trans ((HB23.out W h).mono hb.size))
    exact ⟨h, (Lib.cell_of_heap hA2 0).trans rfl, (Lib.cell_of_heap hA2 1).trans rfl, (Lib.cell_of_heap hA2 2).trans rfl, (Lib.cell_of_heap hA2 3).trans rfl, (Lib.cell_of_heap hA2 4).trans rfl, (Lib.cell_of_heap hA2 5).trans rfl, (Lib.cell_of_heap hA2 6).trans rfl, (Lib.cell_of_heap hA2 7).trans rfl, (Lib.cell_of_heap hA2 8).trans rfl, (Lib.cell_of_heap hA2 9).trans rfl, (Lib.cell_of_heap hA2 10).trans rfl, (Lib.cell_of_heap hA2 11).trans rfl, (Lib.cell_of_heap hA2 12).trans rfl, (Lib.cell_of_heap hA2 13).trans rfl, (Lib.cell_of_heap hA2 14).trans rfl, (Lib.cell_of_heap hN2 0).trans rfl, (Lib.cell_of_heap hN2 1).trans rfl, (Lib.cell_of_heap hN2 2).trans rfl, (Lib.cell_of_heap hN2 3).trans rfl, (Lib.cell_of_heap hN2 4).trans rfl, (Lib.cell_of_heap hN2 5).trans rfl, (Lib.cell_of_heap hN2 6).trans rfl, (Lib.cell_of_heap hU2 0).trans rfl, (Lib.cell_of_heap hU2 1).trans rfl, (Lib.cell_of_heap hU2 2).trans rfl, (Lib.cell_of_heap hU2 3).trans rfl, (Lib.cell_of_heap hU2 4).trans rfl, (Lib.cell_of_heap hU2 5).trans rfl, (Lib.cell_of_heap hU2 6).trans rfl, (Lib.cell_of_heap hU2 7).trans rfl, (Lib.cell_of_heap hU2 8).trans rfl, (Lib.cell_of_heap hU2 9).trans rfl, (Lib.cell_of_heap hU2 10).trans rfl, (Lib.cell_of_heap hU2 11).trans rfl, (Lib.cell_of_heap hU2 12).trans rfl, (Lib.cell_of_heap hU2 13).trans rfl, (Lib.cell_of_heap hU2 14).trans rfl, q0, q1, q2, q3, q4, q5, q6⟩
  have HD0 : Hid (∀ W, Below W3.heap.size W3 W → Calls Tryd.prog 30 #[.agg #[.slice a1 n1 c1, .slice a2 n2 c2, .slice a3 n3 c3, .string G.outer, .string G.power, .string G.opn, .string G.cls, .string G.left, .string G.right, .string G.minus, .string G.quote, .bool G.trains, .bool false, .bool G.square, .string G.right], .agg (sv (ki0) (op0) nm0 (x0) (y0) (z0) (ps0))] W fun e w' => e = .returned (.string ⟨T0.toArray⟩) ∧ Below W3.heap.size W3 w') := hide fun W h => (HC0.out W (HB23.out W h) (by omega)).mono (by rintro e w' ⟨rfl, h2⟩; exact ⟨rfl, h.trans (h2.mono h.size)⟩)
  have HD : Hid (Below W3.heap.size W3 W3.drew) := hide ((Below.refl _ _).drew)
  have l1 : ¬ (9223372036854775807 < G.opn.size + 1) := by omega
  have l2 : ¬ (9223372036854775807 < G.opn.size + 1 + T0.length) := by omega
  have l3 : ¬ (9223372036854775807 < G.opn.size + 1 + T0.length + 1) := by omega
  have l4 : ¬ (9223372036854775807 < G.opn.size + 1 + T0.length + 1 + G.cls.size) := by omega
  have t0 : W2.cell? ⟨w.heap.size, 0, none⟩ = some (.slice a1 n1 c1) := (Lib.cell_of_heap hA 0).trans rfl
  have t1 : W2.cell? ⟨w.heap.size, 1, none⟩ = some (.slice a2 n2 c2) := (Lib.cell_of_heap hA 1).trans rfl
  have t2 : W2.cell? ⟨w.heap.size, 2, none⟩ = some (.slice a3 n3 c3) := (Lib.cell_of_heap hA 2).trans rfl
  have t3 : W2.cell? ⟨w.heap.size, 3, none⟩ = some (.string G.outer) := (Lib.cell_of_heap hA 3).trans rfl
  have t4 : W2.cell? ⟨w.heap.size, 4, none⟩ = some (.string G.power) := (Lib.cell_of_heap hA 4).trans rfl
  have t5 : W2.cell? ⟨w.heap.size, 5, none⟩ = some (.string G.opn) := (Lib.cell_of_heap hA 5).trans rfl
  have t6 : W2.cell? ⟨w.heap.size, 6, none⟩ = some (.string G.cls) := (Lib.cell_of_heap hA 6).trans rfl
  have t7 : W2.cell? ⟨w.heap.size, 7, none⟩ = some (.string G.left) := (Lib.cell_of_heap hA 7).trans rfl
  have t8 : W2.cell? ⟨w.heap.size, 8, none⟩ = some (.string G.right) := (Lib.cell_of_heap hA 8).trans rfl
  have t9 : W2.cell? ⟨w.heap.size, 9, none⟩ = some (.string G.minus) := (Lib.cell_of_heap hA 9).trans rfl
  have t10 : W2.cell? ⟨w.heap.size, 10, none⟩ = some (.string G.quote) := (Lib.cell_of_heap hA 10).trans rfl
  have t11 : W2.cell? ⟨w.heap.size, 11, none⟩ = some (.bool G.trains) := (Lib.cell_of_heap hA 11).trans rfl
  have t12 : W2.cell? ⟨w.heap.size, 12, none⟩ = some (.bool false) := (Lib.cell_of_heap hA 12).trans rfl
  have t13 : W2.cell? ⟨w.heap.size, 13, none⟩ = some (.bool G.square) := (Lib.cell_of_heap hA 13).trans rfl
  have t14 : W2.cell? ⟨w.heap.size, 14, none⟩ = some (.string rt) := (Lib.cell_of_heap hA 14).trans rfl
  have n0 : W2.cell? ⟨w.heap.size + 1, 0, none⟩ = some (.int .i64 23) := (Lib.cell_of_heap hNb 0).trans rfl
  have HW3 := hide hW3
  clear hW3
  go_enter Tryd.func44, Tryd.ntmps44
  go_upto_region 1 with fail
  try rw [hW2]
  clear hW2 hA hNb hb2 HC0 hs0 hA3 hN3 hps hps2 hC hb3 s3
  go_upto_region 20 with fail
  try rw [HW3.out]
  clear t0 t1 t2 t3 t4 t5 t6 t7 t8 t9 t10 t11 t12 t13 t14 n0 HW3
  go_region_held3 (fun W => Below W3.heap.size W3 W ∧ W.cell? ⟨w.heap.size, 0, none⟩ = some (.slice a1 n1 c1) ∧ W.cell? ⟨w.heap.size, 1, none⟩ = some (.slice a2 n2 c2) ∧ W.cell? ⟨w.heap.size, 2, none⟩ = some (.slice a3 n3 c3) ∧ W.cell? ⟨w.heap.size, 3, none⟩ = some (.string G.outer) ∧ W.cell? ⟨w.heap.size, 4, none⟩ = some (.string G.power) ∧ W.cell? ⟨w.heap.size, 5, none⟩ = some (.string G.opn) ∧ W.cell? ⟨w.heap.size, 6, none⟩ = some (.string G.cls) ∧ W.cell? ⟨w.heap.size, 7, none⟩ = some (.string G.left) ∧ W.cell? ⟨w.heap.size, 8, none⟩ = some (.string G.right) ∧ W.cell? ⟨w.heap.size, 9, none⟩ = some (.string G.minus) ∧ W.cell? ⟨w.heap.size, 10, none⟩ = some (.string G.quote) ∧ W.cell? ⟨w.heap.size, 11, none⟩ = some (.bool G.trains) ∧ W.cell? ⟨w.heap.size, 12, none⟩ = some (.bool false) ∧ W.cell? ⟨w.heap.size, 13, none⟩ = some (.bool G.square) ∧ W.cell? ⟨w.heap.size, 14, none⟩ = some (.string rt) ∧ W.cell? ⟨w.heap.size + 1, 0, none⟩ = some (.int .i64 23) ∧ W.cell? ⟨w.heap.size + 1, 1, none⟩ = some (.int .i64 o) ∧ W.cell? ⟨w.heap.size + 1, 2, none⟩ = some (.string nm) ∧ W.cell? ⟨w.heap.size + 1, 3, none⟩ = some (v1) ∧ W.cell? ⟨w.heap.size + 1, 4, none⟩ = some (v2) ∧ W.cell? ⟨w.heap.size + 1, 5, none⟩ = some (.slice (some ⟨b, off, none⟩) 1 ck) ∧ W.cell? ⟨w.heap.size + 1, 6, none⟩ = some (.int .i64 ps) ∧ W.cell? ⟨w.heap.size + 2, 0, none⟩ = some (.slice a1 n1 c1) ∧ W.cell? ⟨w.heap.size + 2, 1, none⟩ = some (.slice a2 n2 c2) ∧ W.cell? ⟨w.heap.size + 2, 2, none⟩ = some (.slice a3 n3 c3) ∧ W.cell? ⟨w.heap.size + 2, 3, none⟩ = some (.string G.outer) ∧ W.cell? ⟨w.heap.size + 2, 4, none⟩ = some (.string G.power) ∧ W.cell? ⟨w.heap.size + 2, 5, none⟩ = some (.string G.opn) ∧ W.cell? ⟨w.heap.size + 2, 6, none⟩ = some (.string G.cls) ∧ W.cell? ⟨w.heap.size + 2, 7, none⟩ = some (.string G.left) ∧ W.cell? ⟨w.heap.size + 2, 8, none⟩ = some (.string G.right) ∧ W.cell? ⟨w.heap.size + 2, 9, none⟩ = some (.string G.minus) ∧ W.cell? ⟨w.heap.size + 2, 10, none⟩ = some (.string G.quote) ∧ W.cell? ⟨w.heap.size + 2, 11, none⟩ = some (.bool G.trains) ∧ W.cell? ⟨w.heap.size + 2, 12, none⟩ = some (.bool false) ∧ W.cell? ⟨w.heap.size + 2, 13, none⟩ = some (.bool G.square) ∧ W.cell? ⟨w.heap.size + 2, 14, none⟩ = some (.string G.right) ∧ W.cell? ⟨b, off, none⟩ = some (.int .i64 ki0) ∧ W.cell? ⟨b, off + 1, none⟩ = some (.int .i64 op0) ∧ W.cell? ⟨b, off + 2, none⟩ = some (.string nm0) ∧ W.cell? ⟨b, off + 3, none⟩ = some (x0) ∧ W.cell? ⟨b, off + 4, none⟩ = some (y0) ∧ W.cell? ⟨b, off + 5, none⟩ = some (z0) ∧ W.cell? ⟨b, off + 6, none⟩ = some (.int .i64 ps0)) (first | with_reducible exact KS.out _ HD.out | with_reducible exact KS.out _ (by with_reducible assumption)) (first | (go_at_call 30; with_reducible refine (HD0.out _ (by first | with_reducible exact HD.out | with_reducible assumption)).mono ?_; rintro e wq ⟨rfl, hbq⟩))
  go_wp2
  go_ret
  refine ⟨?_, HB23.out _ (by with_reducible assumption)⟩
  show Ending.returned (Value.string (G.opn ++ (⟨#[32]⟩ : ByteArray) ++ ⟨T0.toArray⟩ ++ (⟨#[32]⟩ : ByteArray) ++ G.cls)) = _
  exact congrArg (fun s => Ending.returned (Value.string s)) (catB G.opn T0 G.cls)
theorem rfun_step {n m : Nat} {w0 : World} {G : Gs} (AM : Rm G) (IF : RF n m w0 G) (IE : RE n m w0 G) : RF n (m + 1) w0 G := by
  intro rt w x v hx hk hs hb hl
  have h21 : 21 ≤ x.kind := by have := hk.2.1; simpa using this.symm
  have hkn : x.kind = 21 ∨ x.kind = 22 ∨ x.kind = 23 ∨ x.kind = 24 ∨ x.kind = 25 ∨ x.kind = 26 ∨ x.kind = 27 ∨ x.kind = 28 := by
    have h1 := hk.1
    unfold arK at h1
    repeat' split at h1
    all_goals omega
  rcases hkn with hK | hK | hK | hK | hK | hK | hK | hK
  · exact rf21 rt w x v hx hK
  · cases hlo : G.lone with
    | true => exact rf22t AM IE rt w x v hx hk hs hb hK hlo hl
    | false => exact rf22f AM IE rt w x v hx hk hs hb hK hlo hl
  · cases hlo : G.lone with
    | true => exact rf23t AM IE rt w x v hx hk hs hb hK hlo hl
    | false => exact rf23f AM IE rt w x v hx hk hs hb hK hlo hl
  · exact rf24 AM IF IE rt w x v hx hk hs hb hK hl
  · exact rf25 AM IF rt w x v hx hk hs hb hK hl
  · exact rf26 AM IF IE rt w x v hx hk hs hb hK hl
  · exact rf27 AM IF IE rt w x v hx hk hs hb hK hl
  · exact rf28 AM IF IE rt w x v hx hk hs hb hK hl
end Go.Proofs.YtneblkdkhlgmcaaDoor
