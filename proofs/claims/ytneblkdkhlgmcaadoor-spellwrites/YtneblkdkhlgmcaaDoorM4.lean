/-
  The document's own texts of a program, by depth: expression and operand as a whole; for all programs that may be written.
-/
import Derived.Test.YtneblkdkhlgmcaaDoorM3
import Derived.Shelf.Strconv.Itoa4
import Derived.Test.YtneblkdkhlgmcaaDoorProg
import Derived.WalkKit
import Derived.Test.YtneblkdkhlgmcaaDoorChecked
import GoSem.Claim
import GoSem.ClaimJoined
import GoSem.ClaimMapViews
import Derived.JoinedTies
import Derived.KernelRfl
import Derived.ProofKit
import Derived.Below
import Derived.Deep.OwnRows
import Derived.Deep.QuietTactic
import Derived.BigQuiet
import Derived.Deep.RegionWith
import Derived.Lib.AppendIntMem
import Derived.Lib.ConvBytes
import Derived.Lib.Builder
import Derived.Lib.AppendStr
import Derived.Lib.UnsafeStr
import Derived.Deep.LoopGhost
import Derived.Deep.RegionHeld3
import Derived.Lib.MakeNoZero
import Derived.Laws.MakeOwn
import Derived.Laws.BitsAllLaws
import Derived.Lib.Bits
import Derived.Deep.Cut
import Derived.Deep.MidRow
import Derived.OpenShut
import Derived.ChangeOld
import Derived.SizedLaws
import Derived.Deep.Slices
import Derived.Deep.Strs
import Derived.Deep.RegionLaw
import GoSem.ClaimSeven
import Derived.LaidByTextLater
import Derived.SevenTiedAt
import Derived.LaidSub
import Derived.LaidOnce
import Derived.Deep.DeepHandedRow
import Derived.Lib.LaidTab
import Derived.Lay
namespace Go.Proofs.YtneblkdkhlgmcaaDoor
open Go.ChangeShapes Go.WideShapes Go.ChangeAt Go.RowKit
set_option maxRecDepth 100000
set_option linter.unusedVariables false
set_option linter.unusedSimpArgs false
set_option maxHeartbeats 4000000 in
theorem rapp45 {n m : Nat} {w0 : World} {G : Gs} (AM : Rm G) (IF : RF n m w0 G) (rt : ByteArray) (w : World) (x : Nd) (v : Value) (hx : NdIn m n 0 w0 x v) (hk : okN m true x) (hs : sndA x) (hb : Below w0.heap.size w0 w) (hl : (apF (TX G m).F x).length ≤ 140737488355328) :
    Calls Tryd.prog 45 #[tV G rt, v] w fun e w' => e = .returned (.string (str (apF (TX G m).F x))) ∧ Below w.heap.size w w' := by
  have hx0 := hx
  obtain ⟨v1, v2, v3, rfl, hv1⟩ := nd_form hx
  obtain ⟨⟨la1, ll1, lc1, rfl⟩, ⟨la2, ll2, lc2, rfl⟩, ⟨la3, ll3, lc3, rfl⟩⟩ := nd_slices hx0
  have hsl := AM.hsl
  have hT : ((TX G m).F x).length ≤ 140737488355328 := by
    unfold apF at hl
    split at hl
    · simp only [rdT, List.length_append, List.length_cons, List.length_nil] at hl; omega
    · exact hl
  have HC := hide (fun W (hW : Below w.heap.size w W) => IF rt W x _ hx hk hs (hb.trans (hW.mono hb.size)) hT)
  have HA1 : Hid (x.kind = 26 → apF (TX G m).F x = rdT ((TX G m).F x)) := hide fun h => if_pos h
  have HA2 : Hid (¬ x.kind = 26 → apF (TX G m).F x = (TX G m).F x) := hide fun h => if_neg h
  obtain ⟨T0, hT0⟩ : ∃ T0, (TX G m).F x = T0 := ⟨_, rfl⟩
  obtain ⟨A0, hA0⟩ : ∃ A0, apF (TX G m).F x = A0 := ⟨_, rfl⟩
  rw [hT0] at HC hT HA1 HA2
  rw [hA0] at HA1 HA2 hl ⊢
  clear hx hx0 hk hs IF hT0 hA0 hv1 AM
  unfold tV at HC ⊢
  generalize x.kind = k at *
  generalize x.op = o at *
  generalize x.name = nm at *
  generalize x.pos = ps at *
  generalize G.s1 = S1 at *
  generalize G.s2 = S2 at *
  generalize G.s3 = S3 at *
  obtain ⟨a1, n1, c1, a2, n2, c2, a3, n3, c3, rfl, rfl, rfl⟩ := hsl
  obtain ⟨W2, hW2⟩ : ∃ W2, (w.alloc (.cells #[.slice a1 n1 c1, .slice a2 n2 c2, .slice a3 n3 c3, .string G.outer, .string G.power, .string G.opn, .string G.cls, .string G.left, .string G.right, .string G.minus, .string G.quote, .bool G.trains, .bool G.lone, .bool G.square, .string rt] 66)).alloc (.cells (sv (k) (o) nm (.slice la1 ll1 lc1) (.slice la2 ll2 lc2) (.slice la3 ll3 lc3) (ps)) 34) = W2 := ⟨_, rfl⟩
  have hb2 : Below w.heap.size w W2 := by rw [← hW2]; exact two_allocs _ _ _
  have s2 : W2.heap.size = w.heap.size + 2 := by rw [← hW2]; simp
  have hA : W2.heap[w.heap.size]? = some (.cells #[.slice a1 n1 c1, .slice a2 n2 c2, .slice a3 n3 c3, .string G.outer, .string G.power, .string G.opn, .string G.cls, .string G.left, .string G.right, .string G.minus, .string G.quote, .bool G.trains, .bool G.lone, .bool G.square, .string rt] 66 (0, 0)) := by
    rw [← hW2]; exact (Lib.alloc_old _ _ w.heap.size (by simp)).trans (heap_alloc_new w _)
  have hNb : W2.heap[w.heap.size + 1]? = some (.cells (sv (k) (o) nm (.slice la1 ll1 lc1) (.slice la2 ll2 lc2) (.slice la3 ll3 lc3) (ps)) 34 (0, 0)) := by
    have h := heap_alloc_new (w.alloc (.cells #[.slice a1 n1 c1, .slice a2 n2 c2, .slice a3 n3 c3, .string G.outer, .string G.power, .string G.opn, .string G.cls, .string G.left, .string G.right, .string G.minus, .string G.quote, .bool G.trains, .bool G.lone, .bool G.square, .string rt] 66)) (.cells (sv (k) (o) nm (.slice la1 ll1 lc1) (.slice la2 ll2 lc2) (.slice la3 ll3 lc3) (ps)) 34)
    have e : (w.alloc (.cells #[.slice a1 n1 c1, .slice a2 n2 c2, .slice a3 n3 c3, .string G.outer, .string G.power, .string G.opn, .string G.cls, .string G.left, .string G.right, .string G.minus, .string G.quote, .bool G.trains, .bool G.lone, .bool G.square, .string rt] 66)).heap.size = w.heap.size + 1 := by simp
    rw [e] at h
    rw [← hW2]; exact h
  have t0 : W2.cell? ⟨w.heap.size, 0, none⟩ = some (.slice a1 n1 c1) := (Lib.cell_of_heap hA 0).trans rfl
  have t1 : W2.cell? ⟨w.heap.size, 1, none⟩ = some (.slice a2 n2 c2) := (Lib.cell_of_heap hA 1).trans rfl
  have t2 : W2.cell? ⟨w.heap.size, 2, none⟩ = some (.slice a3 n3 c3) := (Lib.cell_of_heap hA 2).trans rfl
  have t3 : W2.cell? ⟨w.heap.size, 3, none⟩ = some (.string G.outer) := (Lib.cell_of_heap hA 3).trans rfl
  have t4 : W2.cell? ⟨w.heap.size, 4, none⟩ = some (.string G.power) := (Lib.cell_of_heap hA 4).trans rfl
  have t5 : W2.cell? ⟨w.heap.size, 5, none⟩ = some (.string G.opn) := (Lib.cell_of_heap hA 5).trans rfl
  have t6 : W2.cell? ⟨w.heap.size, 6, none⟩ = some (.string G.cls) := (Lib.cell_of_heap hA 6).trans rfl
  have t7 : W2.cell? ⟨w.heap.size, 7, none⟩ = some (.string G.left) := (Lib.cell_of_heap hA 7).trans rfl
  have t8 : W2.cell? ⟨w.heap.size, 8, none⟩ = some (.string G.right) := (Lib.cell_of_heap hA 8).trans rfl
  have t9 : W2.cell? ⟨w.heap.size, 9, none⟩ = some (.string G.minus) := (Lib.cell_of_heap hA 9).trans rfl
  have t10 : W2.cell? ⟨w.heap.size, 10, none⟩ = some (.string G.quote) := (Lib.cell_of_heap hA 10).trans rfl
  have t11 : W2.cell? ⟨w.heap.size, 11, none⟩ = some (.bool G.trains) := (Lib.cell_of_heap hA 11).trans rfl
  have t12 : W2.cell? ⟨w.heap.size, 12, none⟩ = some (.bool G.lone) := (Lib.cell_of_heap hA 12).trans rfl
  have t13 : W2.cell? ⟨w.heap.size, 13, none⟩ = some (.bool G.square) := (Lib.cell_of_heap hA 13).trans rfl
  have t14 : W2.cell? ⟨w.heap.size, 14, none⟩ = some (.string rt) := (Lib.cell_of_heap hA 14).trans rfl
  have n0 : W2.cell? ⟨w.heap.size + 1, 0, none⟩ = some (.int .i64 k) := (Lib.cell_of_heap hNb 0).trans rfl
  have n1 : W2.cell? ⟨w.heap.size + 1, 1, none⟩ = some (.int .i64 o) := (Lib.cell_of_heap hNb 1).trans rfl
  have n2 : W2.cell? ⟨w.heap.size + 1, 2, none⟩ = some (.string nm) := (Lib.cell_of_heap hNb 2).trans rfl
  have n3 : W2.cell? ⟨w.heap.size + 1, 3, none⟩ = some (.slice la1 ll1 lc1) := (Lib.cell_of_heap hNb 3).trans rfl
  have n4 : W2.cell? ⟨w.heap.size + 1, 4, none⟩ = some (.slice la2 ll2 lc2) := (Lib.cell_of_heap hNb 4).trans rfl
  have n5 : W2.cell? ⟨w.heap.size + 1, 5, none⟩ = some (.slice la3 ll3 lc3) := (Lib.cell_of_heap hNb 5).trans rfl
  have n6 : W2.cell? ⟨w.heap.size + 1, 6, none⟩ = some (.int .i64 ps) := (Lib.cell_of_heap hNb 6).trans rfl
  have HB2 := hide hb2
  have HC2 := hide (HC.out W2 hb2)
  have HR := hide (fun W => round65 T0 W hT)
  clear HC
  go_enter Tryd.func45, Tryd.ntmps45
  go_upto_region 1 with fail
  try rw [hW2]
  clear hW2 hA hNb hb2 s2
  by_cases hk : k = 26
  · obtain rfl := HA1.out hk
    subst hk
    go_wp2_with fail
    refine HC2.out.mono ?_
    rintro e w3 ⟨rfl, hb3⟩
    have HB3 := hide (HB2.out.trans (hb3.mono HB2.out.size))
    clear hb3 HC2 t0 t1 t2 t3 t4 t5 t6 t7 t8 t9 t10 t11 t12 t13 t14 n0 n1 n2 n3 n4 n5 n6
    unfold str
    go_wp2_with fail
    refine (HR.out _).mono ?_
    rintro e w4 ⟨rfl, rfl⟩
    go_wp2
    go_ret
    exact ⟨rfl, HB3.out⟩
  · obtain rfl := HA2.out hk
    have hk' : (k == 26) = false := beq_eq_false_iff_ne.2 hk
    go_wp2_with fail
    refine HC2.out.mono ?_
    rintro e w3 ⟨rfl, hb3⟩
    have HB3 := hide (HB2.out.trans (hb3.mono HB2.out.size))
    clear hb3 HC2 t0 t1 t2 t3 t4 t5 t6 t7 t8 t9 t10 t11 t12 t13 t14 n0 n1 n2 n3 n4 n5 n6
    go_wp2
    go_ret
    exact ⟨rfl, HB3.out⟩
set_option maxHeartbeats 4000000 in
theorem rex6 {n m : Nat} {w0 : World} {G : Gs} (AM : Rm G) (IF : RF n m w0 G) (IE : RE n m w0 G) (IO : RO n m w0 G) (rt : ByteArray) (w : World) (x : Nd) (v : Value) (hx : NdIn (m + 1) n 0 w0 x v) (hk : okN (m + 1) false x) (hs : sndA x) (hb : Below w0.heap.size w0 w) (hK : x.kind = 6) (hl : (exA G (TX G m) rt x).length ≤ 140737488355328) :
    Calls Tryd.prog 30 #[tV G rt, v] w fun e w' => e = .returned (.string (str (exA G (TX G m) rt x))) ∧ Below w.heap.size w w' := by
  obtain ⟨v1, v2, ak, ck, rfl, hv1, hA0, hkid⟩ := nd_kids hx
  have hkl : x.kids.length = 3 := by have := hk.1; rw [hK] at this; unfold arK at this; simp at this; first | omega | (rw [this]; rfl)
  have hT : exA G (TX G m) rt x = (TX G m).O rt (kp x 1) ++ ([32] ++ apF (TX G m).F (kp x 0)) ++ ([32] ++ (TX G m).E rt (kp x 2)) := by simp [exA, hK]
  rw [hT] at hl ⊢
  obtain ⟨b, off, x0, y0, z0, rfl, hn0, hs0⟩ := hkid 0 (by omega)
  obtain ⟨b1, off1, x1, y1, z1, e1, hn1, hs1⟩ := hkid 1 (by omega)
  cases e1
  obtain ⟨b2, off2, x2, y2, z2, e2, hn2, hs2⟩ := hkid 2 (by omega)
  cases e2
  have ok0 := hk.2.2.2 0 (by omega)
  rw [show fnP x.kind 0 = true by rw [hK]; rfl] at ok0
  have HC0 := hide (fun W (hW : Below w.heap.size w W) hl => rapp45 AM IF rt W (kp x 0) _ hn0 ok0 (hs.kid (by omega)) (hb.trans (hW.mono hb.size)) hl)
  have ok1 := hk.2.2.2 1 (by omega)
  rw [show fnP x.kind 1 = false by rw [hK]; rfl] at ok1
  have HC1 := hide (fun W (hW : Below w.heap.size w W) hl => IO rt W (kp x 1) _ hn1 ok1 (hs.kid (by omega)) (hb.trans (hW.mono hb.size)) hl)
  have ok2 := hk.2.2.2 2 (by omega)
  rw [show fnP x.kind 2 = false by rw [hK]; rfl] at ok2
  have HC2 := hide (fun W (hW : Below w.heap.size w W) hl => IE rt W (kp x 2) _ hn2 ok2 (hs.kid (by omega)) (hb.trans (hW.mono hb.size)) hl)
  rw [hK, hkl]
  obtain ⟨T0, hT0⟩ : ∃ T0, apF (TX G m).F (kp x 0) = T0 := ⟨_, rfl⟩
  rw [hT0] at HC0 hl ⊢
  obtain ⟨T1, hT1⟩ : ∃ T1, (TX G m).O rt (kp x 1) = T1 := ⟨_, rfl⟩
  rw [hT1] at HC1 hl ⊢
  obtain ⟨T2, hT2⟩ : ∃ T2, (TX G m).E rt (kp x 2) = T2 := ⟨_, rfl⟩
  rw [hT2] at HC2 hl ⊢
  clear hx hk hs IF IE IO hkid hT hkl hK AM ok0 hn0 hT0 ok1 hn1 hT1 ok2 hn2 hT2
  generalize x.op = o at *
  generalize x.name = nm at *
  generalize x.pos = ps at *
  generalize (kp x 0).kind = ki0 at *
  generalize (kp x 0).op = op0 at *
  generalize (kp x 0).name = nm0 at *
  generalize (kp x 0).pos = ps0 at *
  generalize (kp x 1).kind = ki1 at *
  generalize (kp x 1).op = op1 at *
  generalize (kp x 1).name = nm1 at *
  generalize (kp x 1).pos = ps1 at *
  generalize (kp x 2).kind = ki2 at *
  generalize (kp x 2).op = op2 at *
  generalize (kp x 2).name = nm2 at *
  generalize (kp x 2).pos = ps2 at *
  simp only [rdT, bL, List.length_append, List.length_cons, List.length_nil] at hl
  obtain ⟨W2, hW2⟩ : ∃ W2, (w.alloc (.cells #[G.s1, G.s2, G.s3, .string G.outer, .string G.power, .string G.opn, .string G.cls, .string G.left, .string G.right, .string G.minus, .string G.quote, .bool G.trains, .bool G.lone, .bool G.square, .string rt] 66)).alloc (.cells (sv (6) (o) nm (v1) (v2) (.slice (some ⟨b, off, none⟩) 3 ck) (ps)) 34) = W2 := ⟨_, rfl⟩
  have hb2 : Below w.heap.size w W2 := by rw [← hW2]; exact two_allocs _ _ _
  have s2 : W2.heap.size = w.heap.size + 2 := by rw [← hW2]; simp
  have hA : W2.heap[w.heap.size]? = some (.cells #[G.s1, G.s2, G.s3, .string G.outer, .string G.power, .string G.opn, .string G.cls, .string G.left, .string G.right, .string G.minus, .string G.quote, .bool G.trains, .bool G.lone, .bool G.square, .string rt] 66 (0, 0)) := by
    rw [← hW2]; exact (Lib.alloc_old _ _ w.heap.size (by simp)).trans (heap_alloc_new w _)
  have hNb : W2.heap[w.heap.size + 1]? = some (.cells (sv (6) (o) nm (v1) (v2) (.slice (some ⟨b, off, none⟩) 3 ck) (ps)) 34 (0, 0)) := by
    have h := heap_alloc_new (w.alloc (.cells #[G.s1, G.s2, G.s3, .string G.outer, .string G.power, .string G.opn, .string G.cls, .string G.left, .string G.right, .string G.minus, .string G.quote, .bool G.trains, .bool G.lone, .bool G.square, .string rt] 66)) (.cells (sv (6) (o) nm (v1) (v2) (.slice (some ⟨b, off, none⟩) 3 ck) (ps)) 34)
    have e : (w.alloc (.cells #[G.s1, G.s2, G.s3, .string G.outer, .string G.power, .string G.opn, .string G.cls, .string G.left, .string G.right, .string G.minus, .string G.quote, .bool G.trains, .bool G.lone, .bool G.square, .string rt] 66)).heap.size = w.heap.size + 1 := by simp
    rw [e] at h
    rw [← hW2]; exact h
  have HB23 : Hid (∀ W, Below W2.heap.size W2 W → Below w.heap.size w W) := hide fun W h => hb2.trans (h.mono hb2.size)
  have KS : Hid (∀ W, Below W2.heap.size W2 W → Below W2.heap.size W2 W ∧ W.cell? ⟨w.heap.size, 0, none⟩ = some (G.s1) ∧ W.cell? ⟨w.heap.size, 1, none⟩ = some (G.s2) ∧ W.cell? ⟨w.heap.size, 2, none⟩ = some (G.s3) ∧ W.cell? ⟨w.heap.size, 3, none⟩ = some (.string G.outer) ∧ W.cell? ⟨w.heap.size, 4, none⟩ = some (.string G.power) ∧ W.cell? ⟨w.heap.size, 5, none⟩ = some (.string G.opn) ∧ W.cell? ⟨w.heap.size, 6, none⟩ = some (.string G.cls) ∧ W.cell? ⟨w.heap.size, 7, none⟩ = some (.string G.left) ∧ W.cell? ⟨w.heap.size, 8, none⟩ = some (.string G.right) ∧ W.cell? ⟨w.heap.size, 9, none⟩ = some (.string G.minus) ∧ W.cell? ⟨w.heap.size, 10, none⟩ = some (.string G.quote) ∧ W.cell? ⟨w.heap.size, 11, none⟩ = some (.bool G.trains) ∧ W.cell? ⟨w.heap.size, 12, none⟩ = some (.bool G.lone) ∧ W.cell? ⟨w.heap.size, 13, none⟩ = some (.bool G.square) ∧ W.cell? ⟨w.heap.size, 14, none⟩ = some (.string rt) ∧ W.cell? ⟨w.heap.size + 1, 0, none⟩ = some (.int .i64 6) ∧ W.cell? ⟨w.heap.size + 1, 1, none⟩ = some (.int .i64 o) ∧ W.cell? ⟨w.heap.size + 1, 2, none⟩ = some (.string nm) ∧ W.cell? ⟨w.heap.size + 1, 3, none⟩ = some (v1) ∧ W.cell? ⟨w.heap.size + 1, 4, none⟩ = some (v2) ∧ W.cell? ⟨w.heap.size + 1, 5, none⟩ = some (.slice (some ⟨b, off, none⟩) 3 ck) ∧ W.cell? ⟨w.heap.size + 1, 6, none⟩ = some (.int .i64 ps) ∧ W.cell? ⟨b, off, none⟩ = some (.int .i64 ki0) ∧ W.cell? ⟨b, off + 1, none⟩ = some (.int .i64 op0) ∧ W.cell? ⟨b, off + 2, none⟩ = some (.string nm0) ∧ W.cell? ⟨b, off + 3, none⟩ = some (x0) ∧ W.cell? ⟨b, off + 4, none⟩ = some (y0) ∧ W.cell? ⟨b, off + 5, none⟩ = some (z0) ∧ W.cell? ⟨b, off + 6, none⟩ = some (.int .i64 ps0) ∧ W.cell? ⟨b, off + 7, none⟩ = some (.int .i64 ki1) ∧ W.cell? ⟨b, off + 8, none⟩ = some (.int .i64 op1) ∧ W.cell? ⟨b, off + 9, none⟩ = some (.string nm1) ∧ W.cell? ⟨b, off + 10, none⟩ = some (x1) ∧ W.cell? ⟨b, off + 11, none⟩ = some (y1) ∧ W.cell? ⟨b, off + 12, none⟩ = some (z1) ∧ W.cell? ⟨b, off + 13, none⟩ = some (.int .i64 ps1) ∧ W.cell? ⟨b, off + 14, none⟩ = some (.int .i64 ki2) ∧ W.cell? ⟨b, off + 15, none⟩ = some (.int .i64 op2) ∧ W.cell? ⟨b, off + 16, none⟩ = some (.string nm2) ∧ W.cell? ⟨b, off + 17, none⟩ = some (x2) ∧ W.cell? ⟨b, off + 18, none⟩ = some (y2) ∧ W.cell? ⟨b, off + 19, none⟩ = some (z2) ∧ W.cell? ⟨b, off + 20, none⟩ = some (.int .i64 ps2)) := hide fun W h => by
    have hA2 := (h.block w.heap.size (by omega)).trans hA
    have hN2 := (h.block (w.heap.size + 1) (by omega)).trans hNb
    have hW0 := hb.trans ((HB23.out W h).mono hb.size)
    obtain ⟨q00, q01, q02, q03, q04, q05, q06⟩ := hs0 W hW0
    obtain ⟨q10, q11, q12, q13, q14, q15, q16⟩ := hs1 W hW0
    obtain ⟨q20, q21, q22, q23, q24, q25, q26⟩ := hs2 W hW0
    exact ⟨h, (Lib.cell_of_heap hA2 0).trans rfl, (Lib.cell_of_heap hA2 1).trans rfl, (Lib.cell_of_heap hA2 2).trans rfl, (Lib.cell_of_heap hA2 3).trans rfl, (Lib.cell_of_heap hA2 4).trans rfl, (Lib.cell_of_heap hA2 5).trans rfl, (Lib.cell_of_heap hA2 6).trans rfl, (Lib.cell_of_heap hA2 7).trans rfl, (Lib.cell_of_heap hA2 8).trans rfl, (Lib.cell_of_heap hA2 9).trans rfl, (Lib.cell_of_heap hA2 10).trans rfl, (Lib.cell_of_heap hA2 11).trans rfl, (Lib.cell_of_heap hA2 12).trans rfl, (Lib.cell_of_heap hA2 13).trans rfl, (Lib.cell_of_heap hA2 14).trans rfl, (Lib.cell_of_heap hN2 0).trans rfl, (Lib.cell_of_heap hN2 1).trans rfl, (Lib.cell_of_heap hN2 2).trans rfl, (Lib.cell_of_heap hN2 3).trans rfl, (Lib.cell_of_heap hN2 4).trans rfl, (Lib.cell_of_heap hN2 5).trans rfl, (Lib.cell_of_heap hN2 6).trans rfl, q00, q01, q02, q03, q04, q05, q06, q10, q11, q12, q13, q14, q15, q16, q20, q21, q22, q23, q24, q25, q26⟩
  have HD0 : Hid (∀ W, Below W2.heap.size W2 W → Calls Tryd.prog 45 #[.agg #[G.s1, G.s2, G.s3, .string G.outer, .string G.power, .string G.opn, .string G.cls, .string G.left, .string G.right, .string G.minus, .string G.quote, .bool G.trains, .bool G.lone, .bool G.square, .string rt], .agg (sv (ki0) (op0) nm0 (x0) (y0) (z0) (ps0))] W fun e w' => e = .returned (.string ⟨T0.toArray⟩) ∧ Below W2.heap.size W2 w') := hide fun W h => (HC0.out W (HB23.out W h) (by omega)).mono (by rintro e w' ⟨rfl, h2⟩; exact ⟨rfl, h.trans (h2.mono h.size)⟩)
  have HD1 : Hid (∀ W, Below W2.heap.size W2 W → Calls Tryd.prog 46 #[.agg #[G.s1, G.s2, G.s3, .string G.outer, .string G.power, .string G.opn, .string G.cls, .string G.left, .string G.right, .string G.minus, .string G.quote, .bool G.trains, .bool G.lone, .bool G.square, .string rt], .agg (sv (ki1) (op1) nm1 (x1) (y1) (z1) (ps1))] W fun e w' => e = .returned (.string ⟨T1.toArray⟩) ∧ Below W2.heap.size W2 w') := hide fun W h => (HC1.out W (HB23.out W h) (by omega)).mono (by rintro e w' ⟨rfl, h2⟩; exact ⟨rfl, h.trans (h2.mono h.size)⟩)
  have HD2 : Hid (∀ W, Below W2.heap.size W2 W → Calls Tryd.prog 30 #[.agg #[G.s1, G.s2, G.s3, .string G.outer, .string G.power, .string G.opn, .string G.cls, .string G.left, .string G.right, .string G.minus, .string G.quote, .bool G.trains, .bool G.lone, .bool G.square, .string rt], .agg (sv (ki2) (op2) nm2 (x2) (y2) (z2) (ps2))] W fun e w' => e = .returned (.string ⟨T2.toArray⟩) ∧ Below W2.heap.size W2 w') := hide fun W h => (HC2.out W (HB23.out W h) (by omega)).mono (by rintro e w' ⟨rfl, h2⟩; exact ⟨rfl, h.trans (h2.mono h.size)⟩)
  have l1 : ¬ (9223372036854775807 < T1.length + 1) := by omega
  have l2 : ¬ (9223372036854775807 < T1.length + 1 + T0.length) := by omega
  have l3 : ¬ (9223372036854775807 < T1.length + 1 + T0.length + 1) := by omega
  have l4 : ¬ (9223372036854775807 < T1.length + 1 + T0.length + 1 + T2.length) := by omega
  have HD : Hid (Below W2.heap.size W2 W2.drew) := hide ((Below.refl _ _).drew)
  obtain ⟨-, -, -, -, -, -, -, -, -, -, -, -, -, -, -, -, n0, -, -, -, -, -, -, -, -, -, -, -, -, -, -, -, -, -, -, -, -, -, -, -, -, -, -, -⟩ := KS.out W2 (Below.refl _ _)
  unfold tV
  go_enter Tryd.func30, Tryd.ntmps30
  go_upto_region 1 with fail
  try rw [hW2]
  clear hW2 hA hNb hb2 HC0 hs0 HC1 hs1 HC2 hs2
  go_upto_region 7 with fail
  clear n0
  go_region_held3 (fun W => Below W2.heap.size W2 W ∧ W.cell? ⟨w.heap.size, 0, none⟩ = some (G.s1) ∧ W.cell? ⟨w.heap.size, 1, none⟩ = some (G.s2) ∧ W.cell? ⟨w.heap.size, 2, none⟩ = some (G.s3) ∧ W.cell? ⟨w.heap.size, 3, none⟩ = some (.string G.outer) ∧ W.cell? ⟨w.heap.size, 4, none⟩ = some (.string G.power) ∧ W.cell? ⟨w.heap.size, 5, none⟩ = some (.string G.opn) ∧ W.cell? ⟨w.heap.size, 6, none⟩ = some (.string G.cls) ∧ W.cell? ⟨w.heap.size, 7, none⟩ = some (.string G.left) ∧ W.cell? ⟨w.heap.size, 8, none⟩ = some (.string G.right) ∧ W.cell? ⟨w.heap.size, 9, none⟩ = some (.string G.minus) ∧ W.cell? ⟨w.heap.size, 10, none⟩ = some (.string G.quote) ∧ W.cell? ⟨w.heap.size, 11, none⟩ = some (.bool G.trains) ∧ W.cell? ⟨w.heap.size, 12, none⟩ = some (.bool G.lone) ∧ W.cell? ⟨w.heap.size, 13, none⟩ = some (.bool G.square) ∧ W.cell? ⟨w.heap.size, 14, none⟩ = some (.string rt) ∧ W.cell? ⟨w.heap.size + 1, 0, none⟩ = some (.int .i64 6) ∧ W.cell? ⟨w.heap.size + 1, 1, none⟩ = some (.int .i64 o) ∧ W.cell? ⟨w.heap.size + 1, 2, none⟩ = some (.string nm) ∧ W.cell? ⟨w.heap.size + 1, 3, none⟩ = some (v1) ∧ W.cell? ⟨w.heap.size + 1, 4, none⟩ = some (v2) ∧ W.cell? ⟨w.heap.size + 1, 5, none⟩ = some (.slice (some ⟨b, off, none⟩) 3 ck) ∧ W.cell? ⟨w.heap.size + 1, 6, none⟩ = some (.int .i64 ps) ∧ W.cell? ⟨b, off, none⟩ = some (.int .i64 ki0) ∧ W.cell? ⟨b, off + 1, none⟩ = some (.int .i64 op0) ∧ W.cell? ⟨b, off + 2, none⟩ = some (.string nm0) ∧ W.cell? ⟨b, off + 3, none⟩ = some (x0) ∧ W.cell? ⟨b, off + 4, none⟩ = some (y0) ∧ W.cell? ⟨b, off + 5, none⟩ = some (z0) ∧ W.cell? ⟨b, off + 6, none⟩ = some (.int .i64 ps0) ∧ W.cell? ⟨b, off + 7, none⟩ = some (.int .i64 ki1) ∧ W.cell? ⟨b, off + 8, none⟩ = some (.int .i64 op1) ∧ W.cell? ⟨b, off + 9, none⟩ = some (.string nm1) ∧ W.cell? ⟨b, off + 10, none⟩ = some (x1) ∧ W.cell? ⟨b, off + 11, none⟩ = some (y1) ∧ W.cell? ⟨b, off + 12, none⟩ = some (z1) ∧ W.cell? ⟨b, off + 13, none⟩ = some (.int .i64 ps1) ∧ W.cell? ⟨b, off + 14, none⟩ = some (.int .i64 ki2) ∧ W.cell? ⟨b, off + 15, none⟩ = some (.int .i64 op2) ∧ W.cell? ⟨b, off + 16, none⟩ = some (.string nm2) ∧ W.cell? ⟨b, off + 17, none⟩ = some (x2) ∧ W.cell? ⟨b, off + 18, none⟩ = some (y2) ∧ W.cell? ⟨b, off + 19, none⟩ = some (z2) ∧ W.cell? ⟨b, off + 20, none⟩ = some (.int .i64 ps2)) (first | with_reducible exact KS.out _ HD.out | with_reducible exact KS.out _ (by with_reducible assumption)) (first | (go_at_call 45; with_reducible refine (HD0.out _ (by first | with_reducible exact HD.out | with_reducible assumption)).mono ?_; rintro e wq ⟨rfl, hbq⟩) | (go_at_call 46; with_reducible refine (HD1.out _ (by first | with_reducible exact HD.out | with_reducible assumption)).mono ?_; rintro e wq ⟨rfl, hbq⟩) | (go_at_call 30; with_reducible refine (HD2.out _ (by first | with_reducible exact HD.out | with_reducible assumption)).mono ?_; rintro e wq ⟨rfl, hbq⟩))
  go_wp2
  go_ret
  refine ⟨?_, HB23.out _ (by with_reducible assumption)⟩
  show Ending.returned (Value.string ((⟨T1.toArray⟩ : ByteArray) ++ ⟨#[32]⟩ ++ ⟨T0.toArray⟩ ++ ⟨#[32]⟩ ++ ⟨T2.toArray⟩)) = _
  rw [cat3 T1 T0, cat3]
  rfl
set_option maxHeartbeats 4000000 in
theorem rop8 {n m : Nat} {w0 : World} {G : Gs} (AM : Rm G) (IF : RF n m w0 G) (IE : RE n m w0 G) (IO : RO n m w0 G) (rt : ByteArray) (w : World) (x : Nd) (v : Value) (hx : NdIn (m + 1) n 0 w0 x v) (hk : okN (m + 1) false x) (hs : sndA x) (hb : Below w0.heap.size w0 w) (hK : x.kind = 8) (hl : (opT G (TX G m) rt x).length ≤ 140737488355328) :
    Calls Tryd.prog 46 #[tV G rt, v] w fun e w' => e = .returned (.string (str (opT G (TX G m) rt x))) ∧ Below w.heap.size w w' := by
  obtain ⟨v1, v2, ak, ck, rfl, hv1, hA0, hkid⟩ := nd_kids hx
  have hkl : x.kids.length = 2 := by have := hk.1; rw [hK] at this; unfold arK at this; simp at this; first | omega | (rw [this]; rfl)
  have hT : opT G (TX G m) rt x = (TX G m).O rt (kp x 0) ++ [32, 91] ++ ([32] ++ (TX G m).E rt (kp x 1)) ++ [32, 93] := by simp [opT, hK]
  rw [hT] at hl ⊢
  obtain ⟨b, off, x0, y0, z0, rfl, hn0, hs0⟩ := hkid 0 (by omega)
  obtain ⟨b1, off1, x1, y1, z1, e1, hn1, hs1⟩ := hkid 1 (by omega)
  cases e1
  have ok0 := hk.2.2.2 0 (by omega)
  rw [show fnP x.kind 0 = false by rw [hK]; rfl] at ok0
  have HC0 := hide (fun W (hW : Below w.heap.size w W) hl => IO rt W (kp x 0) _ hn0 ok0 (hs.kid (by omega)) (hb.trans (hW.mono hb.size)) hl)
  have ok1 := hk.2.2.2 1 (by omega)
  rw [show fnP x.kind 1 = false by rw [hK]; rfl] at ok1
  have HC1 := hide (fun W (hW : Below w.heap.size w W) hl => IE rt W (kp x 1) _ hn1 ok1 (hs.kid (by omega)) (hb.trans (hW.mono hb.size)) hl)
  rw [hK, hkl]
  obtain ⟨T0, hT0⟩ : ∃ T0, (TX G m).O rt (kp x 0) = T0 := ⟨_, rfl⟩
  rw [hT0] at HC0 hl ⊢
  obtain ⟨T1, hT1⟩ : ∃ T1, (TX G m).E rt (kp x 1) = T1 := ⟨_, rfl⟩
  rw [hT1] at HC1 hl ⊢
  clear hx hk hs IF IE IO hkid hT hkl hK AM ok0 hn0 hT0 ok1 hn1 hT1
  generalize x.op = o at *
  generalize x.name = nm at *
  generalize x.pos = ps at *
  generalize (kp x 0).kind = ki0 at *
  generalize (kp x 0).op = op0 at *
  generalize (kp x 0).name = nm0 at *
  generalize (kp x 0).pos = ps0 at *
  generalize (kp x 1).kind = ki1 at *
  generalize (kp x 1).op = op1 at *
  generalize (kp x 1).name = nm1 at *
  generalize (kp x 1).pos = ps1 at *
  simp only [rdT, bL, List.length_append, List.length_cons, List.length_nil] at hl
  obtain ⟨W2, hW2⟩ : ∃ W2, (w.alloc (.cells #[G.s1, G.s2, G.s3, .string G.outer, .string G.power, .string G.opn, .string G.cls, .string G.left, .string G.right, .string G.minus, .string G.quote, .bool G.trains, .bool G.lone, .bool G.square, .string rt] 66)).alloc (.cells (sv (8) (o) nm (v1) (v2) (.slice (some ⟨b, off, none⟩) 2 ck) (ps)) 34) = W2 := ⟨_, rfl⟩
  have hb2 : Below w.heap.size w W2 := by rw [← hW2]; exact two_allocs _ _ _
  have s2 : W2.heap.size = w.heap.size + 2 := by rw [← hW2]; simp
  have hA : W2.heap[w.heap.size]? = some (.cells #[G.s1, G.s2, G.s3, .string G.outer, .string G.power, .string G.opn, .string G.cls, .string G.left, .string G.right, .string G.minus, .string G.quote, .bool G.trains, .bool G.lone, .bool G.square, .string rt] 66 (0, 0)) := by
    rw [← hW2]; exact (Lib.alloc_old _ _ w.heap.size (by simp)).trans (heap_alloc_new w _)
  have hNb : W2.heap[w.heap.size + 1]? = some (.cells (sv (8) (o) nm (v1) (v2) (.slice (some ⟨b, off, none⟩) 2 ck) (ps)) 34 (0, 0)) := by
    have h := heap_alloc_new (w.alloc (.cells #[G.s1, G.s2, G.s3, .string G.outer, .string G.power, .string G.opn, .string G.cls, .string G.left, .string G.right, .string G.minus, .string G.quote, .bool G.trains, .bool G.lone, .bool G.square, .string rt] 66)) (.cells (sv (8) (o) nm (v1) (v2) (.slice (some ⟨b, off, none⟩) 2 ck) (ps)) 34)
    have e : (w.alloc (.cells #[G.s1, G.s2, G.s3, .string G.outer, .string G.power, .string G.opn, .string G.cls, .string G.left, .string G.right, .string G.minus, .string G.quote, .bool G.trains, .bool G.lone, .bool G.square, .string rt] 66)).heap.size = w.heap.size + 1 := by simp
    rw [e] at h
    rw [← hW2]; exact h
  have HB23 : Hid (∀ W, Below W2.heap.size W2 W → Below w.heap.size w W) := hide fun W h => hb2.trans (h.mono hb2.size)
  have KS : Hid (∀ W, Below W2.heap.size W2 W → Below W2.heap.size W2 W ∧ W.cell? ⟨w.heap.size, 0, none⟩ = some (G.s1) ∧ W.cell? ⟨w.heap.size, 1, none⟩ = some (G.s2) ∧ W.cell? ⟨w.heap.size, 2, none⟩ = some (G.s3) ∧ W.cell? ⟨w.heap.size, 3, none⟩ = some (.string G.outer) ∧ W.cell? ⟨w.heap.size, 4, none⟩ = some (.string G.power) ∧ W.cell? ⟨w.heap.size, 5, none⟩ = some (.string G.opn) ∧ W.cell? ⟨w.heap.size, 6, none⟩ = some (.string G.cls) ∧ W.cell? ⟨w.heap.size, 7, none⟩ = some (.string G.left) ∧ W.cell? ⟨w.heap.size, 8, none⟩ = some (.string G.right) ∧ W.cell? ⟨w.heap.size, 9, none⟩ = some (.string G.minus) ∧ W.cell? ⟨w.heap.size, 10, none⟩ = some (.string G.quote) ∧ W.cell? ⟨w.heap.size, 11, none⟩ = some (.bool G.trains) ∧ W.cell? ⟨w.heap.size, 12, none⟩ = some (.bool G.lone) ∧ W.cell? ⟨w.heap.size, 13, none⟩ = some (.bool G.square) ∧ W.cell? ⟨w.heap.size, 14, none⟩ = some (.string rt) ∧ W.cell? ⟨w.heap.size + 1, 0, none⟩ = some (.int .i64 8) ∧ W.cell? ⟨w.heap.size + 1, 1, none⟩ = some (.int .i64 o) ∧ W.cell? ⟨w.heap.size + 1, 2, none⟩ = some (.string nm) ∧ W.cell? ⟨w.heap.size + 1, 3, none⟩ = some (v1) ∧ W.cell? ⟨w.heap.size + 1, 4, none⟩ = some (v2) ∧ W.cell? ⟨w.heap.size + 1, 5, none⟩ = some (.slice (some ⟨b, off, none⟩) 2 ck) ∧ W.cell? ⟨w.heap.size + 1, 6, none⟩ = some (.int .i64 ps) ∧ W.cell? ⟨b, off, none⟩ = some (.int .i64 ki0) ∧ W.cell? ⟨b, off + 1, none⟩ = some (.int .i64 op0) ∧ W.cell? ⟨b, off + 2, none⟩ = some (.string nm0) ∧ W.cell? ⟨b, off + 3, none⟩ = some (x0) ∧ W.cell? ⟨b, off + 4, none⟩ = some (y0) ∧ W.cell? ⟨b, off + 5, none⟩ = some (z0) ∧ W.cell? ⟨b, off + 6, none⟩ = some (.int .i64 ps0) ∧ W.cell? ⟨b, off + 7, none⟩ = some (.int .i64 ki1) ∧ W.cell? ⟨b, off + 8, none⟩ = some (.int .i64 op1) ∧ W.cell? ⟨b, off + 9, none⟩ = some (.string nm1) ∧ W.cell? ⟨b, off + 10, none⟩ = some (x1) ∧ W.cell? ⟨b, off + 11, none⟩ = some (y1) ∧ W.cell? ⟨b, off + 12, none⟩ = some (z1) ∧ W.cell? ⟨b, off + 13, none⟩ = some (.int .i64 ps1)) := hide fun W h => by
    have hA2 := (h.block w.heap.size (by omega)).trans hA
    have hN2 := (h.block (w.heap.size + 1) (by omega)).trans hNb
    have hW0 := hb.trans ((HB23.out W h).mono hb.size)
    obtain ⟨q00, q01, q02, q03, q04, q05, q06⟩ := hs0 W hW0
    obtain ⟨q10, q11, q12, q13, q14, q15, q16⟩ := hs1 W hW0
    exact ⟨h, (Lib.cell_of_heap hA2 0).trans rfl, (Lib.cell_of_heap hA2 1).trans rfl, (Lib.cell_of_heap hA2 2).trans rfl, (Lib.cell_of_heap hA2 3).trans rfl, (Lib.cell_of_heap hA2 4).trans rfl, (Lib.cell_of_heap hA2 5).trans rfl, (Lib.cell_of_heap hA2 6).trans rfl, (Lib.cell_of_heap hA2 7).trans rfl, (Lib.cell_of_heap hA2 8).trans rfl, (Lib.cell_of_heap hA2 9).trans rfl, (Lib.cell_of_heap hA2 10).trans rfl, (Lib.cell_of_heap hA2 11).trans rfl, (Lib.cell_of_heap hA2 12).trans rfl, (Lib.cell_of_heap hA2 13).trans rfl, (Lib.cell_of_heap hA2 14).trans rfl, (Lib.cell_of_heap hN2 0).trans rfl, (Lib.cell_of_heap hN2 1).trans rfl, (Lib.cell_of_heap hN2 2).trans rfl, (Lib.cell_of_heap hN2 3).trans rfl, (Lib.cell_of_heap hN2 4).trans rfl, (Lib.cell_of_heap hN2 5).trans rfl, (Lib.cell_of_heap hN2 6).trans rfl, q00, q01, q02, q03, q04, q05, q06, q10, q11, q12, q13, q14, q15, q16⟩
  have HD0 : Hid (∀ W, Below W2.heap.size W2 W → Calls Tryd.prog 46 #[.agg #[G.s1, G.s2, G.s3, .string G.outer, .string G.power, .string G.opn, .string G.cls, .string G.left, .string G.right, .string G.minus, .string G.quote, .bool G.trains, .bool G.lone, .bool G.square, .string rt], .agg (sv (ki0) (op0) nm0 (x0) (y0) (z0) (ps0))] W fun e w' => e = .returned (.string ⟨T0.toArray⟩) ∧ Below W2.heap.size W2 w') := hide fun W h => (HC0.out W (HB23.out W h) (by omega)).mono (by rintro e w' ⟨rfl, h2⟩; exact ⟨rfl, h.trans (h2.mono h.size)⟩)
  have HD1 : Hid (∀ W, Below W2.heap.size W2 W → Calls Tryd.prog 30 #[.agg #[G.s1, G.s2, G.s3, .string G.outer, .string G.power, .string G.opn, .string G.cls, .string G.left, .string G.right, .string G.minus, .string G.quote, .bool G.trains, .bool G.lone, .bool G.square, .string rt], .agg (sv (ki1) (op1) nm1 (x1) (y1) (z1) (ps1))] W fun e w' => e = .returned (.string ⟨T1.toArray⟩) ∧ Below W2.heap.size W2 w') := hide fun W h => (HC1.out W (HB23.out W h) (by omega)).mono (by rintro e w' ⟨rfl, h2⟩; exact ⟨rfl, h.trans (h2.mono h.size)⟩)
  have l1 : ¬ (9223372036854775807 < T0.length + 3) := by omega
  have l2 : ¬ (9223372036854775807 < T0.length + 3 + T1.length) := by omega
  have l3 : ¬ (9223372036854775807 < T0.length + 3 + T1.length + 2) := by omega
  have HD : Hid (Below W2.heap.size W2 W2.drew) := hide ((Below.refl _ _).drew)
  obtain ⟨-, -, -, -, -, -, -, -, -, -, -, -, -, -, -, -, n0, -, -, -, -, -, -, -, -, -, -, -, -, -, -, -, -, -, -, -, -⟩ := KS.out W2 (Below.refl _ _)
  unfold tV
  go_enter Tryd.func46, Tryd.ntmps46
  go_upto_region 1 with fail
  try rw [hW2]
  clear hW2 hA hNb hb2 HC0 hs0 HC1 hs1
  go_upto_region 12 with fail
  clear n0
  go_region_held3 (fun W => Below W2.heap.size W2 W ∧ W.cell? ⟨w.heap.size, 0, none⟩ = some (G.s1) ∧ W.cell? ⟨w.heap.size, 1, none⟩ = some (G.s2) ∧ W.cell? ⟨w.heap.size, 2, none⟩ = some (G.s3) ∧ W.cell? ⟨w.heap.size, 3, none⟩ = some (.string G.outer) ∧ W.cell? ⟨w.heap.size, 4, none⟩ = some (.string G.power) ∧ W.cell? ⟨w.heap.size, 5, none⟩ = some (.string G.opn) ∧ W.cell? ⟨w.heap.size, 6, none⟩ = some (.string G.cls) ∧ W.cell? ⟨w.heap.size, 7, none⟩ = some (.string G.left) ∧ W.cell? ⟨w.heap.size, 8, none⟩ = some (.string G.right) ∧ W.cell? ⟨w.heap.size, 9, none⟩ = some (.string G.minus) ∧ W.cell? ⟨w.heap.size, 10, none⟩ = some (.string G.quote) ∧ W.cell? ⟨w.heap.size, 11, none⟩ = some (.bool G.trains) ∧ W.cell? ⟨w.heap.size, 12, none⟩ = some (.bool G.lone) ∧ W.cell? ⟨w.heap.size, 13, none⟩ = some (.bool G.square) ∧ W.cell? ⟨w.heap.size, 14, none⟩ = some (.string rt) ∧ W.cell? ⟨w.heap.size + 1, 0, none⟩ = some (.int .i64 8) ∧ W.cell? ⟨w.heap.size + 1, 1, none⟩ = some (.int .i64 o) ∧ W.cell? ⟨w.heap.size + 1, 2, none⟩ = some (.string nm) ∧ W.cell? ⟨w.heap.size + 1, 3, none⟩ = some (v1) ∧ W.cell? ⟨w.heap.size + 1, 4, none⟩ = some (v2) ∧ W.cell? ⟨w.heap.size + 1, 5, none⟩ = some (.slice (some ⟨b, off, none⟩) 2 ck) ∧ W.cell? ⟨w.heap.size + 1, 6, none⟩ = some (.int .i64 ps) ∧ W.cell? ⟨b, off, none⟩ = some (.int .i64 ki0) ∧ W.cell? ⟨b, off + 1, none⟩ = some (.int .i64 op0) ∧ W.cell? ⟨b, off + 2, none⟩ = some (.string nm0) ∧ W.cell? ⟨b, off + 3, none⟩ = some (x0) ∧ W.cell? ⟨b, off + 4, none⟩ = some (y0) ∧ W.cell? ⟨b, off + 5, none⟩ = some (z0) ∧ W.cell? ⟨b, off + 6, none⟩ = some (.int .i64 ps0) ∧ W.cell? ⟨b, off + 7, none⟩ = some (.int .i64 ki1) ∧ W.cell? ⟨b, off + 8, none⟩ = some (.int .i64 op1) ∧ W.cell? ⟨b, off + 9, none⟩ = some (.string nm1) ∧ W.cell? ⟨b, off + 10, none⟩ = some (x1) ∧ W.cell? ⟨b, off + 11, none⟩ = some (y1) ∧ W.cell? ⟨b, off + 12, none⟩ = some (z1) ∧ W.cell? ⟨b, off + 13, none⟩ = some (.int .i64 ps1)) (first | with_reducible exact KS.out _ HD.out | with_reducible exact KS.out _ (by with_reducible assumption)) (first | (go_at_call 46; with_reducible refine (HD0.out _ (by first | with_reducible exact HD.out | with_reducible assumption)).mono ?_; rintro e wq ⟨rfl, hbq⟩) | (go_at_call 30; with_reducible refine (HD1.out _ (by first | with_reducible exact HD.out | with_reducible assumption)).mono ?_; rintro e wq ⟨rfl, hbq⟩))
  go_wp2
  go_ret
  refine ⟨?_, HB23.out _ (by with_reducible assumption)⟩
  show Ending.returned (Value.string ((⟨T0.toArray⟩ : ByteArray) ++ ⟨[32, 91, 32].toArray⟩ ++ ⟨T1.toArray⟩ ++ ⟨[32, 93].toArray⟩)) = _
  rw [cat_mk, cat_mk, cat_mk]
  simp [str, List.append_assoc]
set_option maxHeartbeats 4000000 in
theorem rop1 {n m : Nat} {w0 : World} {G : Gs} (AM : Rm G) (IF : RF n m w0 G) (IE : RE n m w0 G) (IO : RO n m w0 G) (rt : ByteArray) (w : World) (x : Nd) (v : Value) (hx : NdIn (m + 1) n 0 w0 x v) (hk : okN (m + 1) false x) (hs : sndA x) (hb : Below w0.heap.size w0 w) (hK : x.kind = 1) :
    Calls Tryd.prog 46 #[tV G rt, v] w fun e w' => e = .returned (.string (str (opT G (TX G m) rt x))) ∧ Below w.heap.size w w' := by
  obtain ⟨v1, v2, ak, ck, rfl, hv1, hlit, hkid⟩ := nd_kids hx
  have hT : opT G (TX G m) rt x = litT G x.lit := by simp [opT, hK]
  have hLB := hk.2.2.1 hK
  have hsn := hs 1
  have HL := hide (fun W (hW : Below w.heap.size w W) => rlit66 (G := G) (hlit.next (hb.trans (hW.mono hb.size))) hsn.2.1 hsn.2.2.1 AM.hm AM.hq)
  have hS : litS G x.lit = litT G x.lit := by unfold litS; rw [hLB]; rfl
  have hE : litE x.lit = 0 := by unfold litE; rw [hLB]; rfl
  rw [hT]
  rw [hS, hE] at HL
  unfold gV at HL
  obtain ⟨⟨la1, ll1, lc1, rfl⟩, ⟨la2, ll2, lc2, rfl⟩, ⟨la3, ll3, lc3, he3⟩⟩ := nd_slices hx
  rw [hK, he3]
  obtain ⟨LT, hLT⟩ : ∃ LT, litT G x.lit = LT := ⟨_, rfl⟩
  rw [hLT] at HL ⊢
  generalize x.op = o at *
  generalize x.name = nm at *
  generalize x.pos = ps at *
  clear hx hT hK hk hs IF IE IO hS hE hLT hLB hsn hlit hkid AM he3
  obtain ⟨W2, hW2⟩ : ∃ W2, (w.alloc (.cells #[G.s1, G.s2, G.s3, .string G.outer, .string G.power, .string G.opn, .string G.cls, .string G.left, .string G.right, .string G.minus, .string G.quote, .bool G.trains, .bool G.lone, .bool G.square, .string rt] 66)).alloc (.cells (sv (1) (o) nm (.slice la1 ll1 lc1) (.slice la2 ll2 lc2) (.slice la3 ll3 lc3) (ps)) 34) = W2 := ⟨_, rfl⟩
  have hb2 : Below w.heap.size w W2 := by rw [← hW2]; exact two_allocs _ _ _
  have s2 : W2.heap.size = w.heap.size + 2 := by rw [← hW2]; simp
  have hA : W2.heap[w.heap.size]? = some (.cells #[G.s1, G.s2, G.s3, .string G.outer, .string G.power, .string G.opn, .string G.cls, .string G.left, .string G.right, .string G.minus, .string G.quote, .bool G.trains, .bool G.lone, .bool G.square, .string rt] 66 (0, 0)) := by
    rw [← hW2]; exact (Lib.alloc_old _ _ w.heap.size (by simp)).trans (heap_alloc_new w _)
  have hNb : W2.heap[w.heap.size + 1]? = some (.cells (sv (1) (o) nm (.slice la1 ll1 lc1) (.slice la2 ll2 lc2) (.slice la3 ll3 lc3) (ps)) 34 (0, 0)) := by
    have h := heap_alloc_new (w.alloc (.cells #[G.s1, G.s2, G.s3, .string G.outer, .string G.power, .string G.opn, .string G.cls, .string G.left, .string G.right, .string G.minus, .string G.quote, .bool G.trains, .bool G.lone, .bool G.square, .string rt] 66)) (.cells (sv (1) (o) nm (.slice la1 ll1 lc1) (.slice la2 ll2 lc2) (.slice la3 ll3 lc3) (ps)) 34)
    have e : (w.alloc (.cells #[G.s1, G.s2, G.s3, .string G.outer, .string G.power, .string G.opn, .string G.cls, .string G.left, .string G.right, .string G.minus, .string G.quote, .bool G.trains, .bool G.lone, .bool G.square, .string rt] 66)).heap.size = w.heap.size + 1 := by simp
    rw [e] at h
    rw [← hW2]; exact h
  have t0 : W2.cell? ⟨w.heap.size, 0, none⟩ = some (G.s1) := (Lib.cell_of_heap hA 0).trans rfl
  have t1 : W2.cell? ⟨w.heap.size, 1, none⟩ = some (G.s2) := (Lib.cell_of_heap hA 1).trans rfl
  have t2 : W2.cell? ⟨w.heap.size, 2, none⟩ = some (G.s3) := (Lib.cell_of_heap hA 2).trans rfl
  have t3 : W2.cell? ⟨w.heap.size, 3, none⟩ = some (.string G.outer) := (Lib.cell_of_heap hA 3).trans rfl
  have t4 : W2.cell? ⟨w.heap.size, 4, none⟩ = some (.string G.power) := (Lib.cell_of_heap hA 4).trans rfl
  have t5 : W2.cell? ⟨w.heap.size, 5, none⟩ = some (.string G.opn) := (Lib.cell_of_heap hA 5).trans rfl
  have t6 : W2.cell? ⟨w.heap.size, 6, none⟩ = some (.string G.cls) := (Lib.cell_of_heap hA 6).trans rfl
  have t7 : W2.cell? ⟨w.heap.size, 7, none⟩ = some (.string G.left) := (Lib.cell_of_heap hA 7).trans rfl
  have t8 : W2.cell? ⟨w.heap.size, 8, none⟩ = some (.string G.right) := (Lib.cell_of_heap hA 8).trans rfl
  have t9 : W2.cell? ⟨w.heap.size, 9, none⟩ = some (.string G.minus) := (Lib.cell_of_heap hA 9).trans rfl
  have t10 : W2.cell? ⟨w.heap.size, 10, none⟩ = some (.string G.quote) := (Lib.cell_of_heap hA 10).trans rfl
  have t11 : W2.cell? ⟨w.heap.size, 11, none⟩ = some (.bool G.trains) := (Lib.cell_of_heap hA 11).trans rfl
  have t12 : W2.cell? ⟨w.heap.size, 12, none⟩ = some (.bool G.lone) := (Lib.cell_of_heap hA 12).trans rfl
  have t13 : W2.cell? ⟨w.heap.size, 13, none⟩ = some (.bool G.square) := (Lib.cell_of_heap hA 13).trans rfl
  have t14 : W2.cell? ⟨w.heap.size, 14, none⟩ = some (.string rt) := (Lib.cell_of_heap hA 14).trans rfl
  have n0 : W2.cell? ⟨w.heap.size + 1, 0, none⟩ = some (.int .i64 1) := (Lib.cell_of_heap hNb 0).trans rfl
  have n1 : W2.cell? ⟨w.heap.size + 1, 1, none⟩ = some (.int .i64 o) := (Lib.cell_of_heap hNb 1).trans rfl
  have n2 : W2.cell? ⟨w.heap.size + 1, 2, none⟩ = some (.string nm) := (Lib.cell_of_heap hNb 2).trans rfl
  have n3 : W2.cell? ⟨w.heap.size + 1, 3, none⟩ = some (.slice la1 ll1 lc1) := (Lib.cell_of_heap hNb 3).trans rfl
  have n4 : W2.cell? ⟨w.heap.size + 1, 4, none⟩ = some (.slice la2 ll2 lc2) := (Lib.cell_of_heap hNb 4).trans rfl
  have n5 : W2.cell? ⟨w.heap.size + 1, 5, none⟩ = some (.slice la3 ll3 lc3) := (Lib.cell_of_heap hNb 5).trans rfl
  have n6 : W2.cell? ⟨w.heap.size + 1, 6, none⟩ = some (.int .i64 ps) := (Lib.cell_of_heap hNb 6).trans rfl
  unfold tV
  have HC := hide (HL.out W2 hb2)
  go_enter Tryd.func46, Tryd.ntmps46
  go_upto_region 1 with fail
  try rw [hW2]
  have HB2 := hide hb2
  clear hW2 hA hNb hb2 HL
  go_wp2_with fail
  refine HC.out.mono ?_
  rintro e w3 ⟨rfl, hb3⟩
  have HB3 := hide (HB2.out.trans (hb3.mono HB2.out.size))
  clear HC hb3 t0 t1 t2 t3 t4 t5 t6 t7 t8 t9 t10 t11 t12 t13 t14 n0 n1 n2 n3 n4 n5 n6
  go_wp2
  go_ret
  exact ⟨rfl, HB3.out⟩
set_option maxHeartbeats 4000000 in
theorem rop2 {n m : Nat} {w0 : World} {G : Gs} (AM : Rm G) (IF : RF n m w0 G) (IE : RE n m w0 G) (IO : RO n m w0 G) (rt : ByteArray) (w : World) (x : Nd) (v : Value) (hx : NdIn (m + 1) n 0 w0 x v) (hk : okN (m + 1) false x) (hs : sndA x) (hb : Below w0.heap.size w0 w) (hK : x.kind = 2) :
    Calls Tryd.prog 46 #[tV G rt, v] w fun e w' => e = .returned (.string (str (opT G (TX G m) rt x))) ∧ Below w.heap.size w w' := by
  obtain ⟨v1, v2, v3, rfl, hv1⟩ := nd_form hx
  have hT : opT G (TX G m) rt x = bL x.name := by simp [opT, hK]
  rw [hT, hK]
  generalize x.op = o at *
  generalize x.name = nm at *
  generalize x.pos = ps at *
  clear hx hT hK hk hs IF IE IO
  obtain ⟨W2, hW2⟩ : ∃ W2, (w.alloc (.cells #[G.s1, G.s2, G.s3, .string G.outer, .string G.power, .string G.opn, .string G.cls, .string G.left, .string G.right, .string G.minus, .string G.quote, .bool G.trains, .bool G.lone, .bool G.square, .string rt] 66)).alloc (.cells (sv (2) (o) nm (v1) (v2) (v3) (ps)) 34) = W2 := ⟨_, rfl⟩
  have hb2 : Below w.heap.size w W2 := by rw [← hW2]; exact two_allocs _ _ _
  have s2 : W2.heap.size = w.heap.size + 2 := by rw [← hW2]; simp
  have hA : W2.heap[w.heap.size]? = some (.cells #[G.s1, G.s2, G.s3, .string G.outer, .string G.power, .string G.opn, .string G.cls, .string G.left, .string G.right, .string G.minus, .string G.quote, .bool G.trains, .bool G.lone, .bool G.square, .string rt] 66 (0, 0)) := by
    rw [← hW2]; exact (Lib.alloc_old _ _ w.heap.size (by simp)).trans (heap_alloc_new w _)
  have hNb : W2.heap[w.heap.size + 1]? = some (.cells (sv (2) (o) nm (v1) (v2) (v3) (ps)) 34 (0, 0)) := by
    have h := heap_alloc_new (w.alloc (.cells #[G.s1, G.s2, G.s3, .string G.outer, .string G.power, .string G.opn, .string G.cls, .string G.left, .string G.right, .string G.minus, .string G.quote, .bool G.trains, .bool G.lone, .bool G.square, .string rt] 66)) (.cells (sv (2) (o) nm (v1) (v2) (v3) (ps)) 34)
    have e : (w.alloc (.cells #[G.s1, G.s2, G.s3, .string G.outer, .string G.power, .string G.opn, .string G.cls, .string G.left, .string G.right, .string G.minus, .string G.quote, .bool G.trains, .bool G.lone, .bool G.square, .string rt] 66)).heap.size = w.heap.size + 1 := by simp
    rw [e] at h
    rw [← hW2]; exact h
  have t0 : W2.cell? ⟨w.heap.size, 0, none⟩ = some (G.s1) := (Lib.cell_of_heap hA 0).trans rfl
  have t1 : W2.cell? ⟨w.heap.size, 1, none⟩ = some (G.s2) := (Lib.cell_of_heap hA 1).trans rfl
  have t2 : W2.cell? ⟨w.heap.size, 2, none⟩ = some (G.s3) := (Lib.cell_of_heap hA 2).trans rfl
  have t3 : W2.cell? ⟨w.heap.size, 3, none⟩ = some (.string G.outer) := (Lib.cell_of_heap hA 3).trans rfl
  have t4 : W2.cell? ⟨w.heap.size, 4, none⟩ = some (.string G.power) := (Lib.cell_of_heap hA 4).trans rfl
  have t5 : W2.cell? ⟨w.heap.size, 5, none⟩ = some (.string G.opn) := (Lib.cell_of_heap hA 5).trans rfl
  have t6 : W2.cell? ⟨w.heap.size, 6, none⟩ = some (.string G.cls) := (Lib.cell_of_heap hA 6).trans rfl
  have t7 : W2.cell? ⟨w.heap.size, 7, none⟩ = some (.string G.left) := (Lib.cell_of_heap hA 7).trans rfl
  have t8 : W2.cell? ⟨w.heap.size, 8, none⟩ = some (.string G.right) := (Lib.cell_of_heap hA 8).trans rfl
  have t9 : W2.cell? ⟨w.heap.size, 9, none⟩ = some (.string G.minus) := (Lib.cell_of_heap hA 9).trans rfl
  have t10 : W2.cell? ⟨w.heap.size, 10, none⟩ = some (.string G.quote) := (Lib.cell_of_heap hA 10).trans rfl
  have t11 : W2.cell? ⟨w.heap.size, 11, none⟩ = some (.bool G.trains) := (Lib.cell_of_heap hA 11).trans rfl
  have t12 : W2.cell? ⟨w.heap.size, 12, none⟩ = some (.bool G.lone) := (Lib.cell_of_heap hA 12).trans rfl
  have t13 : W2.cell? ⟨w.heap.size, 13, none⟩ = some (.bool G.square) := (Lib.cell_of_heap hA 13).trans rfl
  have t14 : W2.cell? ⟨w.heap.size, 14, none⟩ = some (.string rt) := (Lib.cell_of_heap hA 14).trans rfl
  have n0 : W2.cell? ⟨w.heap.size + 1, 0, none⟩ = some (.int .i64 2) := (Lib.cell_of_heap hNb 0).trans rfl
  have n1 : W2.cell? ⟨w.heap.size + 1, 1, none⟩ = some (.int .i64 o) := (Lib.cell_of_heap hNb 1).trans rfl
  have n2 : W2.cell? ⟨w.heap.size + 1, 2, none⟩ = some (.string nm) := (Lib.cell_of_heap hNb 2).trans rfl
  have n3 : W2.cell? ⟨w.heap.size + 1, 3, none⟩ = some (v1) := (Lib.cell_of_heap hNb 3).trans rfl
  have n4 : W2.cell? ⟨w.heap.size + 1, 4, none⟩ = some (v2) := (Lib.cell_of_heap hNb 4).trans rfl
  have n5 : W2.cell? ⟨w.heap.size + 1, 5, none⟩ = some (v3) := (Lib.cell_of_heap hNb 5).trans rfl
  have n6 : W2.cell? ⟨w.heap.size + 1, 6, none⟩ = some (.int .i64 ps) := (Lib.cell_of_heap hNb 6).trans rfl
  unfold tV
  go_enter Tryd.func46, Tryd.ntmps46
  go_upto_region 1 with fail
  try rw [hW2]
  have HB2 := hide hb2
  clear hW2 hA hNb hb2
  go_wp2
  go_ret
  refine ⟨?_, HB2.out⟩
  exact congrArg (fun s => Ending.returned (Value.string s)) (str_mk nm)
set_option maxHeartbeats 4000000 in
theorem rop3 {n m : Nat} {w0 : World} {G : Gs} (AM : Rm G) (IF : RF n m w0 G) (IE : RE n m w0 G) (IO : RO n m w0 G) (rt : ByteArray) (w : World) (x : Nd) (v : Value) (hx : NdIn (m + 1) n 0 w0 x v) (hk : okN (m + 1) false x) (hs : sndA x) (hb : Below w0.heap.size w0 w) (hK : x.kind = 3) :
    Calls Tryd.prog 46 #[tV G rt, v] w fun e w' => e = .returned (.string (str (opT G (TX G m) rt x))) ∧ Below w.heap.size w w' := by
  obtain ⟨v1, v2, v3, rfl, hv1⟩ := nd_form hx
  have hT : opT G (TX G m) rt x = bL G.left := by simp [opT, hK]
  rw [hT, hK]
  generalize x.op = o at *
  generalize x.name = nm at *
  generalize x.pos = ps at *
  clear hx hT hK hk hs IF IE IO
  obtain ⟨W2, hW2⟩ : ∃ W2, (w.alloc (.cells #[G.s1, G.s2, G.s3, .string G.outer, .string G.power, .string G.opn, .string G.cls, .string G.left, .string G.right, .string G.minus, .string G.quote, .bool G.trains, .bool G.lone, .bool G.square, .string rt] 66)).alloc (.cells (sv (3) (o) nm (v1) (v2) (v3) (ps)) 34) = W2 := ⟨_, rfl⟩
  have hb2 : Below w.heap.size w W2 := by rw [← hW2]; exact two_allocs _ _ _
  have s2 : W2.heap.size = w.heap.size + 2 := by rw [← hW2]; simp
  have hA : W2.heap[w.heap.size]? = some (.cells #[G.s1, G.s2, G.s3, .string G.outer, .string G.power, .string G.opn, .string G.cls, .string G.left, .string G.right, .string G.minus, .string G.quote, .bool G.trains, .bool G.lone, .bool G.square, .string rt] 66 (0, 0)) := by
    rw [← hW2]; exact (Lib.alloc_old _ _ w.heap.size (by simp)).trans (heap_alloc_new w _)
  have hNb : W2.heap[w.heap.size + 1]? = some (.cells (sv (3) (o) nm (v1) (v2) (v3) (ps)) 34 (0, 0)) := by
    have h := heap_alloc_new (w.alloc (.cells #[G.s1, G.s2, G.s3, .string G.outer, .string G.power, .string G.opn, .string G.cls, .string G.left, .string G.right, .string G.minus, .string G.quote, .bool G.trains, .bool G.lone, .bool G.square, .string rt] 66)) (.cells (sv (3) (o) nm (v1) (v2) (v3) (ps)) 34)
    have e : (w.alloc (.cells #[G.s1, G.s2, G.s3, .string G.outer, .string G.power, .string G.opn, .string G.cls, .string G.left, .string G.right, .string G.minus, .string G.quote, .bool G.trains, .bool G.lone, .bool G.square, .string rt] 66)).heap.size = w.heap.size + 1 := by simp
    rw [e] at h
    rw [← hW2]; exact h
  have t0 : W2.cell? ⟨w.heap.size, 0, none⟩ = some (G.s1) := (Lib.cell_of_heap hA 0).trans rfl
  have t1 : W2.cell? ⟨w.heap.size, 1, none⟩ = some (G.s2) := (Lib.cell_of_heap hA 1).trans rfl
  have t2 : W2.cell? ⟨w.heap.size, 2, none⟩ = some (G.s3) := (Lib.cell_of_heap hA 2).trans rfl
  have t3 : W2.cell? ⟨w.heap.size, 3, none⟩ = some (.string G.outer) := (Lib.cell_of_heap hA 3).trans rfl
  have t4 : W2.cell? ⟨w.heap.size, 4, none⟩ = some (.string G.power) := (Lib.cell_of_heap hA 4).trans rfl
  have t5 : W2.cell? ⟨w.heap.size, 5, none⟩ = some (.string G.opn) := (Lib.cell_of_heap hA 5).trans rfl
  have t6 : W2.cell? ⟨w.heap.size, 6, none⟩ = some (.string G.cls) := (Lib.cell_of_heap hA 6).trans rfl
  have t7 : W2.cell? ⟨w.heap.size, 7, none⟩ = some (.string G.left) := (Lib.cell_of_heap hA 7).trans rfl
  have t8 : W2.cell? ⟨w.heap.size, 8, none⟩ = some (.string G.right) := (Lib.cell_of_heap hA 8).trans rfl
  have t9 : W2.cell? ⟨w.heap.size, 9, none⟩ = some (.string G.minus) := (Lib.cell_of_heap hA 9).trans rfl
  have t10 : W2.cell? ⟨w.heap.size, 10, none⟩ = some (.string G.quote) := (Lib.cell_of_heap hA 10).trans rfl
  have t11 : W2.cell? ⟨w.heap.size, 11, none⟩ = some (.bool G.trains) := (Lib.cell_of_heap hA 11).trans rfl
  have t12 : W2.cell? ⟨w.heap.size, 12, none⟩ = some (.bool G.lone) := (Lib.cell_of_heap hA 12).trans rfl
  have t13 : W2.cell? ⟨w.heap.size, 13, none⟩ = some (.bool G.square) := (Lib.cell_of_heap hA 13).trans rfl
  have t14 : W2.cell? ⟨w.heap.size, 14, none⟩ = some (.string rt) := (Lib.cell_of_heap hA 14).trans rfl
  have n0 : W2.cell? ⟨w.heap.size + 1, 0, none⟩ = some (.int .i64 3) := (Lib.cell_of_heap hNb 0).trans rfl
  have n1 : W2.cell? ⟨w.heap.size + 1, 1, none⟩ = some (.int .i64 o) := (Lib.cell_of_heap hNb 1).trans rfl
  have n2 : W2.cell? ⟨w.heap.size + 1, 2, none⟩ = some (.string nm) := (Lib.cell_of_heap hNb 2).trans rfl
  have n3 : W2.cell? ⟨w.heap.size + 1, 3, none⟩ = some (v1) := (Lib.cell_of_heap hNb 3).trans rfl
  have n4 : W2.cell? ⟨w.heap.size + 1, 4, none⟩ = some (v2) := (Lib.cell_of_heap hNb 4).trans rfl
  have n5 : W2.cell? ⟨w.heap.size + 1, 5, none⟩ = some (v3) := (Lib.cell_of_heap hNb 5).trans rfl
  have n6 : W2.cell? ⟨w.heap.size + 1, 6, none⟩ = some (.int .i64 ps) := (Lib.cell_of_heap hNb 6).trans rfl
  unfold tV
  go_enter Tryd.func46, Tryd.ntmps46
  go_upto_region 1 with fail
  try rw [hW2]
  have HB2 := hide hb2
  clear hW2 hA hNb hb2
  go_wp2
  go_ret
  refine ⟨?_, HB2.out⟩
  exact congrArg (fun s => Ending.returned (Value.string s)) (str_mk G.left)
set_option maxHeartbeats 4000000 in
theorem rop4 {n m : Nat} {w0 : World} {G : Gs} (AM : Rm G) (IF : RF n m w0 G) (IE : RE n m w0 G) (IO : RO n m w0 G) (rt : ByteArray) (w : World) (x : Nd) (v : Value) (hx : NdIn (m + 1) n 0 w0 x v) (hk : okN (m + 1) false x) (hs : sndA x) (hb : Below w0.heap.size w0 w) (hK : x.kind = 4) :
    Calls Tryd.prog 46 #[tV G rt, v] w fun e w' => e = .returned (.string (str (opT G (TX G m) rt x))) ∧ Below w.heap.size w w' := by
  obtain ⟨v1, v2, v3, rfl, hv1⟩ := nd_form hx
  have hT : opT G (TX G m) rt x = bL rt := by simp [opT, hK]
  rw [hT, hK]
  generalize x.op = o at *
  generalize x.name = nm at *
  generalize x.pos = ps at *
  clear hx hT hK hk hs IF IE IO
  obtain ⟨W2, hW2⟩ : ∃ W2, (w.alloc (.cells #[G.s1, G.s2, G.s3, .string G.outer, .string G.power, .string G.opn, .string G.cls, .string G.left, .string G.right, .string G.minus, .string G.quote, .bool G.trains, .bool G.lone, .bool G.square, .string rt] 66)).alloc (.cells (sv (4) (o) nm (v1) (v2) (v3) (ps)) 34) = W2 := ⟨_, rfl⟩
  have hb2 : Below w.heap.size w W2 := by rw [← hW2]; exact two_allocs _ _ _
  have s2 : W2.heap.size = w.heap.size + 2 := by rw [← hW2]; simp
  have hA : W2.heap[w.heap.size]? = some (.cells #[G.s1, G.s2, G.s3, .string G.outer, .string G.power, .string G.opn, .string G.cls, .string G.left, .string G.right, .string G.minus, .string G.quote, .bool G.trains, .bool G.lone, .bool G.square, .string rt] 66 (0, 0)) := by
    rw [← hW2]; exact (Lib.alloc_old _ _ w.heap.size (by simp)).trans (heap_alloc_new w _)
  have hNb : W2.heap[w.heap.size + 1]? = some (.cells (sv (4) (o) nm (v1) (v2) (v3) (ps)) 34 (0, 0)) := by
    have h := heap_alloc_new (w.alloc (.cells #[G.s1, G.s2, G.s3, .string G.outer, .string G.power, .string G.opn, .string G.cls, .string G.left, .string G.right, .string G.minus, .string G.quote, .bool G.trains, .bool G.lone, .bool G.square, .string rt] 66)) (.cells (sv (4) (o) nm (v1) (v2) (v3) (ps)) 34)
    have e : (w.alloc (.cells #[G.s1, G.s2, G.s3, .string G.outer, .string G.power, .string G.opn, .string G.cls, .string G.left, .string G.right, .string G.minus, .string G.quote, .bool G.trains, .bool G.lone, .bool G.square, .string rt] 66)).heap.size = w.heap.size + 1 := by simp
    rw [e] at h
    rw [← hW2]; exact h
  have t0 : W2.cell? ⟨w.heap.size, 0, none⟩ = some (G.s1) := (Lib.cell_of_heap hA 0).trans rfl
  have t1 : W2.cell? ⟨w.heap.size, 1, none⟩ = some (G.s2) := (Lib.cell_of_heap hA 1).trans rfl
  have t2 : W2.cell? ⟨w.heap.size, 2, none⟩ = some (G.s3) := (Lib.cell_of_heap hA 2).trans rfl
  have t3 : W2.cell? ⟨w.heap.size, 3, none⟩ = some (.string G.outer) := (Lib.cell_of_heap hA 3).trans rfl
  have t4 : W2.cell? ⟨w.heap.size, 4, none⟩ = some (.string G.power) := (Lib.cell_of_heap hA 4).trans rfl
  have t5 : W2.cell? ⟨w.heap.size, 5, none⟩ = some (.string G.opn) := (Lib.cell_of_heap hA 5).trans rfl
  have t6 : W2.cell? ⟨w.heap.size, 6, none⟩ = some (.string G.cls) := (Lib.cell_of_heap hA 6).trans rfl
  have t7 : W2.cell? ⟨w.heap.size, 7, none⟩ = some (.string G.left) := (Lib.cell_of_heap hA 7).trans rfl
  have t8 : W2.cell? ⟨w.heap.size, 8, none⟩ = some (.string G.right) := (Lib.cell_of_heap hA 8).trans rfl
  have t9 : W2.cell? ⟨w.heap.size, 9, none⟩ = some (.string G.minus) := (Lib.cell_of_heap hA 9).trans rfl
  have t10 : W2.cell? ⟨w.heap.size, 10, none⟩ = some (.string G.quote) := (Lib.cell_of_heap hA 10).trans rfl
  have t11 : W2.cell? ⟨w.heap.size, 11, none⟩ = some (.bool G.trains) := (Lib.cell_of_heap hA 11).trans rfl
  have t12 : W2.cell? ⟨w.heap.size, 12, none⟩ = some (.bool G.lone) := (Lib.cell_of_heap hA 12).trans rfl
  have t13 : W2.cell? ⟨w.heap.size, 13, none⟩ = some (.bool G.square) := (Lib.cell_of_heap hA 13).trans rfl
  have t14 : W2.cell? ⟨w.heap.size, 14, none⟩ = some (.string rt) := (Lib.cell_of_heap hA 14).trans rfl
  have n0 : W2.cell? ⟨w.heap.size + 1, 0, none⟩ = some (.int .i64 4) := (Lib.cell_of_heap hNb 0).trans rfl
  have n1 : W2.cell? ⟨w.heap.size + 1, 1, none⟩ = some (.int .i64 o) := (Lib.cell_of_heap hNb 1).trans rfl
  have n2 : W2.cell? ⟨w.heap.size + 1, 2, none⟩ = some (.string nm) := (Lib.cell_of_heap hNb 2).trans rfl
  have n3 : W2.cell? ⟨w.heap.size + 1, 3, none⟩ = some (v1) := (Lib.cell_of_heap hNb 3).trans rfl
  have n4 : W2.cell? ⟨w.heap.size + 1, 4, none⟩ = some (v2) := (Lib.cell_of_heap hNb 4).trans rfl
  have n5 : W2.cell? ⟨w.heap.size + 1, 5, none⟩ = some (v3) := (Lib.cell_of_heap hNb 5).trans rfl
  have n6 : W2.cell? ⟨w.heap.size + 1, 6, none⟩ = some (.int .i64 ps) := (Lib.cell_of_heap hNb 6).trans rfl
  unfold tV
  go_enter Tryd.func46, Tryd.ntmps46
  go_upto_region 1 with fail
  try rw [hW2]
  have HB2 := hide hb2
  clear hW2 hA hNb hb2
  go_wp2
  go_ret
  refine ⟨?_, HB2.out⟩
  exact congrArg (fun s => Ending.returned (Value.string s)) (str_mk rt)
set_option maxHeartbeats 4000000 in
theorem rex5f {n m : Nat} {w0 : World} {G : Gs} (AM : Rm G) (IF : RF n m w0 G) (IE : RE n m w0 G) (IO : RO n m w0 G) (rt : ByteArray) (w : World) (x : Nd) (v : Value) (hx : NdIn (m + 1) n 0 w0 x v) (hk : okN (m + 1) false x) (hs : sndA x) (hb : Below w0.heap.size w0 w) (hK : x.kind = 5) (hlo : G.lone = false) (hl : (exA G (TX G m) rt x).length ≤ 140737488355328) :
    Calls Tryd.prog 30 #[tV G rt, v] w fun e w' => e = .returned (.string (str (exA G (TX G m) rt x))) ∧ Below w.heap.size w w' := by
  obtain ⟨v1, v2, ak, ck, rfl, hv1, hA0, hkid⟩ := nd_kids hx
  have hkl : x.kids.length = 2 := by have := hk.1; rw [hK] at this; unfold arK at this; simp at this; first | omega | (rw [this]; rfl)
  have hT : exA G (TX G m) rt x = apF (TX G m).F (kp x 0) ++ ([32] ++ (TX G m).E rt (kp x 1)) := by simp [exA, oneT, hK, hlo]
  rw [hT] at hl ⊢
  obtain ⟨b, off, x0, y0, z0, rfl, hn0, hs0⟩ := hkid 0 (by omega)
  obtain ⟨b1, off1, x1, y1, z1, e1, hn1, hs1⟩ := hkid 1 (by omega)
  cases e1
  have ok0 := hk.2.2.2 0 (by omega)
  rw [show fnP x.kind 0 = true by rw [hK]; rfl] at ok0
  have ok1 := hk.2.2.2 1 (by omega)
  rw [show fnP x.kind 1 = false by rw [hK]; rfl] at ok1
  obtain ⟨⟨da, la, ea, rfl⟩, ⟨db, lb, eb, rfl⟩, ⟨dc, lc, ec, rfl⟩⟩ := nd_slices hn0
  have HC0 := hide (fun W (hW : Below w.heap.size w W) hl => rapp45 AM IF rt W (kp x 0) _ hn0 ok0 (hs.kid (by omega)) (hb.trans (hW.mono hb.size)) hl)
  have HC1 := hide (fun W (hW : Below w.heap.size w W) hl => IE rt W (kp x 1) _ hn1 ok1 (hs.kid (by omega)) (hb.trans (hW.mono hb.size)) hl)
  rw [hK, hkl]
  have hsl := AM.hsl
  obtain ⟨T0, hT0⟩ : ∃ T0, apF (TX G m).F (kp x 0) = T0 := ⟨_, rfl⟩
  rw [hT0] at HC0 hl ⊢
  obtain ⟨T1, hT1⟩ : ∃ T1, (TX G m).E rt (kp x 1) = T1 := ⟨_, rfl⟩
  rw [hT1] at HC1 hl ⊢
  clear hx hk hs IF IE IO hkid hT hkl hK ok0 ok1 hn0 hn1 hT0 hT1 AM
  generalize x.op = o at *
  generalize x.name = nm at *
  generalize x.pos = ps at *
  generalize (kp x 0).kind = ki0 at *
  generalize (kp x 0).op = op0 at *
  generalize (kp x 0).name = nm0 at *
  generalize (kp x 0).pos = ps0 at *
  generalize (kp x 1).kind = ki1 at *
  generalize (kp x 1).op = op1 at *
  generalize (kp x 1).name = nm1 at *
  generalize (kp x 1).pos = ps1 at *
  simp only [List.length_append, List.length_cons, List.length_nil] at hl
  unfold tV at HC1 ⊢
  unfold tV at HC0
  rw [hlo] at HC1 HC0 ⊢
  clear hlo
  generalize G.s1 = S1 at *
  generalize G.s2 = S2 at *
  generalize G.s3 = S3 at *
  obtain ⟨a1, n1, c1, a2, n2, c2, a3, n3, c3, rfl, rfl, rfl⟩ := hsl
  obtain ⟨W2, hW2⟩ : ∃ W2, (w.alloc (.cells #[.slice a1 n1 c1, .slice a2 n2 c2, .slice a3 n3 c3, .string G.outer, .string G.power, .string G.opn, .string G.cls, .string G.left, .string G.right, .string G.minus, .string G.quote, .bool G.trains, .bool false, .bool G.square, .string rt] 66)).alloc (.cells (sv (5) (o) nm (v1) (v2) (.slice (some ⟨b, off, none⟩) 2 ck) (ps)) 34) = W2 := ⟨_, rfl⟩
  have hb2 : Below w.heap.size w W2 := by rw [← hW2]; exact two_allocs _ _ _
  have s2 : W2.heap.size = w.heap.size + 2 := by rw [← hW2]; simp
  have hA : W2.heap[w.heap.size]? = some (.cells #[.slice a1 n1 c1, .slice a2 n2 c2, .slice a3 n3 c3, .string G.outer, .string G.power, .string G.opn, .string G.cls, .string G.left, .string G.right, .string G.minus, .string G.quote, .bool G.trains, .bool false, .bool G.square, .string rt] 66 (0, 0)) := by
    rw [← hW2]; exact (Lib.alloc_old _ _ w.heap.size (by simp)).trans (heap_alloc_new w _)
  have hNb : W2.heap[w.heap.size + 1]? = some (.cells (sv (5) (o) nm (v1) (v2) (.slice (some ⟨b, off, none⟩) 2 ck) (ps)) 34 (0, 0)) := by
    have h := heap_alloc_new (w.alloc (.cells #[.slice a1 n1 c1, .slice a2 n2 c2, .slice a3 n3 c3, .string G.outer, .string G.power, .string G.opn, .string G.cls, .string G.left, .string G.right, .string G.minus, .string G.quote, .bool G.trains, .bool false, .bool G.square, .string rt] 66)) (.cells (sv (5) (o) nm (v1) (v2) (.slice (some ⟨b, off, none⟩) 2 ck) (ps)) 34)
    have e : (w.alloc (.cells #[.slice a1 n1 c1, .slice a2 n2 c2, .slice a3 n3 c3, .string G.outer, .string G.power, .string G.opn, .string G.cls, .string G.left, .string G.right, .string G.minus, .string G.quote, .bool G.trains, .bool false, .bool G.square, .string rt] 66)).heap.size = w.heap.size + 1 := by simp
    rw [e] at h
    rw [← hW2]; exact h
  have HB22 : Hid (∀ W, Below W2.heap.size W2 W → Below w.heap.size w W) := hide fun W h => hb2.trans (h.mono hb2.size)
  have n0 : W2.cell? ⟨w.heap.size + 1, 0, none⟩ = some (.int .i64 5) := (Lib.cell_of_heap hNb 0).trans rfl
  have n5 : W2.cell? ⟨w.heap.size + 1, 5, none⟩ = some (.slice (some ⟨b, off, none⟩) 2 ck) := (Lib.cell_of_heap hNb 5).trans rfl
  obtain ⟨q0, q1, q2, q3, q4, q5, q6⟩ := hs0 W2 (hb.trans (hb2.mono hb.size))
  rw [Nat.zero_mul, Nat.add_zero] at q0 q1 q2 q3 q4 q5 q6
  obtain ⟨W3, hW3⟩ : ∃ W3, W2.alloc (.cells (sv (ki0) (op0) nm0 (.slice da la ea) (.slice db lb eb) (.slice dc lc ec) (ps0)) 34) = W3 := ⟨_, rfl⟩
  have hb3 : Below W2.heap.size W2 W3 := by rw [← hW3]; exact alloc_one _ _
  have s3 : W3.heap.size = w.heap.size + 3 := by rw [← hW3]; simp [s2]
  have hC : W3.heap[w.heap.size + 2]? = some (.cells (sv (ki0) (op0) nm0 (.slice da la ea) (.slice db lb eb) (.slice dc lc ec) (ps0)) 34 (0, 0)) := by rw [← hW3, ← s2]; exact heap_alloc_new W2 _
  have hA3 : W3.heap[w.heap.size]? = _ := (hb3.block w.heap.size (by omega)).trans hA
  have hN3 : W3.heap[w.heap.size + 1]? = _ := (hb3.block (w.heap.size + 1) (by omega)).trans hNb
  have HB23 : Hid (∀ W, Below W3.heap.size W3 W → Below w.heap.size w W) := hide fun W h => HB22.out W (hb3.trans (h.mono hb3.size))
  have KS : Hid (∀ W, Below W3.heap.size W3 W → Below W3.heap.size W3 W ∧ W.cell? ⟨w.heap.size, 0, none⟩ = some (.slice a1 n1 c1) ∧ W.cell? ⟨w.heap.size, 1, none⟩ = some (.slice a2 n2 c2) ∧ W.cell? ⟨w.heap.size, 2, none⟩ = some (.slice a3 n3 c3) ∧ W.cell? ⟨w.heap.size, 3, none⟩ = some (.string G.outer) ∧ W.cell? ⟨w.heap.size, 4, none⟩ = some (.string G.power) ∧ W.cell? ⟨w.heap.size, 5, none⟩ = some (.string G.opn) ∧ W.cell? ⟨w.heap.size, 6, none⟩ = some (.string G.cls) ∧ W.cell? ⟨w.heap.size, 7, none⟩ = some (.string G.left) ∧ W.cell? ⟨w.heap.size, 8, none⟩ = some (.string G.right) ∧ W.cell? ⟨w.heap.size, 9, none⟩ = some (.string G.minus) ∧ W.cell? ⟨w.heap.size, 10, none⟩ = some (.string G.quote) ∧ W.cell? ⟨w.heap.size, 11, none⟩ = some (.bool G.trains) ∧ W.cell? ⟨w.heap.size, 12, none⟩ = some (.bool false) ∧ W.cell? ⟨w.heap.size, 13, none⟩ = some (.bool G.square) ∧ W.cell? ⟨w.heap.size, 14, none⟩ = some (.string rt) ∧ W.cell? ⟨w.heap.size + 1, 0, none⟩ = some (.int .i64 5) ∧ W.cell? ⟨w.heap.size + 1, 1, none⟩ = some (.int .i64 o) ∧ W.cell? ⟨w.heap.size + 1, 2, none⟩ = some (.string nm) ∧ W.cell? ⟨w.heap.size + 1, 3, none⟩ = some (v1) ∧ W.cell? ⟨w.heap.size + 1, 4, none⟩ = some (v2) ∧ W.cell? ⟨w.heap.size + 1, 5, none⟩ = some (.slice (some ⟨b, off, none⟩) 2 ck) ∧ W.cell? ⟨w.heap.size + 1, 6, none⟩ = some (.int .i64 ps) ∧ W.cell? ⟨w.heap.size + 2, 0, none⟩ = some (.int .i64 ki0) ∧ W.cell? ⟨w.heap.size + 2, 1, none⟩ = some (.int .i64 op0) ∧ W.cell? ⟨w.heap.size + 2, 2, none⟩ = some (.string nm0) ∧ W.cell? ⟨w.heap.size + 2, 3, none⟩ = some (.slice da la ea) ∧ W.cell? ⟨w.heap.size + 2, 4, none⟩ = some (.slice db lb eb) ∧ W.cell? ⟨w.heap.size + 2, 5, none⟩ = some (.slice dc lc ec) ∧ W.cell? ⟨w.heap.size + 2, 6, none⟩ = some (.int .i64 ps0) ∧ W.cell? ⟨b, off + 7, none⟩ = some (.int .i64 ki1) ∧ W.cell? ⟨b, off + 8, none⟩ = some (.int .i64 op1) ∧ W.cell? ⟨b, off + 9, none⟩ = some (.string nm1) ∧ W.cell? ⟨b, off + 10, none⟩ = some (x1) ∧ W.cell? ⟨b, off + 11, none⟩ = some (y1) ∧ W.cell? ⟨b, off + 12, none⟩ = some (z1) ∧ W.cell? ⟨b, off + 13, none⟩ = some (.int .i64 ps1)) := hide fun W h => by
    have hA2 := (h.block w.heap.size (by omega)).trans hA3
    have hM2 := (h.block (w.heap.size + 1) (by omega)).trans hN3
    have hN2 := (h.block (w.heap.size + 2) (by omega)).trans hC
    have hW0 := hb.trans ((HB23.out W h).mono hb.size)
    obtain ⟨q10, q11, q12, q13, q14, q15, q16⟩ := hs1 W hW0
    exact ⟨h, (Lib.cell_of_heap hA2 0).trans rfl, (Lib.cell_of_heap hA2 1).trans rfl, (Lib.cell_of_heap hA2 2).trans rfl, (Lib.cell_of_heap hA2 3).trans rfl, (Lib.cell_of_heap hA2 4).trans rfl, (Lib.cell_of_heap hA2 5).trans rfl, (Lib.cell_of_heap hA2 6).trans rfl, (Lib.cell_of_heap hA2 7).trans rfl, (Lib.cell_of_heap hA2 8).trans rfl, (Lib.cell_of_heap hA2 9).trans rfl, (Lib.cell_of_heap hA2 10).trans rfl, (Lib.cell_of_heap hA2 11).trans rfl, (Lib.cell_of_heap hA2 12).trans rfl, (Lib.cell_of_heap hA2 13).trans rfl, (Lib.cell_of_heap hA2 14).trans rfl, (Lib.cell_of_heap hM2 0).trans rfl, (Lib.cell_of_heap hM2 1).trans rfl, (Lib.cell_of_heap hM2 2).trans rfl, (Lib.cell_of_heap hM2 3).trans rfl, (Lib.cell_of_heap hM2 4).trans rfl, (Lib.cell_of_heap hM2 5).trans rfl, (Lib.cell_of_heap hM2 6).trans rfl, (Lib.cell_of_heap hN2 0).trans rfl, (Lib.cell_of_heap hN2 1).trans rfl, (Lib.cell_of_heap hN2 2).trans rfl, (Lib.cell_of_heap hN2 3).trans rfl, (Lib.cell_of_heap hN2 4).trans rfl, (Lib.cell_of_heap hN2 5).trans rfl, (Lib.cell_of_heap hN2 6).trans rfl, q10, q11, q12, q13, q14, q15, q16⟩
  have HD1 : Hid (∀ W, Below W3.heap.size W3 W → Calls Tryd.prog 30 #[.agg #[.slice a1 n1 c1, .slice a2 n2 c2, .slice a3 n3 c3, .string G.outer, .string G.power, .string G.opn, .string G.cls, .string G.left, .string G.right, .string G.minus, .string G.quote, .bool G.trains, .bool false, .bool G.square, .string rt], .agg (sv (ki1) (op1) nm1 (x1) (y1) (z1) (ps1))] W fun e w' => e = .returned (.string ⟨T1.toArray⟩) ∧ Below W3.heap.size W3 w') := hide fun W h => (HC1.out W (HB23.out W h) (by omega)).mono (by rintro e w' ⟨rfl, h2⟩; exact ⟨rfl, h.trans (h2.mono h.size)⟩)
  have HD0 : Hid (∀ W, Below W3.heap.size W3 W → Calls Tryd.prog 45 #[.agg #[.slice a1 n1 c1, .slice a2 n2 c2, .slice a3 n3 c3, .string G.outer, .string G.power, .string G.opn, .string G.cls, .string G.left, .string G.right, .string G.minus, .string G.quote, .bool G.trains, .bool false, .bool G.square, .string rt], .agg (sv (ki0) (op0) nm0 (.slice da la ea) (.slice db lb eb) (.slice dc lc ec) (ps0))] W fun e w' => e = .returned (.string ⟨T0.toArray⟩) ∧ Below W3.heap.size W3 w') := hide fun W h => (HC0.out W (HB23.out W h) (by omega)).mono (by rintro e w' ⟨rfl, h2⟩; exact ⟨rfl, h.trans (h2.mono h.size)⟩)
  have l1 : ¬ (9223372036854775807 < T0.length + 1) := by omega
  have l2 : ¬ (9223372036854775807 < T0.length + 1 + T1.length) := by omega
  have HD : Hid (Below W3.heap.size W3 W3.drew) := hide ((Below.refl _ _).drew)
  have t12 : W2.cell? ⟨w.heap.size, 12, none⟩ = some (.bool false) := (Lib.cell_of_heap hA 12).trans rfl
  have HW3 := hide hW3
  clear hW3
  go_enter Tryd.func30, Tryd.ntmps30
  go_upto_region 1 with fail
  try rw [hW2]
  clear hW2 hA hNb hb2 HC0 HC1 hs0 hs1 hA3 hN3 
  go_upto_region 3 with fail
  try rw [HW3.out]
  clear t12 n0 n5 q0 q1 q2 q3 q4 q5 q6 HW3 hb3 hC
  obtain ⟨-, -, -, -, -, -, -, -, -, -, -, -, -, t12, -, -, -, -, -, -, -, -, -, c0, -, -, -, -, -, -, -, -, -, -, -, -, -⟩ := KS.out W3 (Below.refl _ _)
  go_upto_region 5 with fail
  clear t12 c0
  go_region_held3 (fun W => Below W3.heap.size W3 W ∧ W.cell? ⟨w.heap.size, 0, none⟩ = some (.slice a1 n1 c1) ∧ W.cell? ⟨w.heap.size, 1, none⟩ = some (.slice a2 n2 c2) ∧ W.cell? ⟨w.heap.size, 2, none⟩ = some (.slice a3 n3 c3) ∧ W.cell? ⟨w.heap.size, 3, none⟩ = some (.string G.outer) ∧ W.cell? ⟨w.heap.size, 4, none⟩ = some (.string G.power) ∧ W.cell? ⟨w.heap.size, 5, none⟩ = some (.string G.opn) ∧ W.cell? ⟨w.heap.size, 6, none⟩ = some (.string G.cls) ∧ W.cell? ⟨w.heap.size, 7, none⟩ = some (.string G.left) ∧ W.cell? ⟨w.heap.size, 8, none⟩ = some (.string G.right) ∧ W.cell? ⟨w.heap.size, 9, none⟩ = some (.string G.minus) ∧ W.cell? ⟨w.heap.size, 10, none⟩ = some (.string G.quote) ∧ W.cell? ⟨w.heap.size, 11, none⟩ = some (.bool G.trains) ∧ W.cell? ⟨w.heap.size, 12, none⟩ = some (.bool false) ∧ W.cell? ⟨w.heap.size, 13, none⟩ = some (.bool G.square) ∧ W.cell? ⟨w.heap.size, 14, none⟩ = some (.string rt) ∧ W.cell? ⟨w.heap.size + 1, 0, none⟩ = some (.int .i64 5) ∧ W.cell? ⟨w.heap.size + 1, 1, none⟩ = some (.int .i64 o) ∧ W.cell? ⟨w.heap.size + 1, 2, none⟩ = some (.string nm) ∧ W.cell? ⟨w.heap.size + 1, 3, none⟩ = some (v1) ∧ W.cell? ⟨w.heap.size + 1, 4, none⟩ = some (v2) ∧ W.cell? ⟨w.heap.size + 1, 5, none⟩ = some (.slice (some ⟨b, off, none⟩) 2 ck) ∧ W.cell? ⟨w.heap.size + 1, 6, none⟩ = some (.int .i64 ps) ∧ W.cell? ⟨w.heap.size + 2, 0, none⟩ = some (.int .i64 ki0) ∧ W.cell? ⟨w.heap.size + 2, 1, none⟩ = some (.int .i64 op0) ∧ W.cell? ⟨w.heap.size + 2, 2, none⟩ = some (.string nm0) ∧ W.cell? ⟨w.heap.size + 2, 3, none⟩ = some (.slice da la ea) ∧ W.cell? ⟨w.heap.size + 2, 4, none⟩ = some (.slice db lb eb) ∧ W.cell? ⟨w.heap.size + 2, 5, none⟩ = some (.slice dc lc ec) ∧ W.cell? ⟨w.heap.size + 2, 6, none⟩ = some (.int .i64 ps0) ∧ W.cell? ⟨b, off + 7, none⟩ = some (.int .i64 ki1) ∧ W.cell? ⟨b, off + 8, none⟩ = some (.int .i64 op1) ∧ W.cell? ⟨b, off + 9, none⟩ = some (.string nm1) ∧ W.cell? ⟨b, off + 10, none⟩ = some (x1) ∧ W.cell? ⟨b, off + 11, none⟩ = some (y1) ∧ W.cell? ⟨b, off + 12, none⟩ = some (z1) ∧ W.cell? ⟨b, off + 13, none⟩ = some (.int .i64 ps1)) (first | with_reducible exact KS.out _ HD.out | with_reducible exact KS.out _ (by with_reducible assumption)) (first | (go_at_call 30; with_reducible refine (HD1.out _ (by first | with_reducible exact HD.out | with_reducible assumption)).mono ?_; rintro e wq ⟨rfl, hbq⟩) | (go_at_call 45; with_reducible refine (HD0.out _ (by first | with_reducible exact HD.out | with_reducible assumption)).mono ?_; rintro e wq ⟨rfl, hbq⟩))
  go_wp2
  go_ret
  refine ⟨?_, HB23.out _ (by with_reducible assumption)⟩
  show Ending.returned (Value.string ((⟨T0.toArray⟩ : ByteArray) ++ ⟨#[32]⟩ ++ ⟨T1.toArray⟩)) = _
  rw [cat3]
  rfl
set_option maxHeartbeats 4000000 in
theorem rex5t {n m : Nat} {w0 : World} {G : Gs} (AM : Rm G) (IF : RF n m w0 G) (IE : RE n m w0 G) (IO : RO n m w0 G) (rt : ByteArray) (w : World) (x : Nd) (v : Value) (hx : NdIn (m + 1) n 0 w0 x v) (hk : okN (m + 1) false x) (hs : sndA x) (hb : Below w0.heap.size w0 w) (hK : x.kind = 5) (hlo : G.lone = true) (hk0 : ¬ (kp x 0).kind = 26) (hl : (exA G (TX G m) rt x).length ≤ 140737488355328) :
    Calls Tryd.prog 30 #[tV G rt, v] w fun e w' => e = .returned (.string (str (exA G (TX G m) rt x))) ∧ Below w.heap.size w w' := by
  obtain ⟨v1, v2, ak, ck, rfl, hv1, hA0, hkid⟩ := nd_kids hx
  have hkl : x.kids.length = 2 := by have := hk.1; rw [hK] at this; unfold arK at this; simp at this; first | omega | (rw [this]; rfl)
  have hT : exA G (TX G m) rt x = apF (TX G m).F (kp x 0) ++ ([32] ++ (TX G m).E rt (kp x 1)) := by simp [exA, oneT, hK, hlo, hk0]
  rw [hT] at hl ⊢
  obtain ⟨b, off, x0, y0, z0, rfl, hn0, hs0⟩ := hkid 0 (by omega)
  obtain ⟨b1, off1, x1, y1, z1, e1, hn1, hs1⟩ := hkid 1 (by omega)
  cases e1
  have ok0 := hk.2.2.2 0 (by omega)
  rw [show fnP x.kind 0 = true by rw [hK]; rfl] at ok0
  have ok1 := hk.2.2.2 1 (by omega)
  rw [show fnP x.kind 1 = false by rw [hK]; rfl] at ok1
  obtain ⟨⟨da, la, ea, rfl⟩, ⟨db, lb, eb, rfl⟩, ⟨dc, lc, ec, rfl⟩⟩ := nd_slices hn0
  have HC0 := hide (fun W (hW : Below w.heap.size w W) hl => rapp45 AM IF rt W (kp x 0) _ hn0 ok0 (hs.kid (by omega)) (hb.trans (hW.mono hb.size)) hl)
  have HC1 := hide (fun W (hW : Below w.heap.size w W) hl => IE rt W (kp x 1) _ hn1 ok1 (hs.kid (by omega)) (hb.trans (hW.mono hb.size)) hl)
  rw [hK, hkl]
  have hsl := AM.hsl
  obtain ⟨T0, hT0⟩ : ∃ T0, apF (TX G m).F (kp x 0) = T0 := ⟨_, rfl⟩
  rw [hT0] at HC0 hl ⊢
  obtain ⟨T1, hT1⟩ : ∃ T1, (TX G m).E rt (kp x 1) = T1 := ⟨_, rfl⟩
  rw [hT1] at HC1 hl ⊢
  clear hx hk hs IF IE IO hkid hT hkl hK ok0 ok1 hn0 hn1 hT0 hT1 AM
  generalize x.op = o at *
  generalize x.name = nm at *
  generalize x.pos = ps at *
  generalize (kp x 0).kind = ki0 at *
  generalize (kp x 0).op = op0 at *
  generalize (kp x 0).name = nm0 at *
  generalize (kp x 0).pos = ps0 at *
  generalize (kp x 1).kind = ki1 at *
  generalize (kp x 1).op = op1 at *
  generalize (kp x 1).name = nm1 at *
  generalize (kp x 1).pos = ps1 at *
  simp only [List.length_append, List.length_cons, List.length_nil] at hl
  unfold tV at HC1 ⊢
  unfold tV at HC0
  rw [hlo] at HC1 HC0 ⊢
  clear hlo
  generalize G.s1 = S1 at *
  generalize G.s2 = S2 at *
  generalize G.s3 = S3 at *
  obtain ⟨a1, n1, c1, a2, n2, c2, a3, n3, c3, rfl, rfl, rfl⟩ := hsl
  obtain ⟨W2, hW2⟩ : ∃ W2, (w.alloc (.cells #[.slice a1 n1 c1, .slice a2 n2 c2, .slice a3 n3 c3, .string G.outer, .string G.power, .string G.opn, .string G.cls, .string G.left, .string G.right, .string G.minus, .string G.quote, .bool G.trains, .bool true, .bool G.square, .string rt] 66)).alloc (.cells (sv (5) (o) nm (v1) (v2) (.slice (some ⟨b, off, none⟩) 2 ck) (ps)) 34) = W2 := ⟨_, rfl⟩
  have hb2 : Below w.heap.size w W2 := by rw [← hW2]; exact two_allocs _ _ _
  have s2 : W2.heap.size = w.heap.size + 2 := by rw [← hW2]; simp
  have hA : W2.heap[w.heap.size]? = some (.cells #[.slice a1 n1 c1, .slice a2 n2 c2, .slice a3 n3 c3, .string G.outer, .string G.power, .string G.opn, .string G.cls, .string G.left, .string G.right, .string G.minus, .string G.quote, .bool G.trains, .bool true, .bool G.square, .string rt] 66 (0, 0)) := by
    rw [← hW2]; exact (Lib.alloc_old _ _ w.heap.size (by simp)).trans (heap_alloc_new w _)
  have hNb : W2.heap[w.heap.size + 1]? = some (.cells (sv (5) (o) nm (v1) (v2) (.slice (some ⟨b, off, none⟩) 2 ck) (ps)) 34 (0, 0)) := by
    have h := heap_alloc_new (w.alloc (.cells #[.slice a1 n1 c1, .slice a2 n2 c2, .slice a3 n3 c3, .string G.outer, .string G.power, .string G.opn, .string G.cls, .string G.left, .string G.right, .string G.minus, .string G.quote, .bool G.trains, .bool true, .bool G.square, .string rt] 66)) (.cells (sv (5) (o) nm (v1) (v2) (.slice (some ⟨b, off, none⟩) 2 ck) (ps)) 34)
    have e : (w.alloc (.cells #[.slice a1 n1 c1, .slice a2 n2 c2, .slice a3 n3 c3, .string G.outer, .string G.power, .string G.opn, .string G.cls, .string G.left, .string G.right, .string G.minus, .string G.quote, .bool G.trains, .bool true, .bool G.square, .string rt] 66)).heap.size = w.heap.size + 1 := by simp
    rw [e] at h
    rw [← hW2]; exact h
  have HB22 : Hid (∀ W, Below W2.heap.size W2 W → Below w.heap.size w W) := hide fun W h => hb2.trans (h.mono hb2.size)
  have n0 : W2.cell? ⟨w.heap.size + 1, 0, none⟩ = some (.int .i64 5) := (Lib.cell_of_heap hNb 0).trans rfl
  have n5 : W2.cell? ⟨w.heap.size + 1, 5, none⟩ = some (.slice (some ⟨b, off, none⟩) 2 ck) := (Lib.cell_of_heap hNb 5).trans rfl
  obtain ⟨q0, q1, q2, q3, q4, q5, q6⟩ := hs0 W2 (hb.trans (hb2.mono hb.size))
  rw [Nat.zero_mul, Nat.add_zero] at q0 q1 q2 q3 q4 q5 q6
  obtain ⟨W3, hW3⟩ : ∃ W3, W2.alloc (.cells (sv (ki0) (op0) nm0 (.slice da la ea) (.slice db lb eb) (.slice dc lc ec) (ps0)) 34) = W3 := ⟨_, rfl⟩
  have hb3 : Below W2.heap.size W2 W3 := by rw [← hW3]; exact alloc_one _ _
  have s3 : W3.heap.size = w.heap.size + 3 := by rw [← hW3]; simp [s2]
  have hC : W3.heap[w.heap.size + 2]? = some (.cells (sv (ki0) (op0) nm0 (.slice da la ea) (.slice db lb eb) (.slice dc lc ec) (ps0)) 34 (0, 0)) := by rw [← hW3, ← s2]; exact heap_alloc_new W2 _
  have hA3 : W3.heap[w.heap.size]? = _ := (hb3.block w.heap.size (by omega)).trans hA
  have hN3 : W3.heap[w.heap.size + 1]? = _ := (hb3.block (w.heap.size + 1) (by omega)).trans hNb
  have HB23 : Hid (∀ W, Below W3.heap.size W3 W → Below w.heap.size w W) := hide fun W h => HB22.out W (hb3.trans (h.mono hb3.size))
  have KS : Hid (∀ W, Below W3.heap.size W3 W → Below W3.heap.size W3 W ∧ W.cell? ⟨w.heap.size, 0, none⟩ = some (.slice a1 n1 c1) ∧ W.cell? ⟨w.heap.size, 1, none⟩ = some (.slice a2 n2 c2) ∧ W.cell? ⟨w.heap.size, 2, none⟩ = some (.slice a3 n3 c3) ∧ W.cell? ⟨w.heap.size, 3, none⟩ = some (.string G.outer) ∧ W.cell? ⟨w.heap.size, 4, none⟩ = some (.string G.power) ∧ W.cell? ⟨w.heap.size, 5, none⟩ = some (.string G.opn) ∧ W.cell? ⟨w.heap.size, 6, none⟩ = some (.string G.cls) ∧ W.cell? ⟨w.heap.size, 7, none⟩ = some (.string G.left) ∧ W.cell? ⟨w.heap.size, 8, none⟩ = some (.string G.right) ∧ W.cell? ⟨w.heap.size, 9, none⟩ = some (.string G.minus) ∧ W.cell? ⟨w.heap.size, 10, none⟩ = some (.string G.quote) ∧ W.cell? ⟨w.heap.size, 11, none⟩ = some (.bool G.trains) ∧ W.cell? ⟨w.heap.size, 12, none⟩ = some (.bool true) ∧ W.cell? ⟨w.heap.size, 13, none⟩ = some (.bool G.square) ∧ W.cell? ⟨w.heap.size, 14, none⟩ = some (.string rt) ∧ W.cell? ⟨w.heap.size + 1, 0, none⟩ = some (.int .i64 5) ∧ W.cell? ⟨w.heap.size + 1, 1, none⟩ = some (.int .i64 o) ∧ W.cell? ⟨w.heap.size + 1, 2, none⟩ = some (.string nm) ∧ W.cell? ⟨w.heap.size + 1, 3, none⟩ = some (v1) ∧ W.cell? ⟨w.heap.size + 1, 4, none⟩ = some (v2) ∧ W.cell? ⟨w.heap.size + 1, 5, none⟩ = some (.slice (some ⟨b, off, none⟩) 2 ck) ∧ W.cell? ⟨w.heap.size + 1, 6, none⟩ = some (.int .i64 ps) ∧ W.cell? ⟨w.heap.size + 2, 0, none⟩ = some (.int .i64 ki0) ∧ W.cell? ⟨w.heap.size + 2, 1, none⟩ = some (.int .i64 op0) ∧ W.cell? ⟨w.heap.size + 2, 2, none⟩ = some (.string nm0) ∧ W.cell? ⟨w.heap.size + 2, 3, none⟩ = some (.slice da la ea) ∧ W.cell? ⟨w.heap.size + 2, 4, none⟩ = some (.slice db lb eb) ∧ W.cell? ⟨w.heap.size + 2, 5, none⟩ = some (.slice dc lc ec) ∧ W.cell? ⟨w.heap.size + 2, 6, none⟩ = some (.int .i64 ps0) ∧ W.cell? ⟨b, off + 7, none⟩ = some (.int .i64 ki1) ∧ W.cell? ⟨b, off + 8, none⟩ = some (.int .i64 op1) ∧ W.cell? ⟨b, off + 9, none⟩ = some (.string nm1) ∧ W.cell? ⟨b, off + 10, none⟩ = some (x1) ∧ W.cell? ⟨b, off + 11, none⟩ = some (y1) ∧ W.cell? ⟨b, off + 12, none⟩ = some (z1) ∧ W.cell? ⟨b, off + 13, none⟩ = some (.int .i64 ps1)) := hide fun W h => by
    have hA2 := (h.block w.heap.size (by omega)).trans hA3
    have hM2 := (h.block (w.heap.size + 1) (by omega)).trans hN3
    have hN2 := (h.block (w.heap.size + 2) (by omega)).trans hC
    have hW0 := hb.trans ((HB23.out W h).mono hb.size)
    obtain ⟨q10, q11, q12, q13, q14, q15, q16⟩ := hs1 W hW0
    exact ⟨h, (Lib.cell_of_heap hA2 0).trans rfl, (Lib.cell_of_heap hA2 1).trans rfl, (Lib.cell_of_heap hA2 2).trans rfl, (Lib.cell_of_heap hA2 3).trans rfl, (Lib.cell_of_heap hA2 4).trans rfl, (Lib.cell_of_heap hA2 5).trans rfl, (Lib.cell_of_heap hA2 6).trans rfl, (Lib.cell_of_heap hA2 7).trans rfl, (Lib.cell_of_heap hA2 8).trans rfl, (Lib.cell_of_heap hA2 9).trans rfl, (Lib.cell_of_heap hA2 10).trans rfl, (Lib.cell_of_heap hA2 11).trans rfl, (Lib.cell_of_heap hA2 12).trans rfl, (Lib.cell_of_heap hA2 13).trans rfl, (Lib.cell_of_heap hA2 14).trans rfl, (Lib.cell_of_heap hM2 0).trans rfl, (Lib.cell_of_heap hM2 1).trans rfl, (Lib.cell_of_heap hM2 2).trans rfl, (Lib.cell_of_heap hM2 3).trans rfl, (Lib.cell_of_heap hM2 4).trans rfl, (Lib.cell_of_heap hM2 5).trans rfl, (Lib.cell_of_heap hM2 6).trans rfl, (Lib.cell_of_heap hN2 0).trans rfl, (Lib.cell_of_heap hN2 1).trans rfl, (Lib.cell_of_heap hN2 2).trans rfl, (Lib.cell_of_heap hN2 3).trans rfl, (Lib.cell_of_heap hN2 4).trans rfl, (Lib.cell_of_heap hN2 5).trans rfl, (Lib.cell_of_heap hN2 6).trans rfl, q10, q11, q12, q13, q14, q15, q16⟩
  have HD1 : Hid (∀ W, Below W3.heap.size W3 W → Calls Tryd.prog 30 #[.agg #[.slice a1 n1 c1, .slice a2 n2 c2, .slice a3 n3 c3, .string G.outer, .string G.power, .string G.opn, .string G.cls, .string G.left, .string G.right, .string G.minus, .string G.quote, .bool G.trains, .bool true, .bool G.square, .string rt], .agg (sv (ki1) (op1) nm1 (x1) (y1) (z1) (ps1))] W fun e w' => e = .returned (.string ⟨T1.toArray⟩) ∧ Below W3.heap.size W3 w') := hide fun W h => (HC1.out W (HB23.out W h) (by omega)).mono (by rintro e w' ⟨rfl, h2⟩; exact ⟨rfl, h.trans (h2.mono h.size)⟩)
  have HD0 : Hid (∀ W, Below W3.heap.size W3 W → Calls Tryd.prog 45 #[.agg #[.slice a1 n1 c1, .slice a2 n2 c2, .slice a3 n3 c3, .string G.outer, .string G.power, .string G.opn, .string G.cls, .string G.left, .string G.right, .string G.minus, .string G.quote, .bool G.trains, .bool true, .bool G.square, .string rt], .agg (sv (ki0) (op0) nm0 (.slice da la ea) (.slice db lb eb) (.slice dc lc ec) (ps0))] W fun e w' => e = .returned (.string ⟨T0.toArray⟩) ∧ Below W3.heap.size W3 w') := hide fun W h => (HC0.out W (HB23.out W h) (by omega)).mono (by rintro e w' ⟨rfl, h2⟩; exact ⟨rfl, h.trans (h2.mono h.size)⟩)
  have l1 : ¬ (9223372036854775807 < T0.length + 1) := by omega
  have l2 : ¬ (9223372036854775807 < T0.length + 1 + T1.length) := by omega
  have HD : Hid (Below W3.heap.size W3 W3.drew) := hide ((Below.refl _ _).drew)
  have t12 : W2.cell? ⟨w.heap.size, 12, none⟩ = some (.bool true) := (Lib.cell_of_heap hA 12).trans rfl
  have HW3 := hide hW3
  clear hW3
  go_enter Tryd.func30, Tryd.ntmps30
  go_upto_region 1 with fail
  try rw [hW2]
  clear hW2 hA hNb hb2 HC0 HC1 hs0 hs1 hA3 hN3 
  go_upto_region 3 with fail
  try rw [HW3.out]
  clear t12 n0 n5 q0 q1 q2 q3 q4 q5 q6 HW3 hb3 hC
  obtain ⟨-, -, -, -, -, -, -, -, -, -, -, -, -, t12, -, -, -, -, -, -, -, -, -, c0, -, -, -, -, -, -, -, -, -, -, -, -, -⟩ := KS.out W3 (Below.refl _ _)
  have hk0' : (ki0 == 26) = false := beq_eq_false_iff_ne.2 hk0
  clear hk0
  go_upto_region 5 with fail
  clear t12 c0 hk0'
  go_region_held3 (fun W => Below W3.heap.size W3 W ∧ W.cell? ⟨w.heap.size, 0, none⟩ = some (.slice a1 n1 c1) ∧ W.cell? ⟨w.heap.size, 1, none⟩ = some (.slice a2 n2 c2) ∧ W.cell? ⟨w.heap.size, 2, none⟩ = some (.slice a3 n3 c3) ∧ W.cell? ⟨w.heap.size, 3, none⟩ = some (.string G.outer) ∧ W.cell? ⟨w.heap.size, 4, none⟩ = some (.string G.power) ∧ W.cell? ⟨w.heap.size, 5, none⟩ = some (.string G.opn) ∧ W.cell? ⟨w.heap.size, 6, none⟩ = some (.string G.cls) ∧ W.cell? ⟨w.heap.size, 7, none⟩ = some (.string G.left) ∧ W.cell? ⟨w.heap.size, 8, none⟩ = some (.string G.right) ∧ W.cell? ⟨w.heap.size, 9, none⟩ = some (.string G.minus) ∧ W.cell? ⟨w.heap.size, 10, none⟩ = some (.string G.quote) ∧ W.cell? ⟨w.heap.size, 11, none⟩ = some (.bool G.trains) ∧ W.cell? ⟨w.heap.size, 12, none⟩ = some (.bool true) ∧ W.cell? ⟨w.heap.size, 13, none⟩ = some (.bool G.square) ∧ W.cell? ⟨w.heap.size, 14, none⟩ = some (.string rt) ∧ W.cell? ⟨w.heap.size + 1, 0, none⟩ = some (.int .i64 5) ∧ W.cell? ⟨w.heap.size + 1, 1, none⟩ = some (.int .i64 o) ∧ W.cell? ⟨w.heap.size + 1, 2, none⟩ = some (.string nm) ∧ W.cell? ⟨w.heap.size + 1, 3, none⟩ = some (v1) ∧ W.cell? ⟨w.heap.size + 1, 4, none⟩ = some (v2) ∧ W.cell? ⟨w.heap.size + 1, 5, none⟩ = some (.slice (some ⟨b, off, none⟩) 2 ck) ∧ W.cell? ⟨w.heap.size + 1, 6, none⟩ = some (.int .i64 ps) ∧ W.cell? ⟨w.heap.size + 2, 0, none⟩ = some (.int .i64 ki0) ∧ W.cell? ⟨w.heap.size + 2, 1, none⟩ = some (.int .i64 op0) ∧ W.cell? ⟨w.heap.size + 2, 2, none⟩ = some (.string nm0) ∧ W.cell? ⟨w.heap.size + 2, 3, none⟩ = some (.slice da la ea) ∧ W.cell? ⟨w.heap.size + 2, 4, none⟩ = some (.slice db lb eb) ∧ W.cell? ⟨w.heap.size + 2, 5, none⟩ = some (.slice dc lc ec) ∧ W.cell? ⟨w.heap.size + 2, 6, none⟩ = some (.int .i64 ps0) ∧ W.cell? ⟨b, off + 7, none⟩ = some (.int .i64 ki1) ∧ W.cell? ⟨b, off + 8, none⟩ = some (.int .i64 op1) ∧ W.cell? ⟨b, off + 9, none⟩ = some (.string nm1) ∧ W.cell? ⟨b, off + 10, none⟩ = some (x1) ∧ W.cell? ⟨b, off + 11, none⟩ = some (y1) ∧ W.cell? ⟨b, off + 12, none⟩ = some (z1) ∧ W.cell? ⟨b, off + 13, none⟩ = some (.int .i64 ps1)) (first | with_reducible exact KS.out _ HD.out | with_reducible exact KS.out _ (by with_reducible assumption)) (first | (go_at_call 30; with_reducible refine (HD1.out _ (by first | with_reducible exact HD.out | with_reducible assumption)).mono ?_; rintro e wq ⟨rfl, hbq⟩) | (go_at_call 45; with_reducible refine (HD0.out _ (by first | with_reducible exact HD.out | with_reducible assumption)).mono ?_; rintro e wq ⟨rfl, hbq⟩))
  go_wp2
  go_ret
  refine ⟨?_, HB23.out _ (by with_reducible assumption)⟩
  show Ending.returned (Value.string ((⟨T0.toArray⟩ : ByteArray) ++ ⟨#[32]⟩ ++ ⟨T1.toArray⟩)) = _
  rw [cat3]
  rfl
set_option maxHeartbeats 4000000 in
theorem rex5a {n m : Nat} {w0 : World} {G : Gs} (AM : Rm G) (IF : RF n m w0 G) (IE : RE n m w0 G) (IO : RO n m w0 G) (rt : ByteArray) (w : World) (x : Nd) (v : Value) (hx : NdIn (m + 1) n 0 w0 x v) (hk : okN (m + 1) false x) (hs : sndA x) (hb : Below w0.heap.size w0 w) (hK : x.kind = 5) (hlo : G.lone = true) (hk0 : (kp x 0).kind = 26) (hl : (exA G (TX G m) rt x).length ≤ 140737488355328) :
    Calls Tryd.prog 30 #[tV G rt, v] w fun e w' => e = .returned (.string (str (exA G (TX G m) rt x))) ∧ Below w.heap.size w w' := by
  obtain ⟨v1, v2, ak, ck, rfl, hv1, hA0, hkid⟩ := nd_kids hx
  have hkl : x.kids.length = 2 := by have := hk.1; rw [hK] at this; unfold arK at this; simp at this; first | omega | (rw [this]; rfl)
  have hT : exA G (TX G m) rt x = numT (kp x 0).op (bL G.minus) ++ ([32] ++ (TX G m).F (kp (kp x 0) 0)) ++ [47] ++ ([32] ++ (TX G m).E rt (kp x 1)) := by simp [exA, oneT, hK, hlo, hk0]
  rw [hT] at hl ⊢
  obtain ⟨b, off, x0, y0, z0, rfl, hn0, hs0⟩ := hkid 0 (by omega)
  obtain ⟨b1, off1, x1, y1, z1, e1, hn1, hs1⟩ := hkid 1 (by omega)
  cases e1
  have ok0 := hk.2.2.2 0 (by omega)
  rw [show fnP x.kind 0 = true by rw [hK]; rfl] at ok0
  have ok1 := hk.2.2.2 1 (by omega)
  rw [show fnP x.kind 1 = false by rw [hK]; rfl] at ok1
  obtain ⟨m, rfl⟩ : ∃ m', m = m' + 1 := by
    cases m with
    | zero => exact hn0.elim
    | succ m => exact ⟨m, rfl⟩
  have hkl2 : (kp x 0).kids.length = 1 := by have := ok0.1; rw [hk0] at this; unfold arK at this; simp at this; first | omega | (rw [this]; rfl)
  obtain ⟨da, la, ea, db, lb, eb, dc, ec, hbx, hkk⟩ : ∃ da la ea db lb eb dc ec, (x0 = .slice da la ea ∧ y0 = .slice db lb eb ∧ z0 = .slice dc 1 ec) ∧ ∃ b2 off2 x2 y2 z2, dc = some ⟨b2, off2, none⟩ ∧ NdIn m n 0 w0 (kp (kp x 0) 0) (.agg (sv (kp (kp x 0) 0).kind (kp (kp x 0) 0).op (kp (kp x 0) 0).name x2 y2 z2 (kp (kp x 0) 0).pos)) ∧ ∀ W, Below w0.heap.size w0 W → Sv7 W b2 (off2 + 0 * 7) (kp (kp x 0) 0).kind (kp (kp x 0) 0).op (kp (kp x 0) 0).name x2 y2 z2 (kp (kp x 0) 0).pos := by
    obtain ⟨⟨da, la, ea, rfl⟩, ⟨db, lb, eb, rfl⟩, ⟨dc, lc, ec, rfl⟩⟩ := nd_slices hn0
    obtain ⟨u1, u2, uk, cu, hu, -, -, hkid2⟩ := nd_kids hn0
    unfold sv at hu
    simp only [Value.agg.injEq, Array.mk.injEq, List.cons.injEq, and_true, true_and, Value.slice.injEq] at hu
    obtain ⟨-, -, hu1, hu2, hu3⟩ := hu
    rw [hkl2] at hu2
    obtain ⟨b2, off2, x2, y2, z2, he2, hn2, hs2⟩ := hkid2 0 (by omega)
    refine ⟨da, la, ea, db, lb, eb, dc, ec, ⟨rfl, rfl, ?_⟩, b2, off2, x2, y2, z2, ?_, hn2, hs2⟩
    · rw [hu2]
    · rw [hu1, he2]
  obtain ⟨rfl, rfl, rfl⟩ := hbx
  obtain ⟨b2, off2, x2, y2, z2, rfl, hn2, hs2⟩ := hkk
  have ok2 := ok0.2.2.2 0 (by omega)
  rw [show fnP (kp x 0).kind 0 = true by rw [hk0]; rfl] at ok2
  have HC2 := hide (fun W (hW : Below w.heap.size w W) hl => IF rt W (kp (kp x 0) 0) _ hn2.deeper ok2.deeper ((hs.kid (i := 0) (by omega)).kid (by omega)) (hb.trans (hW.mono hb.size)) hl)
  have HOP := hide (hs.kid (i := 0) (by omega)).op
  have hm := AM.hm
  rw [hk0] at hs0
  have HC1 := hide (fun W (hW : Below w.heap.size w W) hl => IE rt W (kp x 1) _ hn1 ok1 (hs.kid (by omega)) (hb.trans (hW.mono hb.size)) hl)
  rw [hK, hkl]
  have hsl := AM.hsl
  obtain ⟨T0, hT0⟩ : ∃ T0, (TX G (m + 1)).F (kp (kp x 0) 0) = T0 := ⟨_, rfl⟩
  rw [hT0] at HC2 hl ⊢
  obtain ⟨T1, hT1⟩ : ∃ T1, (TX G (m + 1)).E rt (kp x 1) = T1 := ⟨_, rfl⟩
  rw [hT1] at HC1 hl ⊢
  clear hx hk hs IF IE IO hkid hT hkl hK ok0 ok1 ok2 hn0 hn1 hn2 hT0 hT1 AM hkl2 hk0
  generalize x.op = o at *
  generalize x.name = nm at *
  generalize x.pos = ps at *
  generalize (kp (kp x 0) 0).kind = ki2 at *
  generalize (kp (kp x 0) 0).op = op2 at *
  generalize (kp (kp x 0) 0).name = nm2 at *
  generalize (kp (kp x 0) 0).pos = ps2 at *
  generalize (kp x 0).op = op0 at *
  generalize (kp x 0).name = nm0 at *
  generalize (kp x 0).pos = ps0 at *
  generalize (kp x 1).kind = ki1 at *
  generalize (kp x 1).op = op1 at *
  generalize (kp x 1).name = nm1 at *
  generalize (kp x 1).pos = ps1 at *
  have HN : Hid (∀ W, Calls Tryd.prog 6 #[.int .i64 op0, .string G.minus] W fun e w' => e = .returned (.string ⟨(numT op0 (bL G.minus)).toArray⟩) ∧ Below W.heap.size W w') := hide fun W => rnum6 op0 G.minus (by omega) HOP.out.1 HOP.out.2 W
  obtain ⟨N, hN⟩ : ∃ N, numT op0 (bL G.minus) = N := ⟨_, rfl⟩
  rw [hN] at HN hl ⊢
  clear hN HOP hm
  simp only [List.length_append, List.length_cons, List.length_nil] at hl
  unfold tV at HC1 ⊢
  unfold tV at HC2
  rw [hlo] at HC1 HC2 ⊢
  clear hlo
  generalize G.s1 = S1 at *
  generalize G.s2 = S2 at *
  generalize G.s3 = S3 at *
  obtain ⟨a1, n1, c1, a2, n2, c2, a3, n3, c3, rfl, rfl, rfl⟩ := hsl
  obtain ⟨W2, hW2⟩ : ∃ W2, (w.alloc (.cells #[.slice a1 n1 c1, .slice a2 n2 c2, .slice a3 n3 c3, .string G.outer, .string G.power, .string G.opn, .string G.cls, .string G.left, .string G.right, .string G.minus, .string G.quote, .bool G.trains, .bool true, .bool G.square, .string rt] 66)).alloc (.cells (sv (5) (o) nm (v1) (v2) (.slice (some ⟨b, off, none⟩) 2 ck) (ps)) 34) = W2 := ⟨_, rfl⟩
  have hb2 : Below w.heap.size w W2 := by rw [← hW2]; exact two_allocs _ _ _
  have s2 : W2.heap.size = w.heap.size + 2 := by rw [← hW2]; simp
  have hA : W2.heap[w.heap.size]? = some (.cells #[.slice a1 n1 c1, .slice a2 n2 c2, .slice a3 n3 c3, .string G.outer, .string G.power, .string G.opn, .string G.cls, .string G.left, .string G.right, .string G.minus, .string G.quote, .bool G.trains, .bool true, .bool G.square, .string rt] 66 (0, 0)) := by
    rw [← hW2]; exact (Lib.alloc_old _ _ w.heap.size (by simp)).trans (heap_alloc_new w _)
  have hNb : W2.heap[w.heap.size + 1]? = some (.cells (sv (5) (o) nm (v1) (v2) (.slice (some ⟨b, off, none⟩) 2 ck) (ps)) 34 (0, 0)) := by
    have h := heap_alloc_new (w.alloc (.cells #[.slice a1 n1 c1, .slice a2 n2 c2, .slice a3 n3 c3, .string G.outer, .string G.power, .string G.opn, .string G.cls, .string G.left, .string G.right, .string G.minus, .string G.quote, .bool G.trains, .bool true, .bool G.square, .string rt] 66)) (.cells (sv (5) (o) nm (v1) (v2) (.slice (some ⟨b, off, none⟩) 2 ck) (ps)) 34)
    have e : (w.alloc (.cells #[.slice a1 n1 c1, .slice a2 n2 c2, .slice a3 n3 c3, .string G.outer, .string G.power, .string G.opn, .string G.cls, .string G.left, .string G.right, .string G.minus, .string G.quote, .bool G.trains, .bool true, .bool G.square, .string rt] 66)).heap.size = w.heap.size + 1 := by simp
    rw [e] at h
    rw [← hW2]; exact h
  have HB22 : Hid (∀ W, Below W2.heap.size W2 W → Below w.heap.size w W) := hide fun W h => hb2.trans (h.mono hb2.size)
  have n0 : W2.cell? ⟨w.heap.size + 1, 0, none⟩ = some (.int .i64 5) := (Lib.cell_of_heap hNb 0).trans rfl
  have n5 : W2.cell? ⟨w.heap.size + 1, 5, none⟩ = some (.slice (some ⟨b, off, none⟩) 2 ck) := (Lib.cell_of_heap hNb 5).trans rfl
  obtain ⟨q0, q1, q2, q3, q4, q5, q6⟩ := hs0 W2 (hb.trans (hb2.mono hb.size))
  rw [Nat.zero_mul, Nat.add_zero] at q0 q1 q2 q3 q4 q5 q6
  obtain ⟨W3, hW3⟩ : ∃ W3, W2.alloc (.cells (sv (26) (op0) nm0 (.slice da la ea) (.slice db lb eb) (.slice (some ⟨b2, off2, none⟩) 1 ec) (ps0)) 34) = W3 := ⟨_, rfl⟩
  have hb3 : Below W2.heap.size W2 W3 := by rw [← hW3]; exact alloc_one _ _
  have s3 : W3.heap.size = w.heap.size + 3 := by rw [← hW3]; simp [s2]
  have hC : W3.heap[w.heap.size + 2]? = some (.cells (sv (26) (op0) nm0 (.slice da la ea) (.slice db lb eb) (.slice (some ⟨b2, off2, none⟩) 1 ec) (ps0)) 34 (0, 0)) := by rw [← hW3, ← s2]; exact heap_alloc_new W2 _
  have hA3 : W3.heap[w.heap.size]? = _ := (hb3.block w.heap.size (by omega)).trans hA
  have hN3 : W3.heap[w.heap.size + 1]? = _ := (hb3.block (w.heap.size + 1) (by omega)).trans hNb
  have HB23 : Hid (∀ W, Below W3.heap.size W3 W → Below w.heap.size w W) := hide fun W h => HB22.out W (hb3.trans (h.mono hb3.size))
  have KS : Hid (∀ W, Below W3.heap.size W3 W → Below W3.heap.size W3 W ∧ W.cell? ⟨w.heap.size, 0, none⟩ = some (.slice a1 n1 c1) ∧ W.cell? ⟨w.heap.size, 1, none⟩ = some (.slice a2 n2 c2) ∧ W.cell? ⟨w.heap.size, 2, none⟩ = some (.slice a3 n3 c3) ∧ W.cell? ⟨w.heap.size, 3, none⟩ = some (.string G.outer) ∧ W.cell? ⟨w.heap.size, 4, none⟩ = some (.string G.power) ∧ W.cell? ⟨w.heap.size, 5, none⟩ = some (.string G.opn) ∧ W.cell? ⟨w.heap.size, 6, none⟩ = some (.string G.cls) ∧ W.cell? ⟨w.heap.size, 7, none⟩ = some (.string G.left) ∧ W.cell? ⟨w.heap.size, 8, none⟩ = some (.string G.right) ∧ W.cell? ⟨w.heap.size, 9, none⟩ = some (.string G.minus) ∧ W.cell? ⟨w.heap.size, 10, none⟩ = some (.string G.quote) ∧ W.cell? ⟨w.heap.size, 11, none⟩ = some (.bool G.trains) ∧ W.cell? ⟨w.heap.size, 12, none⟩ = some (.bool true) ∧ W.cell? ⟨w.heap.size, 13, none⟩ = some (.bool G.square) ∧ W.cell? ⟨w.heap.size, 14, none⟩ = some (.string rt) ∧ W.cell? ⟨w.heap.size + 1, 0, none⟩ = some (.int .i64 5) ∧ W.cell? ⟨w.heap.size + 1, 1, none⟩ = some (.int .i64 o) ∧ W.cell? ⟨w.heap.size + 1, 2, none⟩ = some (.string nm) ∧ W.cell? ⟨w.heap.size + 1, 3, none⟩ = some (v1) ∧ W.cell? ⟨w.heap.size + 1, 4, none⟩ = some (v2) ∧ W.cell? ⟨w.heap.size + 1, 5, none⟩ = some (.slice (some ⟨b, off, none⟩) 2 ck) ∧ W.cell? ⟨w.heap.size + 1, 6, none⟩ = some (.int .i64 ps) ∧ W.cell? ⟨w.heap.size + 2, 0, none⟩ = some (.int .i64 26) ∧ W.cell? ⟨w.heap.size + 2, 1, none⟩ = some (.int .i64 op0) ∧ W.cell? ⟨w.heap.size + 2, 2, none⟩ = some (.string nm0) ∧ W.cell? ⟨w.heap.size + 2, 3, none⟩ = some (.slice da la ea) ∧ W.cell? ⟨w.heap.size + 2, 4, none⟩ = some (.slice db lb eb) ∧ W.cell? ⟨w.heap.size + 2, 5, none⟩ = some (.slice (some ⟨b2, off2, none⟩) 1 ec) ∧ W.cell? ⟨w.heap.size + 2, 6, none⟩ = some (.int .i64 ps0) ∧ W.cell? ⟨b, off + 7, none⟩ = some (.int .i64 ki1) ∧ W.cell? ⟨b, off + 8, none⟩ = some (.int .i64 op1) ∧ W.cell? ⟨b, off + 9, none⟩ = some (.string nm1) ∧ W.cell? ⟨b, off + 10, none⟩ = some (x1) ∧ W.cell? ⟨b, off + 11, none⟩ = some (y1) ∧ W.cell? ⟨b, off + 12, none⟩ = some (z1) ∧ W.cell? ⟨b, off + 13, none⟩ = some (.int .i64 ps1) ∧ W.cell? ⟨b2, off2, none⟩ = some (.int .i64 ki2) ∧ W.cell? ⟨b2, off2 + 1, none⟩ = some (.int .i64 op2) ∧ W.cell? ⟨b2, off2 + 2, none⟩ = some (.string nm2) ∧ W.cell? ⟨b2, off2 + 3, none⟩ = some (x2) ∧ W.cell? ⟨b2, off2 + 4, none⟩ = some (y2) ∧ W.cell? ⟨b2, off2 + 5, none⟩ = some (z2) ∧ W.cell? ⟨b2, off2 + 6, none⟩ = some (.int .i64 ps2)) := hide fun W h => by
    have hA2 := (h.block w.heap.size (by omega)).trans hA3
    have hM2 := (h.block (w.heap.size + 1) (by omega)).trans hN3
    have hN2 := (h.block (w.heap.size + 2) (by omega)).trans hC
    have hW0 := hb.trans ((HB23.out W h).mono hb.size)
    obtain ⟨q10, q11, q12, q13, q14, q15, q16⟩ := hs1 W hW0
    obtain ⟨q20, q21, q22, q23, q24, q25, q26⟩ := hs2 W hW0
    rw [Nat.zero_mul, Nat.add_zero] at q20 q21 q22 q23 q24 q25 q26
    exact ⟨h, (Lib.cell_of_heap hA2 0).trans rfl, (Lib.cell_of_heap hA2 1).trans rfl, (Lib.cell_of_heap hA2 2).trans rfl, (Lib.cell_of_heap hA2 3).trans rfl, (Lib.cell_of_heap hA2 4).trans rfl, (Lib.cell_of_heap hA2 5).trans rfl, (Lib.cell_of_heap hA2 6).trans rfl, (Lib.cell_of_heap hA2 7).trans rfl, (Lib.cell_of_heap hA2 8).trans rfl, (Lib.cell_of_heap hA2 9).trans rfl, (Lib.cell_of_heap hA2 10).trans rfl, (Lib.cell_of_heap hA2 11).trans rfl, (Lib.cell_of_heap hA2 12).trans rfl, (Lib.cell_of_heap hA2 13).trans rfl, (Lib.cell_of_heap hA2 14).trans rfl, (Lib.cell_of_heap hM2 0).trans rfl, (Lib.cell_of_heap hM2 1).trans rfl, (Lib.cell_of_heap hM2 2).trans rfl, (Lib.cell_of_heap hM2 3).trans rfl, (Lib.cell_of_heap hM2 4).trans rfl, (Lib.cell_of_heap hM2 5).trans rfl, (Lib.cell_of_heap hM2 6).trans rfl, (Lib.cell_of_heap hN2 0).trans rfl, (Lib.cell_of_heap hN2 1).trans rfl, (Lib.cell_of_heap hN2 2).trans rfl, (Lib.cell_of_heap hN2 3).trans rfl, (Lib.cell_of_heap hN2 4).trans rfl, (Lib.cell_of_heap hN2 5).trans rfl, (Lib.cell_of_heap hN2 6).trans rfl, q10, q11, q12, q13, q14, q15, q16, q20, q21, q22, q23, q24, q25, q26⟩
  have HD1 : Hid (∀ W, Below W3.heap.size W3 W → Calls Tryd.prog 30 #[.agg #[.slice a1 n1 c1, .slice a2 n2 c2, .slice a3 n3 c3, .string G.outer, .string G.power, .string G.opn, .string G.cls, .string G.left, .string G.right, .string G.minus, .string G.quote, .bool G.trains, .bool true, .bool G.square, .string rt], .agg (sv (ki1) (op1) nm1 (x1) (y1) (z1) (ps1))] W fun e w' => e = .returned (.string ⟨T1.toArray⟩) ∧ Below W3.heap.size W3 w') := hide fun W h => (HC1.out W (HB23.out W h) (by omega)).mono (by rintro e w' ⟨rfl, h2⟩; exact ⟨rfl, h.trans (h2.mono h.size)⟩)
  have HD2 : Hid (∀ W, Below W3.heap.size W3 W → Calls Tryd.prog 44 #[.agg #[.slice a1 n1 c1, .slice a2 n2 c2, .slice a3 n3 c3, .string G.outer, .string G.power, .string G.opn, .string G.cls, .string G.left, .string G.right, .string G.minus, .string G.quote, .bool G.trains, .bool true, .bool G.square, .string rt], .agg (sv (ki2) (op2) nm2 (x2) (y2) (z2) (ps2))] W fun e w' => e = .returned (.string ⟨T0.toArray⟩) ∧ Below W3.heap.size W3 w') := hide fun W h => (HC2.out W (HB23.out W h) (by omega)).mono (by rintro e w' ⟨rfl, h2⟩; exact ⟨rfl, h.trans (h2.mono h.size)⟩)
  have HDN : Hid (∀ W, Below W3.heap.size W3 W → Calls Tryd.prog 6 #[.int .i64 op0, .string G.minus] W fun e w' => e = .returned (.string ⟨N.toArray⟩) ∧ Below W3.heap.size W3 w') := hide fun W h => (HN.out W).mono (by rintro e w' ⟨rfl, h2⟩; exact ⟨rfl, h.trans (h2.mono h.size)⟩)
  have l1 : ¬ (9223372036854775807 < N.length + 1) := by omega
  have l2 : ¬ (9223372036854775807 < N.length + 1 + T0.length) := by omega
  have l3 : ¬ (9223372036854775807 < N.length + 1 + T0.length + 2) := by omega
  have l4 : ¬ (9223372036854775807 < N.length + 1 + T0.length + 2 + T1.length) := by omega
  have HD : Hid (Below W3.heap.size W3 W3.drew) := hide ((Below.refl _ _).drew)
  have t12 : W2.cell? ⟨w.heap.size, 12, none⟩ = some (.bool true) := (Lib.cell_of_heap hA 12).trans rfl
  have HW3 := hide hW3
  clear hW3
  go_enter Tryd.func30, Tryd.ntmps30
  go_upto_region 1 with fail
  try rw [hW2]
  clear hW2 hA hNb hb2 HC2 HN HC1 hs0 hs1 hA3 hN3 hs2 
  go_upto_region 3 with fail
  try rw [HW3.out]
  clear t12 n0 n5 q0 q1 q2 q3 q4 q5 q6 HW3 hb3 hC
  obtain ⟨-, -, -, -, -, -, -, -, -, -, -, -, -, t12, -, -, -, -, -, -, -, -, -, c0, -, -, -, -, -, -, -, -, -, -, -, -, -, -, -, -, -, -, -, -⟩ := KS.out W3 (Below.refl _ _)
  go_upto_region 4 with fail
  clear t12 c0
  go_region_held3 (fun W => Below W3.heap.size W3 W ∧ W.cell? ⟨w.heap.size, 0, none⟩ = some (.slice a1 n1 c1) ∧ W.cell? ⟨w.heap.size, 1, none⟩ = some (.slice a2 n2 c2) ∧ W.cell? ⟨w.heap.size, 2, none⟩ = some (.slice a3 n3 c3) ∧ W.cell? ⟨w.heap.size, 3, none⟩ = some (.string G.outer) ∧ W.cell? ⟨w.heap.size, 4, none⟩ = some (.string G.power) ∧ W.cell? ⟨w.heap.size, 5, none⟩ = some (.string G.opn) ∧ W.cell? ⟨w.heap.size, 6, none⟩ = some (.string G.cls) ∧ W.cell? ⟨w.heap.size, 7, none⟩ = some (.string G.left) ∧ W.cell? ⟨w.heap.size, 8, none⟩ = some (.string G.right) ∧ W.cell? ⟨w.heap.size, 9, none⟩ = some (.string G.minus) ∧ W.cell? ⟨w.heap.size, 10, none⟩ = some (.string G.quote) ∧ W.cell? ⟨w.heap.size, 11, none⟩ = some (.bool G.trains) ∧ W.cell? ⟨w.heap.size, 12, none⟩ = some (.bool true) ∧ W.cell? ⟨w.heap.size, 13, none⟩ = some (.bool G.square) ∧ W.cell? ⟨w.heap.size, 14, none⟩ = some (.string rt) ∧ W.cell? ⟨w.heap.size + 1, 0, none⟩ = some (.int .i64 5) ∧ W.cell? ⟨w.heap.size + 1, 1, none⟩ = some (.int .i64 o) ∧ W.cell? ⟨w.heap.size + 1, 2, none⟩ = some (.string nm) ∧ W.cell? ⟨w.heap.size + 1, 3, none⟩ = some (v1) ∧ W.cell? ⟨w.heap.size + 1, 4, none⟩ = some (v2) ∧ W.cell? ⟨w.heap.size + 1, 5, none⟩ = some (.slice (some ⟨b, off, none⟩) 2 ck) ∧ W.cell? ⟨w.heap.size + 1, 6, none⟩ = some (.int .i64 ps) ∧ W.cell? ⟨w.heap.size + 2, 0, none⟩ = some (.int .i64 26) ∧ W.cell? ⟨w.heap.size + 2, 1, none⟩ = some (.int .i64 op0) ∧ W.cell? ⟨w.heap.size + 2, 2, none⟩ = some (.string nm0) ∧ W.cell? ⟨w.heap.size + 2, 3, none⟩ = some (.slice da la ea) ∧ W.cell? ⟨w.heap.size + 2, 4, none⟩ = some (.slice db lb eb) ∧ W.cell? ⟨w.heap.size + 2, 5, none⟩ = some (.slice (some ⟨b2, off2, none⟩) 1 ec) ∧ W.cell? ⟨w.heap.size + 2, 6, none⟩ = some (.int .i64 ps0) ∧ W.cell? ⟨b, off + 7, none⟩ = some (.int .i64 ki1) ∧ W.cell? ⟨b, off + 8, none⟩ = some (.int .i64 op1) ∧ W.cell? ⟨b, off + 9, none⟩ = some (.string nm1) ∧ W.cell? ⟨b, off + 10, none⟩ = some (x1) ∧ W.cell? ⟨b, off + 11, none⟩ = some (y1) ∧ W.cell? ⟨b, off + 12, none⟩ = some (z1) ∧ W.cell? ⟨b, off + 13, none⟩ = some (.int .i64 ps1) ∧ W.cell? ⟨b2, off2, none⟩ = some (.int .i64 ki2) ∧ W.cell? ⟨b2, off2 + 1, none⟩ = some (.int .i64 op2) ∧ W.cell? ⟨b2, off2 + 2, none⟩ = some (.string nm2) ∧ W.cell? ⟨b2, off2 + 3, none⟩ = some (x2) ∧ W.cell? ⟨b2, off2 + 4, none⟩ = some (y2) ∧ W.cell? ⟨b2, off2 + 5, none⟩ = some (z2) ∧ W.cell? ⟨b2, off2 + 6, none⟩ = some (.int .i64 ps2)) (first | with_reducible exact KS.out _ HD.out | with_reducible exact KS.out _ (by with_reducible assumption)) (first | (go_at_call 30; with_reducible refine (HD1.out _ (by first | with_reducible exact HD.out | with_reducible assumption)).mono ?_; rintro e wq ⟨rfl, hbq⟩) | (go_at_call 44; with_reducible refine (HD2.out _ (by first | with_reducible exact HD.out | with_reducible assumption)).mono ?_; rintro e wq ⟨rfl, hbq⟩) | (go_at_call 6; with_reducible refine (HDN.out _ (by first | with_reducible exact HD.out | with_reducible assumption)).mono ?_; rintro e wq ⟨rfl, hbq⟩))
  go_wp2
  go_ret
  refine ⟨?_, HB23.out _ (by with_reducible assumption)⟩
  show Ending.returned (Value.string ((⟨N.toArray⟩ : ByteArray) ++ ⟨[32].toArray⟩ ++ ⟨T0.toArray⟩ ++ ⟨[47, 32].toArray⟩ ++ ⟨T1.toArray⟩)) = _
  rw [cat_mk, cat_mk, cat_mk, cat_mk]
  simp [str, List.append_assoc]
set_option maxHeartbeats 4000000 in
theorem rop5 {n m : Nat} {w0 : World} {G : Gs} (AM : Rm G) (IF : RF n m w0 G) (IE : RE n m w0 G) (IO : RO n m w0 G) (rt : ByteArray) (w : World) (x : Nd) (v : Value) (hx : NdIn (m + 1) n 0 w0 x v) (hk : okN (m + 1) false x) (hs : sndA x) (hb : Below w0.heap.size w0 w) (hK : x.kind = 5) (hl : (opT G (TX G m) rt x).length ≤ 140737488355328)
    (HX : (exA G (TX G m) rt x).length ≤ 140737488355328 → ∀ W, Below w.heap.size w W → Calls Tryd.prog 30 #[tV G rt, v] W fun e w' => e = .returned (.string (str (exA G (TX G m) rt x))) ∧ Below W.heap.size W w') :
    Calls Tryd.prog 46 #[tV G rt, v] w fun e w' => e = .returned (.string (str (opT G (TX G m) rt x))) ∧ Below w.heap.size w w' := by
  have hx0 := hx
  obtain ⟨v1, v2, v3, rfl, hv1⟩ := nd_form hx
  obtain ⟨⟨la1, ll1, lc1, rfl⟩, ⟨la2, ll2, lc2, rfl⟩, ⟨la3, ll3, lc3, rfl⟩⟩ := nd_slices hx0
  have hT : opT G (TX G m) rt x = rdT (exA G (TX G m) rt x) := by simp [opT, hK]
  rw [hT] at hl ⊢
  rw [hK] at HX ⊢
  obtain ⟨T0, hT0⟩ : ∃ T0, exA G (TX G m) rt x = T0 := ⟨_, rfl⟩
  rw [hT0] at HX hl ⊢
  simp only [rdT, List.length_append, List.length_cons, List.length_nil] at hl
  have HX2 := hide (HX (by omega))
  generalize x.op = o at *
  generalize x.name = nm at *
  generalize x.pos = ps at *
  clear hx hx0 hT hK hk hs IF IE IO AM HX hT0
  obtain ⟨W2, hW2⟩ : ∃ W2, (w.alloc (.cells #[G.s1, G.s2, G.s3, .string G.outer, .string G.power, .string G.opn, .string G.cls, .string G.left, .string G.right, .string G.minus, .string G.quote, .bool G.trains, .bool G.lone, .bool G.square, .string rt] 66)).alloc (.cells (sv (5) (o) nm (.slice la1 ll1 lc1) (.slice la2 ll2 lc2) (.slice la3 ll3 lc3) (ps)) 34) = W2 := ⟨_, rfl⟩
  have hb2 : Below w.heap.size w W2 := by rw [← hW2]; exact two_allocs _ _ _
  have s2 : W2.heap.size = w.heap.size + 2 := by rw [← hW2]; simp
  have hA : W2.heap[w.heap.size]? = some (.cells #[G.s1, G.s2, G.s3, .string G.outer, .string G.power, .string G.opn, .string G.cls, .string G.left, .string G.right, .string G.minus, .string G.quote, .bool G.trains, .bool G.lone, .bool G.square, .string rt] 66 (0, 0)) := by
    rw [← hW2]; exact (Lib.alloc_old _ _ w.heap.size (by simp)).trans (heap_alloc_new w _)
  have hNb : W2.heap[w.heap.size + 1]? = some (.cells (sv (5) (o) nm (.slice la1 ll1 lc1) (.slice la2 ll2 lc2) (.slice la3 ll3 lc3) (ps)) 34 (0, 0)) := by
    have h := heap_alloc_new (w.alloc (.cells #[G.s1, G.s2, G.s3, .string G.outer, .string G.power, .string G.opn, .string G.cls, .string G.left, .string G.right, .string G.minus, .string G.quote, .bool G.trains, .bool G.lone, .bool G.square, .string rt] 66)) (.cells (sv (5) (o) nm (.slice la1 ll1 lc1) (.slice la2 ll2 lc2) (.slice la3 ll3 lc3) (ps)) 34)
    have e : (w.alloc (.cells #[G.s1, G.s2, G.s3, .string G.outer, .string G.power, .string G.opn, .string G.cls, .string G.left, .string G.right, .string G.minus, .string G.quote, .bool G.trains, .bool G.lone, .bool G.square, .string rt] 66)).heap.size = w.heap.size + 1 := by simp
    rw [e] at h
    rw [← hW2]; exact h
  have t0 : W2.cell? ⟨w.heap.size, 0, none⟩ = some (G.s1) := (Lib.cell_of_heap hA 0).trans rfl
  have t1 : W2.cell? ⟨w.heap.size, 1, none⟩ = some (G.s2) := (Lib.cell_of_heap hA 1).trans rfl
  have t2 : W2.cell? ⟨w.heap.size, 2, none⟩ = some (G.s3) := (Lib.cell_of_heap hA 2).trans rfl
  have t3 : W2.cell? ⟨w.heap.size, 3, none⟩ = some (.string G.outer) := (Lib.cell_of_heap hA 3).trans rfl
  have t4 : W2.cell? ⟨w.heap.size, 4, none⟩ = some (.string G.power) := (Lib.cell_of_heap hA 4).trans rfl
  have t5 : W2.cell? ⟨w.heap.size, 5, none⟩ = some (.string G.opn) := (Lib.cell_of_heap hA 5).trans rfl
  have t6 : W2.cell? ⟨w.heap.size, 6, none⟩ = some (.string G.cls) := (Lib.cell_of_heap hA 6).trans rfl
  have t7 : W2.cell? ⟨w.heap.size, 7, none⟩ = some (.string G.left) := (Lib.cell_of_heap hA 7).trans rfl
  have t8 : W2.cell? ⟨w.heap.size, 8, none⟩ = some (.string G.right) := (Lib.cell_of_heap hA 8).trans rfl
  have t9 : W2.cell? ⟨w.heap.size, 9, none⟩ = some (.string G.minus) := (Lib.cell_of_heap hA 9).trans rfl
  have t10 : W2.cell? ⟨w.heap.size, 10, none⟩ = some (.string G.quote) := (Lib.cell_of_heap hA 10).trans rfl
  have t11 : W2.cell? ⟨w.heap.size, 11, none⟩ = some (.bool G.trains) := (Lib.cell_of_heap hA 11).trans rfl
  have t12 : W2.cell? ⟨w.heap.size, 12, none⟩ = some (.bool G.lone) := (Lib.cell_of_heap hA 12).trans rfl
  have t13 : W2.cell? ⟨w.heap.size, 13, none⟩ = some (.bool G.square) := (Lib.cell_of_heap hA 13).trans rfl
  have t14 : W2.cell? ⟨w.heap.size, 14, none⟩ = some (.string rt) := (Lib.cell_of_heap hA 14).trans rfl
  have n0 : W2.cell? ⟨w.heap.size + 1, 0, none⟩ = some (.int .i64 5) := (Lib.cell_of_heap hNb 0).trans rfl
  have n1 : W2.cell? ⟨w.heap.size + 1, 1, none⟩ = some (.int .i64 o) := (Lib.cell_of_heap hNb 1).trans rfl
  have n2 : W2.cell? ⟨w.heap.size + 1, 2, none⟩ = some (.string nm) := (Lib.cell_of_heap hNb 2).trans rfl
  have n3 : W2.cell? ⟨w.heap.size + 1, 3, none⟩ = some (.slice la1 ll1 lc1) := (Lib.cell_of_heap hNb 3).trans rfl
  have n4 : W2.cell? ⟨w.heap.size + 1, 4, none⟩ = some (.slice la2 ll2 lc2) := (Lib.cell_of_heap hNb 4).trans rfl
  have n5 : W2.cell? ⟨w.heap.size + 1, 5, none⟩ = some (.slice la3 ll3 lc3) := (Lib.cell_of_heap hNb 5).trans rfl
  have n6 : W2.cell? ⟨w.heap.size + 1, 6, none⟩ = some (.int .i64 ps) := (Lib.cell_of_heap hNb 6).trans rfl
  unfold tV at HX2 ⊢
  have HC := hide (HX2.out W2 hb2)
  have HR := hide (fun W => round65 T0 W (by omega))
  go_enter Tryd.func46, Tryd.ntmps46
  go_upto_region 1 with fail
  try rw [hW2]
  have HB2 := hide hb2
  clear hW2 hA hNb hb2 HX2
  go_wp2_with fail
  refine HC.out.mono ?_
  rintro e w3 ⟨rfl, hb3⟩
  have HB3 := hide (HB2.out.trans (hb3.mono HB2.out.size))
  clear HC hb3 t0 t1 t2 t3 t4 t5 t6 t7 t8 t9 t10 t11 t12 t13 t14 n0 n1 n2 n3 n4 n5 n6
  unfold str
  go_wp2_with fail
  refine (HR.out _).mono ?_
  rintro e w4 ⟨rfl, rfl⟩
  go_wp2
  go_ret
  exact ⟨rfl, HB3.out⟩
set_option maxHeartbeats 4000000 in
theorem rop6 {n m : Nat} {w0 : World} {G : Gs} (AM : Rm G) (IF : RF n m w0 G) (IE : RE n m w0 G) (IO : RO n m w0 G) (rt : ByteArray) (w : World) (x : Nd) (v : Value) (hx : NdIn (m + 1) n 0 w0 x v) (hk : okN (m + 1) false x) (hs : sndA x) (hb : Below w0.heap.size w0 w) (hK : x.kind = 6) (hl : (opT G (TX G m) rt x).length ≤ 140737488355328)
    (HX : (exA G (TX G m) rt x).length ≤ 140737488355328 → ∀ W, Below w.heap.size w W → Calls Tryd.prog 30 #[tV G rt, v] W fun e w' => e = .returned (.string (str (exA G (TX G m) rt x))) ∧ Below W.heap.size W w') :
    Calls Tryd.prog 46 #[tV G rt, v] w fun e w' => e = .returned (.string (str (opT G (TX G m) rt x))) ∧ Below w.heap.size w w' := by
  have hx0 := hx
  obtain ⟨v1, v2, v3, rfl, hv1⟩ := nd_form hx
  obtain ⟨⟨la1, ll1, lc1, rfl⟩, ⟨la2, ll2, lc2, rfl⟩, ⟨la3, ll3, lc3, rfl⟩⟩ := nd_slices hx0
  have hT : opT G (TX G m) rt x = rdT (exA G (TX G m) rt x) := by simp [opT, hK]
  rw [hT] at hl ⊢
  rw [hK] at HX ⊢
  obtain ⟨T0, hT0⟩ : ∃ T0, exA G (TX G m) rt x = T0 := ⟨_, rfl⟩
  rw [hT0] at HX hl ⊢
  simp only [rdT, List.length_append, List.length_cons, List.length_nil] at hl
  have HX2 := hide (HX (by omega))
  generalize x.op = o at *
  generalize x.name = nm at *
  generalize x.pos = ps at *
  clear hx hx0 hT hK hk hs IF IE IO AM HX hT0
  obtain ⟨W2, hW2⟩ : ∃ W2, (w.alloc (.cells #[G.s1, G.s2, G.s3, .string G.outer, .string G.power, .string G.opn, .string G.cls, .string G.left, .string G.right, .string G.minus, .string G.quote, .bool G.trains, .bool G.lone, .bool G.square, .string rt] 66)).alloc (.cells (sv (6) (o) nm (.slice la1 ll1 lc1) (.slice la2 ll2 lc2) (.slice la3 ll3 lc3) (ps)) 34) = W2 := ⟨_, rfl⟩
  have hb2 : Below w.heap.size w W2 := by rw [← hW2]; exact two_allocs _ _ _
  have s2 : W2.heap.size = w.heap.size + 2 := by rw [← hW2]; simp
  have hA : W2.heap[w.heap.size]? = some (.cells #[G.s1, G.s2, G.s3, .string G.outer, .string G.power, .string G.opn, .string G.cls, .string G.left, .string G.right, .string G.minus, .string G.quote, .bool G.trains, .bool G.lone, .bool G.square, .string rt] 66 (0, 0)) := by
    rw [← hW2]; exact (Lib.alloc_old _ _ w.heap.size (by simp)).trans (heap_alloc_new w _)
  have hNb : W2.heap[w.heap.size + 1]? = some (.cells (sv (6) (o) nm (.slice la1 ll1 lc1) (.slice la2 ll2 lc2) (.slice la3 ll3 lc3) (ps)) 34 (0, 0)) := by
    have h := heap_alloc_new (w.alloc (.cells #[G.s1, G.s2, G.s3, .string G.outer, .string G.power, .string G.opn, .string G.cls, .string G.left, .string G.right, .string G.minus, .string G.quote, .bool G.trains, .bool G.lone, .bool G.square, .string rt] 66)) (.cells (sv (6) (o) nm (.slice la1 ll1 lc1) (.slice la2 ll2 lc2) (.slice la3 ll3 lc3) (ps)) 34)
    have e : (w.alloc (.cells #[G.s1, G.s2, G.s3, .string G.outer, .string G.power, .string G.opn, .string G.cls, .string G.left, .string G.right, .string G.minus, .string G.quote, .bool G.trains, .bool G.lone, .bool G.square, .string rt] 66)).heap.size = w.heap.size + 1 := by simp
    rw [e] at h
    rw [← hW2]; exact h
  have t0 : W2.cell? ⟨w.heap.size, 0, none⟩ = some (G.s1) := (Lib.cell_of_heap hA 0).trans rfl
  have t1 : W2.cell? ⟨w.heap.size, 1, none⟩ = some (G.s2) := (Lib.cell_of_heap hA 1).trans rfl
  have t2 : W2.cell? ⟨w.heap.size, 2, none⟩ = some (G.s3) := (Lib.cell_of_heap hA 2).trans rfl
  have t3 : W2.cell? ⟨w.heap.size, 3, none⟩ = some (.string G.outer) := (Lib.cell_of_heap hA 3).trans rfl
  have t4 : W2.cell? ⟨w.heap.size, 4, none⟩ = some (.string G.power) := (Lib.cell_of_heap hA 4).trans rfl
  have t5 : W2.cell? ⟨w.heap.size, 5, none⟩ = some (.string G.opn) := (Lib.cell_of_heap hA 5).trans rfl
  have t6 : W2.cell? ⟨w.heap.size, 6, none⟩ = some (.string G.cls) := (Lib.cell_of_heap hA 6).trans rfl
  have t7 : W2.cell? ⟨w.heap.size, 7, none⟩ = some (.string G.left) := (Lib.cell_of_heap hA 7).trans rfl
  have t8 : W2.cell? ⟨w.heap.size, 8, none⟩ = some (.string G.right) := (Lib.cell_of_heap hA 8).trans rfl
  have t9 : W2.cell? ⟨w.heap.size, 9, none⟩ = some (.string G.minus) := (Lib.cell_of_heap hA 9).trans rfl
  have t10 : W2.cell? ⟨w.heap.size, 10, none⟩ = some (.string G.quote) := (Lib.cell_of_heap hA 10).trans rfl
  have t11 : W2.cell? ⟨w.heap.size, 11, none⟩ = some (.bool G.trains) := (Lib.cell_of_heap hA 11).trans rfl
  have t12 : W2.cell? ⟨w.heap.size, 12, none⟩ = some (.bool G.lone) := (Lib.cell_of_heap hA 12).trans rfl
  have t13 : W2.cell? ⟨w.heap.size, 13, none⟩ = some (.bool G.square) := (Lib.cell_of_heap hA 13).trans rfl
  have t14 : W2.cell? ⟨w.heap.size, 14, none⟩ = some (.string rt) := (Lib.cell_of_heap hA 14).trans rfl
  have n0 : W2.cell? ⟨w.heap.size + 1, 0, none⟩ = some (.int .i64 6) := (Lib.cell_of_heap hNb 0).trans rfl
  have n1 : W2.cell? ⟨w.heap.size + 1, 1, none⟩ = some (.int .i64 o) := (Lib.cell_of_heap hNb 1).trans rfl
  have n2 : W2.cell? ⟨w.heap.size + 1, 2, none⟩ = some (.string nm) := (Lib.cell_of_heap hNb 2).trans rfl
  have n3 : W2.cell? ⟨w.heap.size + 1, 3, none⟩ = some (.slice la1 ll1 lc1) := (Lib.cell_of_heap hNb 3).trans rfl
  have n4 : W2.cell? ⟨w.heap.size + 1, 4, none⟩ = some (.slice la2 ll2 lc2) := (Lib.cell_of_heap hNb 4).trans rfl
  have n5 : W2.cell? ⟨w.heap.size + 1, 5, none⟩ = some (.slice la3 ll3 lc3) := (Lib.cell_of_heap hNb 5).trans rfl
  have n6 : W2.cell? ⟨w.heap.size + 1, 6, none⟩ = some (.int .i64 ps) := (Lib.cell_of_heap hNb 6).trans rfl
  unfold tV at HX2 ⊢
  have HC := hide (HX2.out W2 hb2)
  have HR := hide (fun W => round65 T0 W (by omega))
  go_enter Tryd.func46, Tryd.ntmps46
  go_upto_region 1 with fail
  try rw [hW2]
  have HB2 := hide hb2
  clear hW2 hA hNb hb2 HX2
  go_wp2_with fail
  refine HC.out.mono ?_
  rintro e w3 ⟨rfl, hb3⟩
  have HB3 := hide (HB2.out.trans (hb3.mono HB2.out.size))
  clear HC hb3 t0 t1 t2 t3 t4 t5 t6 t7 t8 t9 t10 t11 t12 t13 t14 n0 n1 n2 n3 n4 n5 n6
  unfold str
  go_wp2_with fail
  refine (HR.out _).mono ?_
  rintro e w4 ⟨rfl, rfl⟩
  go_wp2
  go_ret
  exact ⟨rfl, HB3.out⟩
set_option maxHeartbeats 4000000 in
theorem rexo (G : Gs) (rt : ByteArray) (w : World) (x : Nd) (v : Value) {m n lo : Nat} (hx : NdIn (m + 1) n lo w x v) (OT : List UInt8) (hK : ¬ (x.kind = 5 ∨ x.kind = 6)) (HX : ∀ W, Below w.heap.size w W → Calls Tryd.prog 46 #[tV G rt, v] W fun e w' => e = .returned (.string (str OT)) ∧ Below W.heap.size W w') :
    Calls Tryd.prog 30 #[tV G rt, v] w fun e w' => e = .returned (.string (str OT)) ∧ Below w.heap.size w w' := by
  have hx0 := hx
  obtain ⟨v1, v2, v3, rfl, hv1⟩ := nd_form hx
  obtain ⟨⟨la1, ll1, lc1, rfl⟩, ⟨la2, ll2, lc2, rfl⟩, ⟨la3, ll3, lc3, rfl⟩⟩ := nd_slices hx0
  have n5' : (x.kind == 5) = false := beq_eq_false_iff_ne.2 (fun h => hK (Or.inl h))
  have n6' : (x.kind == 6) = false := beq_eq_false_iff_ne.2 (fun h => hK (Or.inr h))
  have HX2 := hide HX
  generalize x.kind = k at *
  generalize x.op = o at *
  generalize x.name = nm at *
  generalize x.pos = ps at *
  clear hx hx0 hK HX
  obtain ⟨W2, hW2⟩ : ∃ W2, (w.alloc (.cells #[G.s1, G.s2, G.s3, .string G.outer, .string G.power, .string G.opn, .string G.cls, .string G.left, .string G.right, .string G.minus, .string G.quote, .bool G.trains, .bool G.lone, .bool G.square, .string rt] 66)).alloc (.cells (sv (k) (o) nm (.slice la1 ll1 lc1) (.slice la2 ll2 lc2) (.slice la3 ll3 lc3) (ps)) 34) = W2 := ⟨_, rfl⟩
  have hb2 : Below w.heap.size w W2 := by rw [← hW2]; exact two_allocs _ _ _
  have s2 : W2.heap.size = w.heap.size + 2 := by rw [← hW2]; simp
  have hA : W2.heap[w.heap.size]? = some (.cells #[G.s1, G.s2, G.s3, .string G.outer, .string G.power, .string G.opn, .string G.cls, .string G.left, .string G.right, .string G.minus, .string G.quote, .bool G.trains, .bool G.lone, .bool G.square, .string rt] 66 (0, 0)) := by
    rw [← hW2]; exact (Lib.alloc_old _ _ w.heap.size (by simp)).trans (heap_alloc_new w _)
  have hNb : W2.heap[w.heap.size + 1]? = some (.cells (sv (k) (o) nm (.slice la1 ll1 lc1) (.slice la2 ll2 lc2) (.slice la3 ll3 lc3) (ps)) 34 (0, 0)) := by
    have h := heap_alloc_new (w.alloc (.cells #[G.s1, G.s2, G.s3, .string G.outer, .string G.power, .string G.opn, .string G.cls, .string G.left, .string G.right, .string G.minus, .string G.quote, .bool G.trains, .bool G.lone, .bool G.square, .string rt] 66)) (.cells (sv (k) (o) nm (.slice la1 ll1 lc1) (.slice la2 ll2 lc2) (.slice la3 ll3 lc3) (ps)) 34)
    have e : (w.alloc (.cells #[G.s1, G.s2, G.s3, .string G.outer, .string G.power, .string G.opn, .string G.cls, .string G.left, .string G.right, .string G.minus, .string G.quote, .bool G.trains, .bool G.lone, .bool G.square, .string rt] 66)).heap.size = w.heap.size + 1 := by simp
    rw [e] at h
    rw [← hW2]; exact h
  have t0 : W2.cell? ⟨w.heap.size, 0, none⟩ = some (G.s1) := (Lib.cell_of_heap hA 0).trans rfl
  have t1 : W2.cell? ⟨w.heap.size, 1, none⟩ = some (G.s2) := (Lib.cell_of_heap hA 1).trans rfl
  have t2 : W2.cell? ⟨w.heap.size, 2, none⟩ = some (G.s3) := (Lib.cell_of_heap hA 2).trans rfl
  have t3 : W2.cell? ⟨w.heap.size, 3, none⟩ = some (.string G.outer) := (Lib.cell_of_heap hA 3).trans rfl
  have t4 : W2.cell? ⟨w.heap.size, 4, none⟩ = some (.string G.power) := (Lib.cell_of_heap hA 4).trans rfl
  have t5 : W2.cell? ⟨w.heap.size, 5, none⟩ = some (.string G.opn) := (Lib.cell_of_heap hA 5).trans rfl
  have t6 : W2.cell? ⟨w.heap.size, 6, none⟩ = some (.string G.cls) := (Lib.cell_of_heap hA 6).trans rfl
  have t7 : W2.cell? ⟨w.heap.size, 7, none⟩ = some (.string G.left) := (Lib.cell_of_heap hA 7).trans rfl
  have t8 : W2.cell? ⟨w.heap.size, 8, none⟩ = some (.string G.right) := (Lib.cell_of_heap hA 8).trans rfl
  have t9 : W2.cell? ⟨w.heap.size, 9, none⟩ = some (.string G.minus) := (Lib.cell_of_heap hA 9).trans rfl
  have t10 : W2.cell? ⟨w.heap.size, 10, none⟩ = some (.string G.quote) := (Lib.cell_of_heap hA 10).trans rfl
  have t11 : W2.cell? ⟨w.heap.size, 11, none⟩ = some (.bool G.trains) := (Lib.cell_of_heap hA 11).trans rfl
  have t12 : W2.cell? ⟨w.heap.size, 12, none⟩ = some (.bool G.lone) := (Lib.cell_of_heap hA 12).trans rfl
  have t13 : W2.cell? ⟨w.heap.size, 13, none⟩ = some (.bool G.square) := (Lib.cell_of_heap hA 13).trans rfl
  have t14 : W2.cell? ⟨w.heap.size, 14, none⟩ = some (.string rt) := (Lib.cell_of_heap hA 14).trans rfl
  have n0 : W2.cell? ⟨w.heap.size + 1, 0, none⟩ = some (.int .i64 k) := (Lib.cell_of_heap hNb 0).trans rfl
  have n1 : W2.cell? ⟨w.heap.size + 1, 1, none⟩ = some (.int .i64 o) := (Lib.cell_of_heap hNb 1).trans rfl
  have n2 : W2.cell? ⟨w.heap.size + 1, 2, none⟩ = some (.string nm) := (Lib.cell_of_heap hNb 2).trans rfl
  have n3 : W2.cell? ⟨w.heap.size + 1, 3, none⟩ = some (.slice la1 ll1 lc1) := (Lib.cell_of_heap hNb 3).trans rfl
  have n4 : W2.cell? ⟨w.heap.size + 1, 4, none⟩ = some (.slice la2 ll2 lc2) := (Lib.cell_of_heap hNb 4).trans rfl
  have n5 : W2.cell? ⟨w.heap.size + 1, 5, none⟩ = some (.slice la3 ll3 lc3) := (Lib.cell_of_heap hNb 5).trans rfl
  have n6 : W2.cell? ⟨w.heap.size + 1, 6, none⟩ = some (.int .i64 ps) := (Lib.cell_of_heap hNb 6).trans rfl
  unfold tV at HX2 ⊢
  have HC := hide (HX2.out W2 hb2)
  go_enter Tryd.func30, Tryd.ntmps30
  go_upto_region 1 with fail
  try rw [hW2]
  have HB2 := hide hb2
  clear hW2 hA hNb hb2 HX2
  go_wp2_with fail
  refine HC.out.mono ?_
  rintro e w3 ⟨rfl, hb3⟩
  have HB3 := hide (HB2.out.trans (hb3.mono HB2.out.size))
  clear HC hb3 t0 t1 t2 t3 t4 t5 t6 t7 t8 t9 t10 t11 t12 t13 t14 n0 n1 n2 n3 n4 n5 n6
  go_wp2
  go_ret
  exact ⟨rfl, HB3.out⟩
theorem rex_any {n m : Nat} {w0 : World} {G : Gs} (AM : Rm G) (IF : RF n m w0 G) (IE : RE n m w0 G) (IO : RO n m w0 G) (rt : ByteArray) (w : World) (x : Nd) (v : Value) (hx : NdIn (m + 1) n 0 w0 x v) (hk : okN (m + 1) false x) (hs : sndA x) (hb : Below w0.heap.size w0 w) (hK : x.kind = 5 ∨ x.kind = 6) (hl : (exA G (TX G m) rt x).length ≤ 140737488355328) :
    Calls Tryd.prog 30 #[tV G rt, v] w fun e w' => e = .returned (.string (str (exA G (TX G m) rt x))) ∧ Below w.heap.size w w' := by
  rcases hK with hK | hK
  · cases hlo : G.lone with
    | false => exact rex5f AM IF IE IO rt w x v hx hk hs hb hK hlo hl
    | true =>
      by_cases hk0 : (kp x 0).kind = 26
      · exact rex5a AM IF IE IO rt w x v hx hk hs hb hK hlo hk0 hl
      · exact rex5t AM IF IE IO rt w x v hx hk hs hb hK hlo hk0 hl
  · exact rex6 AM IF IE IO rt w x v hx hk hs hb hK hl
theorem roper_step {n m : Nat} {w0 : World} {G : Gs} (AM : Rm G) (IF : RF n m w0 G) (IE : RE n m w0 G) (IO : RO n m w0 G) : RO n (m + 1) w0 G := by
  intro rt w x v hx hk hs hb hl
  have h21 : ¬ 21 ≤ x.kind := by have := hk.2.1; simpa using this.symm
  have hkn : x.kind = 1 ∨ x.kind = 2 ∨ x.kind = 3 ∨ x.kind = 4 ∨ x.kind = 5 ∨ x.kind = 6 ∨ x.kind = 8 := by
    have h1 := hk.1
    unfold arK at h1
    repeat' split at h1
    all_goals omega
  rcases hkn with hK | hK | hK | hK | hK | hK | hK
  · exact rop1 AM IF IE IO rt w x v hx hk hs hb hK
  · exact rop2 AM IF IE IO rt w x v hx hk hs hb hK
  · exact rop3 AM IF IE IO rt w x v hx hk hs hb hK
  · exact rop4 AM IF IE IO rt w x v hx hk hs hb hK
  · exact rop5 AM IF IE IO rt w x v hx hk hs hb hK hl (fun hl2 W hW => rex_any AM IF IE IO rt W x v hx hk hs (hb.trans (hW.mono hb.size)) (Or.inl hK) hl2)
  · exact rop6 AM IF IE IO rt w x v hx hk hs hb hK hl (fun hl2 W hW => rex_any AM IF IE IO rt W x v hx hk hs (hb.trans (hW.mono hb.size)) (Or.inr hK) hl2)
  · exact rop8 AM IF IE IO rt w x v hx hk hs hb hK hl
theorem rexpr_step {n m : Nat} {w0 : World} {G : Gs} (AM : Rm G) (IF : RF n m w0 G) (IE : RE n m w0 G) (IO : RO n m w0 G) : RE n (m + 1) w0 G := by
  intro rt w x v hx hk hs hb hl
  by_cases hK : x.kind = 5 ∨ x.kind = 6
  · have e : (TX G (m + 1)).E rt x = exA G (TX G m) rt x := if_pos hK
    rw [e] at hl ⊢
    exact rex_any AM IF IE IO rt w x v hx hk hs hb hK hl
  · have e : (TX G (m + 1)).E rt x = opT G (TX G m) rt x := if_neg hK
    rw [e] at hl ⊢
    exact rexo G rt w x v (hx.next hb) _ hK (fun W hW => roper_step AM IF IE IO rt W x v hx hk hs (hb.trans (hW.mono hb.size)) hl)
/-- All three, of all depths. -/
theorem rwriters {w0 : World} {G : Gs} (AM : Rm G) (n m : Nat) : RF n m w0 G ∧ RE n m w0 G ∧ RO n m w0 G := by
  induction m with
  | zero => exact ⟨fun _ _ _ _ hx => hx.elim, fun _ _ _ _ hx => hx.elim, fun _ _ _ _ hx => hx.elim⟩
  | succ m ih => exact ⟨rfun_step AM ih.1 ih.2.1, rexpr_step AM ih.1 ih.2.1 ih.2.2, roper_step AM ih.1 ih.2.1 ih.2.2⟩
end Go.Proofs.YtneblkdkhlgmcaaDoor
