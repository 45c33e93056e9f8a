/-
  The document's own look at a program: how many parts a kind has, whether all parts are in place; for all programs.
  Write of layer 16: a program as a text, or that it can't be written; for all programs and grammars.
  A program fits the checker just where it has at most 2048 nodes, its parts in place, and nothing done fewer than 0 times; how long a text can be. No program is named.
-/
import Derived.Test.YtneblkdkhlgmcaaDoorM5
import Derived.Shelf.Strconv.Itoa4
import Derived.Test.YtneblkdkhlgmcaaDoorProg
import Derived.WalkKit
import Derived.Test.YtneblkdkhlgmcaaDoorChecked
import GoSem.Claim
import GoSem.ClaimJoined
import GoSem.ClaimMapViews
import Derived.JoinedTies
import Derived.KernelRfl
import Derived.ProofKit
import Derived.Below
import Derived.Deep.OwnRows
import Derived.Deep.QuietTactic
import Derived.BigQuiet
import Derived.Deep.RegionWith
import Derived.Lib.AppendIntMem
import Derived.Lib.ConvBytes
import Derived.Lib.Builder
import Derived.Lib.AppendStr
import Derived.Lib.UnsafeStr
import Derived.Deep.LoopGhost
import Derived.Deep.RegionHeld3
import Derived.Lib.MakeNoZero
import Derived.Laws.MakeOwn
import Derived.Laws.BitsAllLaws
import Derived.Lib.Bits
import Derived.Deep.Cut
import Derived.Deep.MidRow
import Derived.OpenShut
import Derived.ChangeOld
import Derived.SizedLaws
import Derived.Deep.Slices
import Derived.Deep.Strs
import Derived.Deep.RegionLaw
import GoSem.ClaimSeven
import Derived.LaidByTextLater
import Derived.SevenTiedAt
import Derived.LaidSub
import Derived.LaidOnce
import Derived.Deep.DeepHandedRow
import Derived.Lib.LaidTab
import Derived.Lay
namespace Go.Proofs.YtneblkdkhlgmcaaDoor
open Go.ChangeShapes Go.WideShapes Go.ChangeAt Go.RowKit
set_option maxRecDepth 100000
set_option linter.unusedVariables false
set_option linter.unusedSimpArgs false
theorem kids42 (k : Int) (w : World) : Calls Tryd.prog 42 #[.int .i64 k] w fun e w' => e = .returned (.int .i64 (arK k)) ∧ w' = w := by
  by_cases h : k = 1 ∨ k = 2 ∨ k = 3 ∨ k = 4 ∨ k = 21 ∨ k = 22 ∨ k = 23 ∨ k = 24 ∨ k = 25 ∨ k = 26 ∨ k = 5 ∨ k = 8 ∨ k = 28 ∨ k = 6 ∨ k = 27
  · rcases h with rfl | rfl | rfl | rfl | rfl | rfl | rfl | rfl | rfl | rfl | rfl | rfl | rfl | rfl | rfl <;> (go_enter Tryd.func42, Tryd.ntmps42; go_wp2; go_ret; exact ⟨rfl, rfl⟩)
  · have e1 : arK k = -1 := by
      unfold arK
      repeat' split
      all_goals first | omega | rfl
    rw [e1]
    have n : ∀ c : Int, (c = 1 ∨ c = 2 ∨ c = 3 ∨ c = 4 ∨ c = 21 ∨ c = 22 ∨ c = 23 ∨ c = 24 ∨ c = 25 ∨ c = 26 ∨ c = 5 ∨ c = 8 ∨ c = 28 ∨ c = 6 ∨ c = 27) → (k == c) = false := fun c hc => beq_eq_false_iff_ne.2 (fun e => h (by rw [e]; exact hc))
    have n1 := n 1 (by simp)
    have n2 := n 2 (by simp)
    have n3 := n 3 (by simp)
    have n4 := n 4 (by simp)
    have n5 := n 5 (by simp)
    have n6 := n 6 (by simp)
    have n8 := n 8 (by simp)
    have n21 := n 21 (by simp)
    have n22 := n 22 (by simp)
    have n23 := n 23 (by simp)
    have n24 := n 24 (by simp)
    have n25 := n 25 (by simp)
    have n26 := n 26 (by simp)
    have n27 := n 27 (by simp)
    have n28 := n 28 (by simp)
    clear n h e1
    go_enter Tryd.func42, Tryd.ntmps42
    go_wp2
    go_ret
    exact ⟨rfl, rfl⟩
/-- What the look whether all parts are in place promises. -/
def RightC (m : Nat) : Prop := ∀ n x lo va w (f : Bool), NdIn m n lo w x va → Calls Tryd.prog 28 #[va, .bool f] w fun e w' => (∃ b : Bool, e = .returned (.bool b) ∧ (b = true ↔ okN m f x)) ∧ Below w.heap.size w w'
theorem kid_right {m n lo : Nat} {w : World} {x : Nd} {ak : Option Addr} (IH : RightC m) (h : KidsIn m n lo w x.kids ak) (j : Nat) (hj : j < x.kids.length) :
    ∃ b off K O S A1 L1 C1 A2 L2 C2 AK LK CK P, ak = some ⟨b, off, none⟩ ∧ ∀ wr, Below w.heap.size w wr → (wr.cell? ⟨b, off + j * 7, none⟩ = some (.int .i64 K) ∧ wr.cell? ⟨b, off + j * 7 + 1, none⟩ = some (.int .i64 O) ∧ wr.cell? ⟨b, off + j * 7 + 2, none⟩ = some (.string S) ∧ wr.cell? ⟨b, off + j * 7 + 3, none⟩ = some (.slice A1 L1 C1) ∧ wr.cell? ⟨b, off + j * 7 + 4, none⟩ = some (.slice A2 L2 C2) ∧ wr.cell? ⟨b, off + j * 7 + 5, none⟩ = some (.slice AK LK CK) ∧ wr.cell? ⟨b, off + j * 7 + 6, none⟩ = some (.int .i64 P)) ∧
      ∀ f : Bool, Calls Tryd.prog 28 #[.agg #[.int .i64 K, .int .i64 O, .string S, .slice A1 L1 C1, .slice A2 L2 C2, .slice AK LK CK, .int .i64 P], .bool f] wr fun e w' => (∃ b : Bool, e = .returned (.bool b) ∧ (b = true ↔ okN m f (kp x j))) ∧ Below wr.heap.size wr w' := by
  obtain ⟨b, off, K, O, S, A1, L1, C1, A2, L2, C2, AK, LK, CK, P, ha, hb, hw⟩ := kid_cells h hj
  exact ⟨b, off, K, O, S, A1, L1, C1, A2, L2, C2, AK, LK, CK, P, ha, fun wr hwr => ⟨(hw wr hwr).1, fun f => IH n _ lo _ wr f (hw wr hwr).2⟩⟩
set_option maxHeartbeats 4000000 in
/-- kind 1 -/
theorem right28_1 {m : Nat} (IH : RightC m) : ∀ n x lo va w (f : Bool), x.kind = 1 → NdIn (m + 1) n lo w x va → Calls Tryd.prog 28 #[va, .bool f] w fun e w' => (∃ b : Bool, e = .returned (.bool b) ∧ (b = true ↔ okN (m + 1) f x)) ∧ Below w.heap.size w w' := by
  intro n x lo va w f hkind hx
  obtain ⟨m', hm', a1, c1, a2, c2, ak, ck, rfl, hA, hl, hs, hK⟩ := hx.letters
  obtain rfl : m = m' := by omega
  have HKS := hide (kid_right IH hK)
  have HLIT := hide (fun W (hW : Below w.heap.size w W) => rlit18 x.lit _ W (hA.next hW))
  have HOK : Hid (okN (m + 1) f x ↔ ((x.kids.length : Int) = arK x.kind ∧ f = decide (21 ≤ x.kind) ∧ (x.kind = 1 → litB x.lit = true) ∧ ∀ i, i < x.kids.length → okN m (fnP x.kind i) (kp x i))) := hide Iff.rfl
  obtain ⟨OK, hOK⟩ : ∃ OK, okN (m + 1) f x = OK := ⟨_, rfl⟩
  rw [hOK] at HOK ⊢
  generalize litB x.lit = LB at *
  generalize hQ : (fun (f : Bool) (i : Nat) => okN m f (kp x i)) = Q at *
  have HQ : Hid (∀ f i, okN m f (kp x i) = Q f i) := hide (fun f i => by rw [← hQ])
  simp only [HQ.out] at HOK HKS
  clear IH hx hA hK hs hm' hOK hQ HQ
  generalize x.kids.length = L at *
  generalize x.kind = K0 at *
  generalize x.op = O0 at *
  generalize x.name = S0 at *
  generalize x.pos = P0 at *
  generalize x.lit.shape.length = L10 at *
  generalize x.lit.cells.length = L20 at *
  subst hkind
  rw [show arK 1 = 0 from rfl] at HOK
  have HK42 : Hid (∀ W, Calls Tryd.prog 42 #[.int .i64 1] W fun e w' => e = .returned (.int .i64 0) ∧ w' = W) := hide fun W => kids42 1 W
  have hb0 := one_alloc w (.cells #[.int .i64 1, .int .i64 O0, .string S0, .slice a1 L10 c1, .slice a2 L20 c2, .slice ak L ck, .int .i64 P0] 34)
  have q0 := cell_new0 w #[.int .i64 1, .int .i64 O0, .string S0, .slice a1 L10 c1, .slice a2 L20 c2, .slice ak L ck, .int .i64 P0] 34 0 _ rfl
  have q3 := cell_new0 w #[.int .i64 1, .int .i64 O0, .string S0, .slice a1 L10 c1, .slice a2 L20 c2, .slice ak L ck, .int .i64 P0] 34 3 _ rfl
  have q4 := cell_new0 w #[.int .i64 1, .int .i64 O0, .string S0, .slice a1 L10 c1, .slice a2 L20 c2, .slice ak L ck, .int .i64 P0] 34 4 _ rfl
  have q5 := cell_new0 w #[.int .i64 1, .int .i64 O0, .string S0, .slice a1 L10 c1, .slice a2 L20 c2, .slice ak L ck, .int .i64 P0] 34 5 _ rfl
  have HQ := hide (And.intro hb0 (And.intro q5 (show w.heap.size < (w.alloc (.cells #[.int .i64 1, .int .i64 O0, .string S0, .slice a1 L10 c1, .slice a2 L20 c2, .slice ak L ck, .int .i64 P0] 34)).heap.size by simp)))
  by_cases hL : L = 0
  · subst hL
    cases f with
    | true =>
      have HN : Hid (¬ OK) := hide fun h => absurd (HOK.out.1 h).2.1 (by decide)
      clear HOK HKS HLIT
      go_enter Tryd.func28, Tryd.ntmps28
      go_upto_region 1 with fail
      go_quiet ((go_at_call 42; exact Calls.quiet_of_same (HK42.out _)))
      go_wp2
      go_ret
      exact ⟨⟨false, rfl, ⟨fun h => absurd h (by decide), fun h => absurd h HN.out⟩⟩, drewN_below HQ.out.1 _⟩
    | false =>
      cases LB with
      | false =>
        have HN : Hid (¬ OK) := hide fun h => absurd ((HOK.out.1 h).2.2.1 rfl) (by decide)
        clear HOK HKS
        go_enter Tryd.func28, Tryd.ntmps28
        go_upto_region 1 with fail
        go_quiet ((go_at_call 42; exact Calls.quiet_of_same (HK42.out _)))
        go_wp2_with fail
        refine (HLIT.out _ (drewN_below HQ.out.1 _)).mono ?_
        rintro e w4 ⟨rfl, hb4⟩
        have HB4 := hide ((drewN_below HQ.out.1 _).trans (hb4.mono (drewN_below HQ.out.1 _).size))
        clear hb4 q0 q3 q4 q5
        go_wp2
        go_ret
        exact ⟨⟨false, rfl, ⟨fun h => absurd h (by decide), fun h => absurd h HN.out⟩⟩, HB4.out⟩
      | true =>
        have HY : Hid OK := hide (HOK.out.2 ⟨by decide, by decide, fun _ => rfl, fun i hi => absurd hi (by omega)⟩)
        clear HOK HKS
        go_enter Tryd.func28, Tryd.ntmps28
        go_upto_region 1 with fail
        go_quiet ((go_at_call 42; exact Calls.quiet_of_same (HK42.out _)))
        go_wp2_with fail
        refine (HLIT.out _ (drewN_below HQ.out.1 _)).mono ?_
        rintro e w4 ⟨rfl, hb4⟩
        have HB4 := hide ((drewN_below HQ.out.1 _).trans (hb4.mono (drewN_below HQ.out.1 _).size))
        have h5 := (hb4.cell (p := ⟨w.heap.size, 5, none⟩) HQ.out.2.2).trans HQ.out.2.1
        clear hb4 q0 q3 q4 q5
        go_wp2
        go_loopg [5] 0 (fun g i wr => ∃ (j : Nat), g + j = 0 ∧ i = .int .i64 (j : Int) ∧ Below w.heap.size w wr ∧ wr.cell? ⟨w.heap.size, 5, none⟩ = some (.slice ak 0 ck))
        case atStart => exact ⟨0, rfl, rfl, HB4.out, h5⟩
        case round =>
          clear h5
          obtain ⟨j, hj, rfl, hnx, hcl⟩ := hrel
          obtain rfl : j = 0 := by omega
          go_wp2
          go_ret
          exact ⟨⟨true, rfl, ⟨fun _ => HY.out, fun _ => rfl⟩⟩, hnx⟩
  · have HN : Hid (¬ OK) := hide fun h => hL (by have := (HOK.out.1 h).1; omega)
    have hLi : ((0 : Int) != (L : Int)) = true := bne_iff_ne.2 (by omega)
    have hLj : ((0 : Int) == (L : Int)) = false := beq_eq_false_iff_ne.2 (by omega)
    have hLn : ¬ (0 : Int) = (L : Int) := by omega
    clear HOK HKS HLIT hL
    go_enter Tryd.func28, Tryd.ntmps28
    go_upto_region 1 with fail
    go_quiet ((go_at_call 42; exact Calls.quiet_of_same (HK42.out _)))
    go_wp2
    go_ret
    exact ⟨⟨false, rfl, ⟨fun h => absurd h (by decide), fun h => absurd h HN.out⟩⟩, drewN_below HQ.out.1 _⟩
set_option maxHeartbeats 4000000 in
/-- kind 2 -/
theorem right28_2 {m : Nat} (IH : RightC m) : ∀ n x lo va w (f : Bool), x.kind = 2 → NdIn (m + 1) n lo w x va → Calls Tryd.prog 28 #[va, .bool f] w fun e w' => (∃ b : Bool, e = .returned (.bool b) ∧ (b = true ↔ okN (m + 1) f x)) ∧ Below w.heap.size w w' := by
  intro n x lo va w f hkind hx
  obtain ⟨m', hm', a1, c1, a2, c2, ak, ck, rfl, hA, hl, hs, hK⟩ := hx.letters
  obtain rfl : m = m' := by omega
  have HKS := hide (kid_right IH hK)
  have HLIT := hide (fun W (hW : Below w.heap.size w W) => rlit18 x.lit _ W (hA.next hW))
  have HOK : Hid (okN (m + 1) f x ↔ ((x.kids.length : Int) = arK x.kind ∧ f = decide (21 ≤ x.kind) ∧ (x.kind = 1 → litB x.lit = true) ∧ ∀ i, i < x.kids.length → okN m (fnP x.kind i) (kp x i))) := hide Iff.rfl
  obtain ⟨OK, hOK⟩ : ∃ OK, okN (m + 1) f x = OK := ⟨_, rfl⟩
  rw [hOK] at HOK ⊢
  generalize litB x.lit = LB at *
  generalize hQ : (fun (f : Bool) (i : Nat) => okN m f (kp x i)) = Q at *
  have HQ : Hid (∀ f i, okN m f (kp x i) = Q f i) := hide (fun f i => by rw [← hQ])
  simp only [HQ.out] at HOK HKS
  clear IH hx hA hK hs hm' hOK hQ HQ
  generalize x.kids.length = L at *
  generalize x.kind = K0 at *
  generalize x.op = O0 at *
  generalize x.name = S0 at *
  generalize x.pos = P0 at *
  generalize x.lit.shape.length = L10 at *
  generalize x.lit.cells.length = L20 at *
  subst hkind
  rw [show arK 2 = 0 from rfl] at HOK
  have HK42 : Hid (∀ W, Calls Tryd.prog 42 #[.int .i64 2] W fun e w' => e = .returned (.int .i64 0) ∧ w' = W) := hide fun W => kids42 2 W
  have hb0 := one_alloc w (.cells #[.int .i64 2, .int .i64 O0, .string S0, .slice a1 L10 c1, .slice a2 L20 c2, .slice ak L ck, .int .i64 P0] 34)
  have q0 := cell_new0 w #[.int .i64 2, .int .i64 O0, .string S0, .slice a1 L10 c1, .slice a2 L20 c2, .slice ak L ck, .int .i64 P0] 34 0 _ rfl
  have q3 := cell_new0 w #[.int .i64 2, .int .i64 O0, .string S0, .slice a1 L10 c1, .slice a2 L20 c2, .slice ak L ck, .int .i64 P0] 34 3 _ rfl
  have q4 := cell_new0 w #[.int .i64 2, .int .i64 O0, .string S0, .slice a1 L10 c1, .slice a2 L20 c2, .slice ak L ck, .int .i64 P0] 34 4 _ rfl
  have q5 := cell_new0 w #[.int .i64 2, .int .i64 O0, .string S0, .slice a1 L10 c1, .slice a2 L20 c2, .slice ak L ck, .int .i64 P0] 34 5 _ rfl
  have HQ := hide (And.intro hb0 (And.intro q5 (show w.heap.size < (w.alloc (.cells #[.int .i64 2, .int .i64 O0, .string S0, .slice a1 L10 c1, .slice a2 L20 c2, .slice ak L ck, .int .i64 P0] 34)).heap.size by simp)))
  by_cases hL : L = 0
  · subst hL
    cases f with
    | true =>
      have HN : Hid (¬ OK) := hide fun h => absurd (HOK.out.1 h).2.1 (by decide)
      clear HOK HKS HLIT
      go_enter Tryd.func28, Tryd.ntmps28
      go_upto_region 1 with fail
      go_quiet ((go_at_call 42; exact Calls.quiet_of_same (HK42.out _)))
      go_wp2
      go_ret
      exact ⟨⟨false, rfl, ⟨fun h => absurd h (by decide), fun h => absurd h HN.out⟩⟩, drewN_below HQ.out.1 _⟩
    | false =>
      have HY : Hid OK := hide (HOK.out.2 ⟨by decide, by decide, fun h => absurd h (by decide), fun i hi => absurd hi (by omega)⟩)
      clear HOK HKS HLIT
      go_enter Tryd.func28, Tryd.ntmps28
      go_upto_region 1 with fail
      go_quiet ((go_at_call 42; exact Calls.quiet_of_same (HK42.out _)))
      go_wp2
      go_loopg [5] 0 (fun g i wr => ∃ (j : Nat), g + j = 0 ∧ i = .int .i64 (j : Int) ∧ Below w.heap.size w wr ∧ wr.cell? ⟨w.heap.size, 5, none⟩ = some (.slice ak 0 ck))
      case atStart => exact ⟨0, rfl, rfl, drewN_below HQ.out.1 _, HQ.out.2.1⟩
      case round =>
        clear q0 q3 q4 q5
        obtain ⟨j, hj, rfl, hnx, hcl⟩ := hrel
        obtain rfl : j = 0 := by omega
        go_wp2
        go_ret
        exact ⟨⟨true, rfl, ⟨fun _ => HY.out, fun _ => rfl⟩⟩, hnx⟩
  · have HN : Hid (¬ OK) := hide fun h => hL (by have := (HOK.out.1 h).1; omega)
    have hLi : ((0 : Int) != (L : Int)) = true := bne_iff_ne.2 (by omega)
    have hLj : ((0 : Int) == (L : Int)) = false := beq_eq_false_iff_ne.2 (by omega)
    have hLn : ¬ (0 : Int) = (L : Int) := by omega
    clear HOK HKS HLIT hL
    go_enter Tryd.func28, Tryd.ntmps28
    go_upto_region 1 with fail
    go_quiet ((go_at_call 42; exact Calls.quiet_of_same (HK42.out _)))
    go_wp2
    go_ret
    exact ⟨⟨false, rfl, ⟨fun h => absurd h (by decide), fun h => absurd h HN.out⟩⟩, drewN_below HQ.out.1 _⟩
set_option maxHeartbeats 4000000 in
/-- kind 3 -/
theorem right28_3 {m : Nat} (IH : RightC m) : ∀ n x lo va w (f : Bool), x.kind = 3 → NdIn (m + 1) n lo w x va → Calls Tryd.prog 28 #[va, .bool f] w fun e w' => (∃ b : Bool, e = .returned (.bool b) ∧ (b = true ↔ okN (m + 1) f x)) ∧ Below w.heap.size w w' := by
  intro n x lo va w f hkind hx
  obtain ⟨m', hm', a1, c1, a2, c2, ak, ck, rfl, hA, hl, hs, hK⟩ := hx.letters
  obtain rfl : m = m' := by omega
  have HKS := hide (kid_right IH hK)
  have HLIT := hide (fun W (hW : Below w.heap.size w W) => rlit18 x.lit _ W (hA.next hW))
  have HOK : Hid (okN (m + 1) f x ↔ ((x.kids.length : Int) = arK x.kind ∧ f = decide (21 ≤ x.kind) ∧ (x.kind = 1 → litB x.lit = true) ∧ ∀ i, i < x.kids.length → okN m (fnP x.kind i) (kp x i))) := hide Iff.rfl
  obtain ⟨OK, hOK⟩ : ∃ OK, okN (m + 1) f x = OK := ⟨_, rfl⟩
  rw [hOK] at HOK ⊢
  generalize litB x.lit = LB at *
  generalize hQ : (fun (f : Bool) (i : Nat) => okN m f (kp x i)) = Q at *
  have HQ : Hid (∀ f i, okN m f (kp x i) = Q f i) := hide (fun f i => by rw [← hQ])
  simp only [HQ.out] at HOK HKS
  clear IH hx hA hK hs hm' hOK hQ HQ
  generalize x.kids.length = L at *
  generalize x.kind = K0 at *
  generalize x.op = O0 at *
  generalize x.name = S0 at *
  generalize x.pos = P0 at *
  generalize x.lit.shape.length = L10 at *
  generalize x.lit.cells.length = L20 at *
  subst hkind
  rw [show arK 3 = 0 from rfl] at HOK
  have HK42 : Hid (∀ W, Calls Tryd.prog 42 #[.int .i64 3] W fun e w' => e = .returned (.int .i64 0) ∧ w' = W) := hide fun W => kids42 3 W
  have hb0 := one_alloc w (.cells #[.int .i64 3, .int .i64 O0, .string S0, .slice a1 L10 c1, .slice a2 L20 c2, .slice ak L ck, .int .i64 P0] 34)
  have q0 := cell_new0 w #[.int .i64 3, .int .i64 O0, .string S0, .slice a1 L10 c1, .slice a2 L20 c2, .slice ak L ck, .int .i64 P0] 34 0 _ rfl
  have q3 := cell_new0 w #[.int .i64 3, .int .i64 O0, .string S0, .slice a1 L10 c1, .slice a2 L20 c2, .slice ak L ck, .int .i64 P0] 34 3 _ rfl
  have q4 := cell_new0 w #[.int .i64 3, .int .i64 O0, .string S0, .slice a1 L10 c1, .slice a2 L20 c2, .slice ak L ck, .int .i64 P0] 34 4 _ rfl
  have q5 := cell_new0 w #[.int .i64 3, .int .i64 O0, .string S0, .slice a1 L10 c1, .slice a2 L20 c2, .slice ak L ck, .int .i64 P0] 34 5 _ rfl
  have HQ := hide (And.intro hb0 (And.intro q5 (show w.heap.size < (w.alloc (.cells #[.int .i64 3, .int .i64 O0, .string S0, .slice a1 L10 c1, .slice a2 L20 c2, .slice ak L ck, .int .i64 P0] 34)).heap.size by simp)))
  by_cases hL : L = 0
  · subst hL
    cases f with
    | true =>
      have HN : Hid (¬ OK) := hide fun h => absurd (HOK.out.1 h).2.1 (by decide)
      clear HOK HKS HLIT
      go_enter Tryd.func28, Tryd.ntmps28
      go_upto_region 1 with fail
      go_quiet ((go_at_call 42; exact Calls.quiet_of_same (HK42.out _)))
      go_wp2
      go_ret
      exact ⟨⟨false, rfl, ⟨fun h => absurd h (by decide), fun h => absurd h HN.out⟩⟩, drewN_below HQ.out.1 _⟩
    | false =>
      have HY : Hid OK := hide (HOK.out.2 ⟨by decide, by decide, fun h => absurd h (by decide), fun i hi => absurd hi (by omega)⟩)
      clear HOK HKS HLIT
      go_enter Tryd.func28, Tryd.ntmps28
      go_upto_region 1 with fail
      go_quiet ((go_at_call 42; exact Calls.quiet_of_same (HK42.out _)))
      go_wp2
      go_loopg [5] 0 (fun g i wr => ∃ (j : Nat), g + j = 0 ∧ i = .int .i64 (j : Int) ∧ Below w.heap.size w wr ∧ wr.cell? ⟨w.heap.size, 5, none⟩ = some (.slice ak 0 ck))
      case atStart => exact ⟨0, rfl, rfl, drewN_below HQ.out.1 _, HQ.out.2.1⟩
      case round =>
        clear q0 q3 q4 q5
        obtain ⟨j, hj, rfl, hnx, hcl⟩ := hrel
        obtain rfl : j = 0 := by omega
        go_wp2
        go_ret
        exact ⟨⟨true, rfl, ⟨fun _ => HY.out, fun _ => rfl⟩⟩, hnx⟩
  · have HN : Hid (¬ OK) := hide fun h => hL (by have := (HOK.out.1 h).1; omega)
    have hLi : ((0 : Int) != (L : Int)) = true := bne_iff_ne.2 (by omega)
    have hLj : ((0 : Int) == (L : Int)) = false := beq_eq_false_iff_ne.2 (by omega)
    have hLn : ¬ (0 : Int) = (L : Int) := by omega
    clear HOK HKS HLIT hL
    go_enter Tryd.func28, Tryd.ntmps28
    go_upto_region 1 with fail
    go_quiet ((go_at_call 42; exact Calls.quiet_of_same (HK42.out _)))
    go_wp2
    go_ret
    exact ⟨⟨false, rfl, ⟨fun h => absurd h (by decide), fun h => absurd h HN.out⟩⟩, drewN_below HQ.out.1 _⟩
set_option maxHeartbeats 4000000 in
/-- kind 4 -/
theorem right28_4 {m : Nat} (IH : RightC m) : ∀ n x lo va w (f : Bool), x.kind = 4 → NdIn (m + 1) n lo w x va → Calls Tryd.prog 28 #[va, .bool f] w fun e w' => (∃ b : Bool, e = .returned (.bool b) ∧ (b = true ↔ okN (m + 1) f x)) ∧ Below w.heap.size w w' := by
  intro n x lo va w f hkind hx
  obtain ⟨m', hm', a1, c1, a2, c2, ak, ck, rfl, hA, hl, hs, hK⟩ := hx.letters
  obtain rfl : m = m' := by omega
  have HKS := hide (kid_right IH hK)
  have HLIT := hide (fun W (hW : Below w.heap.size w W) => rlit18 x.lit _ W (hA.next hW))
  have HOK : Hid (okN (m + 1) f x ↔ ((x.kids.length : Int) = arK x.kind ∧ f = decide (21 ≤ x.kind) ∧ (x.kind = 1 → litB x.lit = true) ∧ ∀ i, i < x.kids.length → okN m (fnP x.kind i) (kp x i))) := hide Iff.rfl
  obtain ⟨OK, hOK⟩ : ∃ OK, okN (m + 1) f x = OK := ⟨_, rfl⟩
  rw [hOK] at HOK ⊢
  generalize litB x.lit = LB at *
  generalize hQ : (fun (f : Bool) (i : Nat) => okN m f (kp x i)) = Q at *
  have HQ : Hid (∀ f i, okN m f (kp x i) = Q f i) := hide (fun f i => by rw [← hQ])
  simp only [HQ.out] at HOK HKS
  clear IH hx hA hK hs hm' hOK hQ HQ
  generalize x.kids.length = L at *
  generalize x.kind = K0 at *
  generalize x.op = O0 at *
  generalize x.name = S0 at *
  generalize x.pos = P0 at *
  generalize x.lit.shape.length = L10 at *
  generalize x.lit.cells.length = L20 at *
  subst hkind
  rw [show arK 4 = 0 from rfl] at HOK
  have HK42 : Hid (∀ W, Calls Tryd.prog 42 #[.int .i64 4] W fun e w' => e = .returned (.int .i64 0) ∧ w' = W) := hide fun W => kids42 4 W
  have hb0 := one_alloc w (.cells #[.int .i64 4, .int .i64 O0, .string S0, .slice a1 L10 c1, .slice a2 L20 c2, .slice ak L ck, .int .i64 P0] 34)
  have q0 := cell_new0 w #[.int .i64 4, .int .i64 O0, .string S0, .slice a1 L10 c1, .slice a2 L20 c2, .slice ak L ck, .int .i64 P0] 34 0 _ rfl
  have q3 := cell_new0 w #[.int .i64 4, .int .i64 O0, .string S0, .slice a1 L10 c1, .slice a2 L20 c2, .slice ak L ck, .int .i64 P0] 34 3 _ rfl
  have q4 := cell_new0 w #[.int .i64 4, .int .i64 O0, .string S0, .slice a1 L10 c1, .slice a2 L20 c2, .slice ak L ck, .int .i64 P0] 34 4 _ rfl
  have q5 := cell_new0 w #[.int .i64 4, .int .i64 O0, .string S0, .slice a1 L10 c1, .slice a2 L20 c2, .slice ak L ck, .int .i64 P0] 34 5 _ rfl
  have HQ := hide (And.intro hb0 (And.intro q5 (show w.heap.size < (w.alloc (.cells #[.int .i64 4, .int .i64 O0, .string S0, .slice a1 L10 c1, .slice a2 L20 c2, .slice ak L ck, .int .i64 P0] 34)).heap.size by simp)))
  by_cases hL : L = 0
  · subst hL
    cases f with
    | true =>
      have HN : Hid (¬ OK) := hide fun h => absurd (HOK.out.1 h).2.1 (by decide)
      clear HOK HKS HLIT
      go_enter Tryd.func28, Tryd.ntmps28
      go_upto_region 1 with fail
      go_quiet ((go_at_call 42; exact Calls.quiet_of_same (HK42.out _)))
      go_wp2
      go_ret
      exact ⟨⟨false, rfl, ⟨fun h => absurd h (by decide), fun h => absurd h HN.out⟩⟩, drewN_below HQ.out.1 _⟩
    | false =>
      have HY : Hid OK := hide (HOK.out.2 ⟨by decide, by decide, fun h => absurd h (by decide), fun i hi => absurd hi (by omega)⟩)
      clear HOK HKS HLIT
      go_enter Tryd.func28, Tryd.ntmps28
      go_upto_region 1 with fail
      go_quiet ((go_at_call 42; exact Calls.quiet_of_same (HK42.out _)))
      go_wp2
      go_loopg [5] 0 (fun g i wr => ∃ (j : Nat), g + j = 0 ∧ i = .int .i64 (j : Int) ∧ Below w.heap.size w wr ∧ wr.cell? ⟨w.heap.size, 5, none⟩ = some (.slice ak 0 ck))
      case atStart => exact ⟨0, rfl, rfl, drewN_below HQ.out.1 _, HQ.out.2.1⟩
      case round =>
        clear q0 q3 q4 q5
        obtain ⟨j, hj, rfl, hnx, hcl⟩ := hrel
        obtain rfl : j = 0 := by omega
        go_wp2
        go_ret
        exact ⟨⟨true, rfl, ⟨fun _ => HY.out, fun _ => rfl⟩⟩, hnx⟩
  · have HN : Hid (¬ OK) := hide fun h => hL (by have := (HOK.out.1 h).1; omega)
    have hLi : ((0 : Int) != (L : Int)) = true := bne_iff_ne.2 (by omega)
    have hLj : ((0 : Int) == (L : Int)) = false := beq_eq_false_iff_ne.2 (by omega)
    have hLn : ¬ (0 : Int) = (L : Int) := by omega
    clear HOK HKS HLIT hL
    go_enter Tryd.func28, Tryd.ntmps28
    go_upto_region 1 with fail
    go_quiet ((go_at_call 42; exact Calls.quiet_of_same (HK42.out _)))
    go_wp2
    go_ret
    exact ⟨⟨false, rfl, ⟨fun h => absurd h (by decide), fun h => absurd h HN.out⟩⟩, drewN_below HQ.out.1 _⟩
set_option maxHeartbeats 4000000 in
/-- kind 21 -/
theorem right28_21 {m : Nat} (IH : RightC m) : ∀ n x lo va w (f : Bool), x.kind = 21 → NdIn (m + 1) n lo w x va → Calls Tryd.prog 28 #[va, .bool f] w fun e w' => (∃ b : Bool, e = .returned (.bool b) ∧ (b = true ↔ okN (m + 1) f x)) ∧ Below w.heap.size w w' := by
  intro n x lo va w f hkind hx
  obtain ⟨m', hm', a1, c1, a2, c2, ak, ck, rfl, hA, hl, hs, hK⟩ := hx.letters
  obtain rfl : m = m' := by omega
  have HKS := hide (kid_right IH hK)
  have HLIT := hide (fun W (hW : Below w.heap.size w W) => rlit18 x.lit _ W (hA.next hW))
  have HOK : Hid (okN (m + 1) f x ↔ ((x.kids.length : Int) = arK x.kind ∧ f = decide (21 ≤ x.kind) ∧ (x.kind = 1 → litB x.lit = true) ∧ ∀ i, i < x.kids.length → okN m (fnP x.kind i) (kp x i))) := hide Iff.rfl
  obtain ⟨OK, hOK⟩ : ∃ OK, okN (m + 1) f x = OK := ⟨_, rfl⟩
  rw [hOK] at HOK ⊢
  generalize litB x.lit = LB at *
  generalize hQ : (fun (f : Bool) (i : Nat) => okN m f (kp x i)) = Q at *
  have HQ : Hid (∀ f i, okN m f (kp x i) = Q f i) := hide (fun f i => by rw [← hQ])
  simp only [HQ.out] at HOK HKS
  clear IH hx hA hK hs hm' hOK hQ HQ
  generalize x.kids.length = L at *
  generalize x.kind = K0 at *
  generalize x.op = O0 at *
  generalize x.name = S0 at *
  generalize x.pos = P0 at *
  generalize x.lit.shape.length = L10 at *
  generalize x.lit.cells.length = L20 at *
  subst hkind
  rw [show arK 21 = 0 from rfl] at HOK
  have HK42 : Hid (∀ W, Calls Tryd.prog 42 #[.int .i64 21] W fun e w' => e = .returned (.int .i64 0) ∧ w' = W) := hide fun W => kids42 21 W
  have hb0 := one_alloc w (.cells #[.int .i64 21, .int .i64 O0, .string S0, .slice a1 L10 c1, .slice a2 L20 c2, .slice ak L ck, .int .i64 P0] 34)
  have q0 := cell_new0 w #[.int .i64 21, .int .i64 O0, .string S0, .slice a1 L10 c1, .slice a2 L20 c2, .slice ak L ck, .int .i64 P0] 34 0 _ rfl
  have q3 := cell_new0 w #[.int .i64 21, .int .i64 O0, .string S0, .slice a1 L10 c1, .slice a2 L20 c2, .slice ak L ck, .int .i64 P0] 34 3 _ rfl
  have q4 := cell_new0 w #[.int .i64 21, .int .i64 O0, .string S0, .slice a1 L10 c1, .slice a2 L20 c2, .slice ak L ck, .int .i64 P0] 34 4 _ rfl
  have q5 := cell_new0 w #[.int .i64 21, .int .i64 O0, .string S0, .slice a1 L10 c1, .slice a2 L20 c2, .slice ak L ck, .int .i64 P0] 34 5 _ rfl
  have HQ := hide (And.intro hb0 (And.intro q5 (show w.heap.size < (w.alloc (.cells #[.int .i64 21, .int .i64 O0, .string S0, .slice a1 L10 c1, .slice a2 L20 c2, .slice ak L ck, .int .i64 P0] 34)).heap.size by simp)))
  by_cases hL : L = 0
  · subst hL
    cases f with
    | false =>
      have HN : Hid (¬ OK) := hide fun h => absurd (HOK.out.1 h).2.1 (by decide)
      clear HOK HKS HLIT
      go_enter Tryd.func28, Tryd.ntmps28
      go_upto_region 1 with fail
      go_quiet ((go_at_call 42; exact Calls.quiet_of_same (HK42.out _)))
      go_wp2
      go_ret
      exact ⟨⟨false, rfl, ⟨fun h => absurd h (by decide), fun h => absurd h HN.out⟩⟩, drewN_below HQ.out.1 _⟩
    | true =>
      have HY : Hid OK := hide (HOK.out.2 ⟨by decide, by decide, fun h => absurd h (by decide), fun i hi => absurd hi (by omega)⟩)
      clear HOK HKS HLIT
      go_enter Tryd.func28, Tryd.ntmps28
      go_upto_region 1 with fail
      go_quiet ((go_at_call 42; exact Calls.quiet_of_same (HK42.out _)))
      go_wp2
      go_loopg [5] 0 (fun g i wr => ∃ (j : Nat), g + j = 0 ∧ i = .int .i64 (j : Int) ∧ Below w.heap.size w wr ∧ wr.cell? ⟨w.heap.size, 5, none⟩ = some (.slice ak 0 ck))
      case atStart => exact ⟨0, rfl, rfl, drewN_below HQ.out.1 _, HQ.out.2.1⟩
      case round =>
        clear q0 q3 q4 q5
        obtain ⟨j, hj, rfl, hnx, hcl⟩ := hrel
        obtain rfl : j = 0 := by omega
        go_wp2
        go_ret
        exact ⟨⟨true, rfl, ⟨fun _ => HY.out, fun _ => rfl⟩⟩, hnx⟩
  · have HN : Hid (¬ OK) := hide fun h => hL (by have := (HOK.out.1 h).1; omega)
    have hLi : ((0 : Int) != (L : Int)) = true := bne_iff_ne.2 (by omega)
    have hLj : ((0 : Int) == (L : Int)) = false := beq_eq_false_iff_ne.2 (by omega)
    have hLn : ¬ (0 : Int) = (L : Int) := by omega
    clear HOK HKS HLIT hL
    go_enter Tryd.func28, Tryd.ntmps28
    go_upto_region 1 with fail
    go_quiet ((go_at_call 42; exact Calls.quiet_of_same (HK42.out _)))
    go_wp2
    go_ret
    exact ⟨⟨false, rfl, ⟨fun h => absurd h (by decide), fun h => absurd h HN.out⟩⟩, drewN_below HQ.out.1 _⟩
set_option maxHeartbeats 4000000 in
/-- kind 22 -/
theorem right28_22 {m : Nat} (IH : RightC m) : ∀ n x lo va w (f : Bool), x.kind = 22 → NdIn (m + 1) n lo w x va → Calls Tryd.prog 28 #[va, .bool f] w fun e w' => (∃ b : Bool, e = .returned (.bool b) ∧ (b = true ↔ okN (m + 1) f x)) ∧ Below w.heap.size w w' := by
  intro n x lo va w f hkind hx
  obtain ⟨m', hm', a1, c1, a2, c2, ak, ck, rfl, hA, hl, hs, hK⟩ := hx.letters
  obtain rfl : m = m' := by omega
  have HKS := hide (kid_right IH hK)
  have HLIT := hide (fun W (hW : Below w.heap.size w W) => rlit18 x.lit _ W (hA.next hW))
  have HOK : Hid (okN (m + 1) f x ↔ ((x.kids.length : Int) = arK x.kind ∧ f = decide (21 ≤ x.kind) ∧ (x.kind = 1 → litB x.lit = true) ∧ ∀ i, i < x.kids.length → okN m (fnP x.kind i) (kp x i))) := hide Iff.rfl
  obtain ⟨OK, hOK⟩ : ∃ OK, okN (m + 1) f x = OK := ⟨_, rfl⟩
  rw [hOK] at HOK ⊢
  generalize litB x.lit = LB at *
  generalize hQ : (fun (f : Bool) (i : Nat) => okN m f (kp x i)) = Q at *
  have HQ : Hid (∀ f i, okN m f (kp x i) = Q f i) := hide (fun f i => by rw [← hQ])
  simp only [HQ.out] at HOK HKS
  clear IH hx hA hK hs hm' hOK hQ HQ
  generalize x.kids.length = L at *
  generalize x.kind = K0 at *
  generalize x.op = O0 at *
  generalize x.name = S0 at *
  generalize x.pos = P0 at *
  generalize x.lit.shape.length = L10 at *
  generalize x.lit.cells.length = L20 at *
  subst hkind
  rw [show arK 22 = 1 from rfl] at HOK
  have HK42 : Hid (∀ W, Calls Tryd.prog 42 #[.int .i64 22] W fun e w' => e = .returned (.int .i64 1) ∧ w' = W) := hide fun W => kids42 22 W
  have hb0 := one_alloc w (.cells #[.int .i64 22, .int .i64 O0, .string S0, .slice a1 L10 c1, .slice a2 L20 c2, .slice ak L ck, .int .i64 P0] 34)
  have q0 := cell_new0 w #[.int .i64 22, .int .i64 O0, .string S0, .slice a1 L10 c1, .slice a2 L20 c2, .slice ak L ck, .int .i64 P0] 34 0 _ rfl
  have q3 := cell_new0 w #[.int .i64 22, .int .i64 O0, .string S0, .slice a1 L10 c1, .slice a2 L20 c2, .slice ak L ck, .int .i64 P0] 34 3 _ rfl
  have q4 := cell_new0 w #[.int .i64 22, .int .i64 O0, .string S0, .slice a1 L10 c1, .slice a2 L20 c2, .slice ak L ck, .int .i64 P0] 34 4 _ rfl
  have q5 := cell_new0 w #[.int .i64 22, .int .i64 O0, .string S0, .slice a1 L10 c1, .slice a2 L20 c2, .slice ak L ck, .int .i64 P0] 34 5 _ rfl
  have HQ := hide (And.intro hb0 (And.intro q5 (show w.heap.size < (w.alloc (.cells #[.int .i64 22, .int .i64 O0, .string S0, .slice a1 L10 c1, .slice a2 L20 c2, .slice ak L ck, .int .i64 P0] 34)).heap.size by simp)))
  by_cases hL : L = 1
  · subst hL
    cases f with
    | false =>
      have HN : Hid (¬ OK) := hide fun h => absurd (HOK.out.1 h).2.1 (by decide)
      clear HOK HKS HLIT
      go_enter Tryd.func28, Tryd.ntmps28
      go_upto_region 1 with fail
      go_quiet ((go_at_call 42; exact Calls.quiet_of_same (HK42.out _)))
      go_wp2
      go_ret
      exact ⟨⟨false, rfl, ⟨fun h => absurd h (by decide), fun h => absurd h HN.out⟩⟩, drewN_below HQ.out.1 _⟩
    | true =>
      clear HLIT
      go_enter Tryd.func28, Tryd.ntmps28
      go_upto_region 1 with fail
      go_quiet ((go_at_call 42; exact Calls.quiet_of_same (HK42.out _)))
      go_wp2
      go_loopg [5] 1 (fun g i wr => ∃ (j : Nat), g + j = 1 ∧ i = .int .i64 (j : Int) ∧ (∀ i, i < j → Q (fnP 22 i) i) ∧ Below w.heap.size w wr ∧ wr.cell? ⟨w.heap.size, 5, none⟩ = some (.slice ak 1 ck) ∧ wr.cell? ⟨w.heap.size, 0, none⟩ = some (.int .i64 22) ∧ w.heap.size < wr.heap.size)
      case atStart => exact ⟨0, rfl, rfl, fun i hi => absurd hi (by omega), drewN_below HQ.out.1 _, HQ.out.2.1, q0, HQ.out.2.2⟩
      case round =>
        clear HQ q0 q3 q4 q5
        obtain ⟨j, hj, rfl, hall, hnx, hcl, hcl0, hsz2⟩ := hrel
        have HSZ := hide hsz2
        have HALL := hide hall
        clear hsz2 hall
        by_cases hlt : j < 1
        · obtain ⟨b, off, K, O, S, A1, L1, C1, A2, L2, C2, AK, LK, CK, P, rfl, hw⟩ := HKS.out j hlt
          obtain ⟨⟨g0, g1, g2, g3, g4, g5, g6⟩, C⟩ := hw _ hnx
          by_cases hj0 : j = 0
          · have hji : ((j : Int) == 0) = true := beq_iff_eq.2 (by omega)
            have HC := hide (show Calls Tryd.prog 28 #[.agg #[.int .i64 K, .int .i64 O, .string S, .slice A1 L1 C1, .slice A2 L2 C2, .slice AK LK CK, .int .i64 P], .bool false] wr fun e w' => (∃ b : Bool, e = .returned (.bool b) ∧ (b = true ↔ Q (fnP 22 j) j)) ∧ Below wr.heap.size wr w' from by
              rw [show fnP 22 j = false by simp [fnP, hj0]]
              exact C false)
            clear C hw HKS hj0
            go_wp2_with fail
            refine HC.out.mono ?_
            rintro e w1 ⟨⟨bk, rfl, hbk⟩, hb1⟩
            clear HC g0 g1 g2 g3 g4 g5 g6
            have HBK := hide hbk
            clear hbk
            cases bk with
            | false =>
              have HN : Hid (¬ OK) := hide fun h => absurd (HBK.out.2 ((HOK.out.1 h).2.2.2 j hlt)) (by decide)
              clear HOK HBK HALL
              go_wp2
              go_ret
              exact ⟨⟨false, rfl, ⟨fun h => absurd h (by decide), fun h => absurd h HN.out⟩⟩, hnx.trans (hb1.mono hnx.size)⟩
            | true =>
              have HQJ := hide (HBK.out.1 rfl)
              clear HBK
              go_wp2
              go_roundg (1 - (j + 1))
              case rel =>
                refine ⟨j + 1, by omega, by go_num, fun i hi => ?_, hnx.trans (hb1.mono hnx.size), (hb1.cell (p := ⟨w.heap.size, 5, none⟩) HSZ.out).trans hcl, (hb1.cell (p := ⟨w.heap.size, 0, none⟩) HSZ.out).trans hcl0, Nat.lt_of_lt_of_le HSZ.out hb1.size⟩
                by_cases hij : i = j
                · subst hij; exact HQJ.out
                · exact HALL.out i (by omega)
              case measure => omega
          · have hji : ((j : Int) == 0) = false := beq_eq_false_iff_ne.2 (by omega)
            have HC := hide (show Calls Tryd.prog 28 #[.agg #[.int .i64 K, .int .i64 O, .string S, .slice A1 L1 C1, .slice A2 L2 C2, .slice AK LK CK, .int .i64 P], .bool false] wr fun e w' => (∃ b : Bool, e = .returned (.bool b) ∧ (b = true ↔ Q (fnP 22 j) j)) ∧ Below wr.heap.size wr w' from by
              rw [show fnP 22 j = false by simp [fnP, hj0]]
              exact C false)
            clear C hw HKS hj0
            go_wp2_with fail
            refine HC.out.mono ?_
            rintro e w1 ⟨⟨bk, rfl, hbk⟩, hb1⟩
            clear HC g0 g1 g2 g3 g4 g5 g6
            have HBK := hide hbk
            clear hbk
            cases bk with
            | false =>
              have HN : Hid (¬ OK) := hide fun h => absurd (HBK.out.2 ((HOK.out.1 h).2.2.2 j hlt)) (by decide)
              clear HOK HBK HALL
              go_wp2
              go_ret
              exact ⟨⟨false, rfl, ⟨fun h => absurd h (by decide), fun h => absurd h HN.out⟩⟩, hnx.trans (hb1.mono hnx.size)⟩
            | true =>
              have HQJ := hide (HBK.out.1 rfl)
              clear HBK
              go_wp2
              go_roundg (1 - (j + 1))
              case rel =>
                refine ⟨j + 1, by omega, by go_num, fun i hi => ?_, hnx.trans (hb1.mono hnx.size), (hb1.cell (p := ⟨w.heap.size, 5, none⟩) HSZ.out).trans hcl, (hb1.cell (p := ⟨w.heap.size, 0, none⟩) HSZ.out).trans hcl0, Nat.lt_of_lt_of_le HSZ.out hb1.size⟩
                by_cases hij : i = j
                · subst hij; exact HQJ.out
                · exact HALL.out i (by omega)
              case measure => omega
        · have hje : j = 1 := by omega
          subst hje
          have HY : Hid OK := hide (HOK.out.2 ⟨by decide, by decide, fun h => absurd h (by decide), HALL.out⟩)
          clear HKS HOK HALL
          go_wp2
          go_ret
          exact ⟨⟨true, rfl, ⟨fun _ => HY.out, fun _ => rfl⟩⟩, hnx⟩
  · have HN : Hid (¬ OK) := hide fun h => hL (by have := (HOK.out.1 h).1; omega)
    have hLi : ((1 : Int) != (L : Int)) = true := bne_iff_ne.2 (by omega)
    have hLj : ((1 : Int) == (L : Int)) = false := beq_eq_false_iff_ne.2 (by omega)
    have hLn : ¬ (1 : Int) = (L : Int) := by omega
    clear HOK HKS HLIT hL
    go_enter Tryd.func28, Tryd.ntmps28
    go_upto_region 1 with fail
    go_quiet ((go_at_call 42; exact Calls.quiet_of_same (HK42.out _)))
    go_wp2
    go_ret
    exact ⟨⟨false, rfl, ⟨fun h => absurd h (by decide), fun h => absurd h HN.out⟩⟩, drewN_below HQ.out.1 _⟩
set_option maxHeartbeats 4000000 in
/-- kind 23 -/
theorem right28_23 {m : Nat} (IH : RightC m) : ∀ n x lo va w (f : Bool), x.kind = 23 → NdIn (m + 1) n lo w x va → Calls Tryd.prog 28 #[va, .bool f] w fun e w' => (∃ b : Bool, e = .returned (.bool b) ∧ (b = true ↔ okN (m + 1) f x)) ∧ Below w.heap.size w w' := by
  intro n x lo va w f hkind hx
  obtain ⟨m', hm', a1, c1, a2, c2, ak, ck, rfl, hA, hl, hs, hK⟩ := hx.letters
  obtain rfl : m = m' := by omega
  have HKS := hide (kid_right IH hK)
  have HLIT := hide (fun W (hW : Below w.heap.size w W) => rlit18 x.lit _ W (hA.next hW))
  have HOK : Hid (okN (m + 1) f x ↔ ((x.kids.length : Int) = arK x.kind ∧ f = decide (21 ≤ x.kind) ∧ (x.kind = 1 → litB x.lit = true) ∧ ∀ i, i < x.kids.length → okN m (fnP x.kind i) (kp x i))) := hide Iff.rfl
  obtain ⟨OK, hOK⟩ : ∃ OK, okN (m + 1) f x = OK := ⟨_, rfl⟩
  rw [hOK] at HOK ⊢
  generalize litB x.lit = LB at *
  generalize hQ : (fun (f : Bool) (i : Nat) => okN m f (kp x i)) = Q at *
  have HQ : Hid (∀ f i, okN m f (kp x i) = Q f i) := hide (fun f i => by rw [← hQ])
  simp only [HQ.out] at HOK HKS
  clear IH hx hA hK hs hm' hOK hQ HQ
  generalize x.kids.length = L at *
  generalize x.kind = K0 at *
  generalize x.op = O0 at *
  generalize x.name = S0 at *
  generalize x.pos = P0 at *
  generalize x.lit.shape.length = L10 at *
  generalize x.lit.cells.length = L20 at *
  subst hkind
  rw [show arK 23 = 1 from rfl] at HOK
  have HK42 : Hid (∀ W, Calls Tryd.prog 42 #[.int .i64 23] W fun e w' => e = .returned (.int .i64 1) ∧ w' = W) := hide fun W => kids42 23 W
  have hb0 := one_alloc w (.cells #[.int .i64 23, .int .i64 O0, .string S0, .slice a1 L10 c1, .slice a2 L20 c2, .slice ak L ck, .int .i64 P0] 34)
  have q0 := cell_new0 w #[.int .i64 23, .int .i64 O0, .string S0, .slice a1 L10 c1, .slice a2 L20 c2, .slice ak L ck, .int .i64 P0] 34 0 _ rfl
  have q3 := cell_new0 w #[.int .i64 23, .int .i64 O0, .string S0, .slice a1 L10 c1, .slice a2 L20 c2, .slice ak L ck, .int .i64 P0] 34 3 _ rfl
  have q4 := cell_new0 w #[.int .i64 23, .int .i64 O0, .string S0, .slice a1 L10 c1, .slice a2 L20 c2, .slice ak L ck, .int .i64 P0] 34 4 _ rfl
  have q5 := cell_new0 w #[.int .i64 23, .int .i64 O0, .string S0, .slice a1 L10 c1, .slice a2 L20 c2, .slice ak L ck, .int .i64 P0] 34 5 _ rfl
  have HQ := hide (And.intro hb0 (And.intro q5 (show w.heap.size < (w.alloc (.cells #[.int .i64 23, .int .i64 O0, .string S0, .slice a1 L10 c1, .slice a2 L20 c2, .slice ak L ck, .int .i64 P0] 34)).heap.size by simp)))
  by_cases hL : L = 1
  · subst hL
    cases f with
    | false =>
      have HN : Hid (¬ OK) := hide fun h => absurd (HOK.out.1 h).2.1 (by decide)
      clear HOK HKS HLIT
      go_enter Tryd.func28, Tryd.ntmps28
      go_upto_region 1 with fail
      go_quiet ((go_at_call 42; exact Calls.quiet_of_same (HK42.out _)))
      go_wp2
      go_ret
      exact ⟨⟨false, rfl, ⟨fun h => absurd h (by decide), fun h => absurd h HN.out⟩⟩, drewN_below HQ.out.1 _⟩
    | true =>
      clear HLIT
      go_enter Tryd.func28, Tryd.ntmps28
      go_upto_region 1 with fail
      go_quiet ((go_at_call 42; exact Calls.quiet_of_same (HK42.out _)))
      go_wp2
      go_loopg [5] 1 (fun g i wr => ∃ (j : Nat), g + j = 1 ∧ i = .int .i64 (j : Int) ∧ (∀ i, i < j → Q (fnP 23 i) i) ∧ Below w.heap.size w wr ∧ wr.cell? ⟨w.heap.size, 5, none⟩ = some (.slice ak 1 ck) ∧ wr.cell? ⟨w.heap.size, 0, none⟩ = some (.int .i64 23) ∧ w.heap.size < wr.heap.size)
      case atStart => exact ⟨0, rfl, rfl, fun i hi => absurd hi (by omega), drewN_below HQ.out.1 _, HQ.out.2.1, q0, HQ.out.2.2⟩
      case round =>
        clear HQ q0 q3 q4 q5
        obtain ⟨j, hj, rfl, hall, hnx, hcl, hcl0, hsz2⟩ := hrel
        have HSZ := hide hsz2
        have HALL := hide hall
        clear hsz2 hall
        by_cases hlt : j < 1
        · obtain ⟨b, off, K, O, S, A1, L1, C1, A2, L2, C2, AK, LK, CK, P, rfl, hw⟩ := HKS.out j hlt
          obtain ⟨⟨g0, g1, g2, g3, g4, g5, g6⟩, C⟩ := hw _ hnx
          by_cases hj0 : j = 0
          · have hji : ((j : Int) == 0) = true := beq_iff_eq.2 (by omega)
            have HC := hide (show Calls Tryd.prog 28 #[.agg #[.int .i64 K, .int .i64 O, .string S, .slice A1 L1 C1, .slice A2 L2 C2, .slice AK LK CK, .int .i64 P], .bool false] wr fun e w' => (∃ b : Bool, e = .returned (.bool b) ∧ (b = true ↔ Q (fnP 23 j) j)) ∧ Below wr.heap.size wr w' from by
              rw [show fnP 23 j = false by simp [fnP, hj0]]
              exact C false)
            clear C hw HKS hj0
            go_wp2_with fail
            refine HC.out.mono ?_
            rintro e w1 ⟨⟨bk, rfl, hbk⟩, hb1⟩
            clear HC g0 g1 g2 g3 g4 g5 g6
            have HBK := hide hbk
            clear hbk
            cases bk with
            | false =>
              have HN : Hid (¬ OK) := hide fun h => absurd (HBK.out.2 ((HOK.out.1 h).2.2.2 j hlt)) (by decide)
              clear HOK HBK HALL
              go_wp2
              go_ret
              exact ⟨⟨false, rfl, ⟨fun h => absurd h (by decide), fun h => absurd h HN.out⟩⟩, hnx.trans (hb1.mono hnx.size)⟩
            | true =>
              have HQJ := hide (HBK.out.1 rfl)
              clear HBK
              go_wp2
              go_roundg (1 - (j + 1))
              case rel =>
                refine ⟨j + 1, by omega, by go_num, fun i hi => ?_, hnx.trans (hb1.mono hnx.size), (hb1.cell (p := ⟨w.heap.size, 5, none⟩) HSZ.out).trans hcl, (hb1.cell (p := ⟨w.heap.size, 0, none⟩) HSZ.out).trans hcl0, Nat.lt_of_lt_of_le HSZ.out hb1.size⟩
                by_cases hij : i = j
                · subst hij; exact HQJ.out
                · exact HALL.out i (by omega)
              case measure => omega
          · have hji : ((j : Int) == 0) = false := beq_eq_false_iff_ne.2 (by omega)
            have HC := hide (show Calls Tryd.prog 28 #[.agg #[.int .i64 K, .int .i64 O, .string S, .slice A1 L1 C1, .slice A2 L2 C2, .slice AK LK CK, .int .i64 P], .bool false] wr fun e w' => (∃ b : Bool, e = .returned (.bool b) ∧ (b = true ↔ Q (fnP 23 j) j)) ∧ Below wr.heap.size wr w' from by
              rw [show fnP 23 j = false by simp [fnP, hj0]]
              exact C false)
            clear C hw HKS hj0
            go_wp2_with fail
            refine HC.out.mono ?_
            rintro e w1 ⟨⟨bk, rfl, hbk⟩, hb1⟩
            clear HC g0 g1 g2 g3 g4 g5 g6
            have HBK := hide hbk
            clear hbk
            cases bk with
            | false =>
              have HN : Hid (¬ OK) := hide fun h => absurd (HBK.out.2 ((HOK.out.1 h).2.2.2 j hlt)) (by decide)
              clear HOK HBK HALL
              go_wp2
              go_ret
              exact ⟨⟨false, rfl, ⟨fun h => absurd h (by decide), fun h => absurd h HN.out⟩⟩, hnx.trans (hb1.mono hnx.size)⟩
            | true =>
              have HQJ := hide (HBK.out.1 rfl)
              clear HBK
              go_wp2
              go_roundg (1 - (j + 1))
              case rel =>
                refine ⟨j + 1, by omega, by go_num, fun i hi => ?_, hnx.trans (hb1.mono hnx.size), (hb1.cell (p := ⟨w.heap.size, 5, none⟩) HSZ.out).trans hcl, (hb1.cell (p := ⟨w.heap.size, 0, none⟩) HSZ.out).trans hcl0, Nat.lt_of_lt_of_le HSZ.out hb1.size⟩
                by_cases hij : i = j
                · subst hij; exact HQJ.out
                · exact HALL.out i (by omega)
              case measure => omega
        · have hje : j = 1 := by omega
          subst hje
          have HY : Hid OK := hide (HOK.out.2 ⟨by decide, by decide, fun h => absurd h (by decide), HALL.out⟩)
          clear HKS HOK HALL
          go_wp2
          go_ret
          exact ⟨⟨true, rfl, ⟨fun _ => HY.out, fun _ => rfl⟩⟩, hnx⟩
  · have HN : Hid (¬ OK) := hide fun h => hL (by have := (HOK.out.1 h).1; omega)
    have hLi : ((1 : Int) != (L : Int)) = true := bne_iff_ne.2 (by omega)
    have hLj : ((1 : Int) == (L : Int)) = false := beq_eq_false_iff_ne.2 (by omega)
    have hLn : ¬ (1 : Int) = (L : Int) := by omega
    clear HOK HKS HLIT hL
    go_enter Tryd.func28, Tryd.ntmps28
    go_upto_region 1 with fail
    go_quiet ((go_at_call 42; exact Calls.quiet_of_same (HK42.out _)))
    go_wp2
    go_ret
    exact ⟨⟨false, rfl, ⟨fun h => absurd h (by decide), fun h => absurd h HN.out⟩⟩, drewN_below HQ.out.1 _⟩
set_option maxHeartbeats 4000000 in
/-- kind 24 -/
theorem right28_24 {m : Nat} (IH : RightC m) : ∀ n x lo va w (f : Bool), x.kind = 24 → NdIn (m + 1) n lo w x va → Calls Tryd.prog 28 #[va, .bool f] w fun e w' => (∃ b : Bool, e = .returned (.bool b) ∧ (b = true ↔ okN (m + 1) f x)) ∧ Below w.heap.size w w' := by
  intro n x lo va w f hkind hx
  obtain ⟨m', hm', a1, c1, a2, c2, ak, ck, rfl, hA, hl, hs, hK⟩ := hx.letters
  obtain rfl : m = m' := by omega
  have HKS := hide (kid_right IH hK)
  have HLIT := hide (fun W (hW : Below w.heap.size w W) => rlit18 x.lit _ W (hA.next hW))
  have HOK : Hid (okN (m + 1) f x ↔ ((x.kids.length : Int) = arK x.kind ∧ f = decide (21 ≤ x.kind) ∧ (x.kind = 1 → litB x.lit = true) ∧ ∀ i, i < x.kids.length → okN m (fnP x.kind i) (kp x i))) := hide Iff.rfl
  obtain ⟨OK, hOK⟩ : ∃ OK, okN (m + 1) f x = OK := ⟨_, rfl⟩
  rw [hOK] at HOK ⊢
  generalize litB x.lit = LB at *
  generalize hQ : (fun (f : Bool) (i : Nat) => okN m f (kp x i)) = Q at *
  have HQ : Hid (∀ f i, okN m f (kp x i) = Q f i) := hide (fun f i => by rw [← hQ])
  simp only [HQ.out] at HOK HKS
  clear IH hx hA hK hs hm' hOK hQ HQ
  generalize x.kids.length = L at *
  generalize x.kind = K0 at *
  generalize x.op = O0 at *
  generalize x.name = S0 at *
  generalize x.pos = P0 at *
  generalize x.lit.shape.length = L10 at *
  generalize x.lit.cells.length = L20 at *
  subst hkind
  rw [show arK 24 = 1 from rfl] at HOK
  have HK42 : Hid (∀ W, Calls Tryd.prog 42 #[.int .i64 24] W fun e w' => e = .returned (.int .i64 1) ∧ w' = W) := hide fun W => kids42 24 W
  have hb0 := one_alloc w (.cells #[.int .i64 24, .int .i64 O0, .string S0, .slice a1 L10 c1, .slice a2 L20 c2, .slice ak L ck, .int .i64 P0] 34)
  have q0 := cell_new0 w #[.int .i64 24, .int .i64 O0, .string S0, .slice a1 L10 c1, .slice a2 L20 c2, .slice ak L ck, .int .i64 P0] 34 0 _ rfl
  have q3 := cell_new0 w #[.int .i64 24, .int .i64 O0, .string S0, .slice a1 L10 c1, .slice a2 L20 c2, .slice ak L ck, .int .i64 P0] 34 3 _ rfl
  have q4 := cell_new0 w #[.int .i64 24, .int .i64 O0, .string S0, .slice a1 L10 c1, .slice a2 L20 c2, .slice ak L ck, .int .i64 P0] 34 4 _ rfl
  have q5 := cell_new0 w #[.int .i64 24, .int .i64 O0, .string S0, .slice a1 L10 c1, .slice a2 L20 c2, .slice ak L ck, .int .i64 P0] 34 5 _ rfl
  have HQ := hide (And.intro hb0 (And.intro q5 (show w.heap.size < (w.alloc (.cells #[.int .i64 24, .int .i64 O0, .string S0, .slice a1 L10 c1, .slice a2 L20 c2, .slice ak L ck, .int .i64 P0] 34)).heap.size by simp)))
  by_cases hL : L = 1
  · subst hL
    cases f with
    | false =>
      have HN : Hid (¬ OK) := hide fun h => absurd (HOK.out.1 h).2.1 (by decide)
      clear HOK HKS HLIT
      go_enter Tryd.func28, Tryd.ntmps28
      go_upto_region 1 with fail
      go_quiet ((go_at_call 42; exact Calls.quiet_of_same (HK42.out _)))
      go_wp2
      go_ret
      exact ⟨⟨false, rfl, ⟨fun h => absurd h (by decide), fun h => absurd h HN.out⟩⟩, drewN_below HQ.out.1 _⟩
    | true =>
      clear HLIT
      go_enter Tryd.func28, Tryd.ntmps28
      go_upto_region 1 with fail
      go_quiet ((go_at_call 42; exact Calls.quiet_of_same (HK42.out _)))
      go_wp2
      go_loopg [5] 1 (fun g i wr => ∃ (j : Nat), g + j = 1 ∧ i = .int .i64 (j : Int) ∧ (∀ i, i < j → Q (fnP 24 i) i) ∧ Below w.heap.size w wr ∧ wr.cell? ⟨w.heap.size, 5, none⟩ = some (.slice ak 1 ck) ∧ wr.cell? ⟨w.heap.size, 0, none⟩ = some (.int .i64 24) ∧ w.heap.size < wr.heap.size)
      case atStart => exact ⟨0, rfl, rfl, fun i hi => absurd hi (by omega), drewN_below HQ.out.1 _, HQ.out.2.1, q0, HQ.out.2.2⟩
      case round =>
        clear HQ q0 q3 q4 q5
        obtain ⟨j, hj, rfl, hall, hnx, hcl, hcl0, hsz2⟩ := hrel
        have HSZ := hide hsz2
        have HALL := hide hall
        clear hsz2 hall
        by_cases hlt : j < 1
        · obtain ⟨b, off, K, O, S, A1, L1, C1, A2, L2, C2, AK, LK, CK, P, rfl, hw⟩ := HKS.out j hlt
          obtain ⟨⟨g0, g1, g2, g3, g4, g5, g6⟩, C⟩ := hw _ hnx
          have HC := hide (show Calls Tryd.prog 28 #[.agg #[.int .i64 K, .int .i64 O, .string S, .slice A1 L1 C1, .slice A2 L2 C2, .slice AK LK CK, .int .i64 P], .bool true] wr fun e w' => (∃ b : Bool, e = .returned (.bool b) ∧ (b = true ↔ Q (fnP 24 j) j)) ∧ Below wr.heap.size wr w' from by
            rw [show fnP 24 j = true by simp [fnP]]
            exact C true)
          clear C hw HKS
          go_wp2_with fail
          refine HC.out.mono ?_
          rintro e w1 ⟨⟨bk, rfl, hbk⟩, hb1⟩
          clear HC g0 g1 g2 g3 g4 g5 g6
          have HBK := hide hbk
          clear hbk
          cases bk with
          | false =>
            have HN : Hid (¬ OK) := hide fun h => absurd (HBK.out.2 ((HOK.out.1 h).2.2.2 j hlt)) (by decide)
            clear HOK HBK HALL
            go_wp2
            go_ret
            exact ⟨⟨false, rfl, ⟨fun h => absurd h (by decide), fun h => absurd h HN.out⟩⟩, hnx.trans (hb1.mono hnx.size)⟩
          | true =>
            have HQJ := hide (HBK.out.1 rfl)
            clear HBK
            go_wp2
            go_roundg (1 - (j + 1))
            case rel =>
              refine ⟨j + 1, by omega, by go_num, fun i hi => ?_, hnx.trans (hb1.mono hnx.size), (hb1.cell (p := ⟨w.heap.size, 5, none⟩) HSZ.out).trans hcl, (hb1.cell (p := ⟨w.heap.size, 0, none⟩) HSZ.out).trans hcl0, Nat.lt_of_lt_of_le HSZ.out hb1.size⟩
              by_cases hij : i = j
              · subst hij; exact HQJ.out
              · exact HALL.out i (by omega)
            case measure => omega
        · have hje : j = 1 := by omega
          subst hje
          have HY : Hid OK := hide (HOK.out.2 ⟨by decide, by decide, fun h => absurd h (by decide), HALL.out⟩)
          clear HKS HOK HALL
          go_wp2
          go_ret
          exact ⟨⟨true, rfl, ⟨fun _ => HY.out, fun _ => rfl⟩⟩, hnx⟩
  · have HN : Hid (¬ OK) := hide fun h => hL (by have := (HOK.out.1 h).1; omega)
    have hLi : ((1 : Int) != (L : Int)) = true := bne_iff_ne.2 (by omega)
    have hLj : ((1 : Int) == (L : Int)) = false := beq_eq_false_iff_ne.2 (by omega)
    have hLn : ¬ (1 : Int) = (L : Int) := by omega
    clear HOK HKS HLIT hL
    go_enter Tryd.func28, Tryd.ntmps28
    go_upto_region 1 with fail
    go_quiet ((go_at_call 42; exact Calls.quiet_of_same (HK42.out _)))
    go_wp2
    go_ret
    exact ⟨⟨false, rfl, ⟨fun h => absurd h (by decide), fun h => absurd h HN.out⟩⟩, drewN_below HQ.out.1 _⟩
set_option maxHeartbeats 4000000 in
/-- kind 25 -/
theorem right28_25 {m : Nat} (IH : RightC m) : ∀ n x lo va w (f : Bool), x.kind = 25 → NdIn (m + 1) n lo w x va → Calls Tryd.prog 28 #[va, .bool f] w fun e w' => (∃ b : Bool, e = .returned (.bool b) ∧ (b = true ↔ okN (m + 1) f x)) ∧ Below w.heap.size w w' := by
  intro n x lo va w f hkind hx
  obtain ⟨m', hm', a1, c1, a2, c2, ak, ck, rfl, hA, hl, hs, hK⟩ := hx.letters
  obtain rfl : m = m' := by omega
  have HKS := hide (kid_right IH hK)
  have HLIT := hide (fun W (hW : Below w.heap.size w W) => rlit18 x.lit _ W (hA.next hW))
  have HOK : Hid (okN (m + 1) f x ↔ ((x.kids.length : Int) = arK x.kind ∧ f = decide (21 ≤ x.kind) ∧ (x.kind = 1 → litB x.lit = true) ∧ ∀ i, i < x.kids.length → okN m (fnP x.kind i) (kp x i))) := hide Iff.rfl
  obtain ⟨OK, hOK⟩ : ∃ OK, okN (m + 1) f x = OK := ⟨_, rfl⟩
  rw [hOK] at HOK ⊢
  generalize litB x.lit = LB at *
  generalize hQ : (fun (f : Bool) (i : Nat) => okN m f (kp x i)) = Q at *
  have HQ : Hid (∀ f i, okN m f (kp x i) = Q f i) := hide (fun f i => by rw [← hQ])
  simp only [HQ.out] at HOK HKS
  clear IH hx hA hK hs hm' hOK hQ HQ
  generalize x.kids.length = L at *
  generalize x.kind = K0 at *
  generalize x.op = O0 at *
  generalize x.name = S0 at *
  generalize x.pos = P0 at *
  generalize x.lit.shape.length = L10 at *
  generalize x.lit.cells.length = L20 at *
  subst hkind
  rw [show arK 25 = 1 from rfl] at HOK
  have HK42 : Hid (∀ W, Calls Tryd.prog 42 #[.int .i64 25] W fun e w' => e = .returned (.int .i64 1) ∧ w' = W) := hide fun W => kids42 25 W
  have hb0 := one_alloc w (.cells #[.int .i64 25, .int .i64 O0, .string S0, .slice a1 L10 c1, .slice a2 L20 c2, .slice ak L ck, .int .i64 P0] 34)
  have q0 := cell_new0 w #[.int .i64 25, .int .i64 O0, .string S0, .slice a1 L10 c1, .slice a2 L20 c2, .slice ak L ck, .int .i64 P0] 34 0 _ rfl
  have q3 := cell_new0 w #[.int .i64 25, .int .i64 O0, .string S0, .slice a1 L10 c1, .slice a2 L20 c2, .slice ak L ck, .int .i64 P0] 34 3 _ rfl
  have q4 := cell_new0 w #[.int .i64 25, .int .i64 O0, .string S0, .slice a1 L10 c1, .slice a2 L20 c2, .slice ak L ck, .int .i64 P0] 34 4 _ rfl
  have q5 := cell_new0 w #[.int .i64 25, .int .i64 O0, .string S0, .slice a1 L10 c1, .slice a2 L20 c2, .slice ak L ck, .int .i64 P0] 34 5 _ rfl
  have HQ := hide (And.intro hb0 (And.intro q5 (show w.heap.size < (w.alloc (.cells #[.int .i64 25, .int .i64 O0, .string S0, .slice a1 L10 c1, .slice a2 L20 c2, .slice ak L ck, .int .i64 P0] 34)).heap.size by simp)))
  by_cases hL : L = 1
  · subst hL
    cases f with
    | false =>
      have HN : Hid (¬ OK) := hide fun h => absurd (HOK.out.1 h).2.1 (by decide)
      clear HOK HKS HLIT
      go_enter Tryd.func28, Tryd.ntmps28
      go_upto_region 1 with fail
      go_quiet ((go_at_call 42; exact Calls.quiet_of_same (HK42.out _)))
      go_wp2
      go_ret
      exact ⟨⟨false, rfl, ⟨fun h => absurd h (by decide), fun h => absurd h HN.out⟩⟩, drewN_below HQ.out.1 _⟩
    | true =>
      clear HLIT
      go_enter Tryd.func28, Tryd.ntmps28
      go_upto_region 1 with fail
      go_quiet ((go_at_call 42; exact Calls.quiet_of_same (HK42.out _)))
      go_wp2
      go_loopg [5] 1 (fun g i wr => ∃ (j : Nat), g + j = 1 ∧ i = .int .i64 (j : Int) ∧ (∀ i, i < j → Q (fnP 25 i) i) ∧ Below w.heap.size w wr ∧ wr.cell? ⟨w.heap.size, 5, none⟩ = some (.slice ak 1 ck) ∧ wr.cell? ⟨w.heap.size, 0, none⟩ = some (.int .i64 25) ∧ w.heap.size < wr.heap.size)
      case atStart => exact ⟨0, rfl, rfl, fun i hi => absurd hi (by omega), drewN_below HQ.out.1 _, HQ.out.2.1, q0, HQ.out.2.2⟩
      case round =>
        clear HQ q0 q3 q4 q5
        obtain ⟨j, hj, rfl, hall, hnx, hcl, hcl0, hsz2⟩ := hrel
        have HSZ := hide hsz2
        have HALL := hide hall
        clear hsz2 hall
        by_cases hlt : j < 1
        · obtain ⟨b, off, K, O, S, A1, L1, C1, A2, L2, C2, AK, LK, CK, P, rfl, hw⟩ := HKS.out j hlt
          obtain ⟨⟨g0, g1, g2, g3, g4, g5, g6⟩, C⟩ := hw _ hnx
          have HC := hide (show Calls Tryd.prog 28 #[.agg #[.int .i64 K, .int .i64 O, .string S, .slice A1 L1 C1, .slice A2 L2 C2, .slice AK LK CK, .int .i64 P], .bool true] wr fun e w' => (∃ b : Bool, e = .returned (.bool b) ∧ (b = true ↔ Q (fnP 25 j) j)) ∧ Below wr.heap.size wr w' from by
            rw [show fnP 25 j = true by simp [fnP]]
            exact C true)
          clear C hw HKS
          go_wp2_with fail
          refine HC.out.mono ?_
          rintro e w1 ⟨⟨bk, rfl, hbk⟩, hb1⟩
          clear HC g0 g1 g2 g3 g4 g5 g6
          have HBK := hide hbk
          clear hbk
          cases bk with
          | false =>
            have HN : Hid (¬ OK) := hide fun h => absurd (HBK.out.2 ((HOK.out.1 h).2.2.2 j hlt)) (by decide)
            clear HOK HBK HALL
            go_wp2
            go_ret
            exact ⟨⟨false, rfl, ⟨fun h => absurd h (by decide), fun h => absurd h HN.out⟩⟩, hnx.trans (hb1.mono hnx.size)⟩
          | true =>
            have HQJ := hide (HBK.out.1 rfl)
            clear HBK
            go_wp2
            go_roundg (1 - (j + 1))
            case rel =>
              refine ⟨j + 1, by omega, by go_num, fun i hi => ?_, hnx.trans (hb1.mono hnx.size), (hb1.cell (p := ⟨w.heap.size, 5, none⟩) HSZ.out).trans hcl, (hb1.cell (p := ⟨w.heap.size, 0, none⟩) HSZ.out).trans hcl0, Nat.lt_of_lt_of_le HSZ.out hb1.size⟩
              by_cases hij : i = j
              · subst hij; exact HQJ.out
              · exact HALL.out i (by omega)
            case measure => omega
        · have hje : j = 1 := by omega
          subst hje
          have HY : Hid OK := hide (HOK.out.2 ⟨by decide, by decide, fun h => absurd h (by decide), HALL.out⟩)
          clear HKS HOK HALL
          go_wp2
          go_ret
          exact ⟨⟨true, rfl, ⟨fun _ => HY.out, fun _ => rfl⟩⟩, hnx⟩
  · have HN : Hid (¬ OK) := hide fun h => hL (by have := (HOK.out.1 h).1; omega)
    have hLi : ((1 : Int) != (L : Int)) = true := bne_iff_ne.2 (by omega)
    have hLj : ((1 : Int) == (L : Int)) = false := beq_eq_false_iff_ne.2 (by omega)
    have hLn : ¬ (1 : Int) = (L : Int) := by omega
    clear HOK HKS HLIT hL
    go_enter Tryd.func28, Tryd.ntmps28
    go_upto_region 1 with fail
    go_quiet ((go_at_call 42; exact Calls.quiet_of_same (HK42.out _)))
    go_wp2
    go_ret
    exact ⟨⟨false, rfl, ⟨fun h => absurd h (by decide), fun h => absurd h HN.out⟩⟩, drewN_below HQ.out.1 _⟩
set_option maxHeartbeats 4000000 in
/-- kind 26 -/
theorem right28_26 {m : Nat} (IH : RightC m) : ∀ n x lo va w (f : Bool), x.kind = 26 → NdIn (m + 1) n lo w x va → Calls Tryd.prog 28 #[va, .bool f] w fun e w' => (∃ b : Bool, e = .returned (.bool b) ∧ (b = true ↔ okN (m + 1) f x)) ∧ Below w.heap.size w w' := by
  intro n x lo va w f hkind hx
  obtain ⟨m', hm', a1, c1, a2, c2, ak, ck, rfl, hA, hl, hs, hK⟩ := hx.letters
  obtain rfl : m = m' := by omega
  have HKS := hide (kid_right IH hK)
  have HLIT := hide (fun W (hW : Below w.heap.size w W) => rlit18 x.lit _ W (hA.next hW))
  have HOK : Hid (okN (m + 1) f x ↔ ((x.kids.length : Int) = arK x.kind ∧ f = decide (21 ≤ x.kind) ∧ (x.kind = 1 → litB x.lit = true) ∧ ∀ i, i < x.kids.length → okN m (fnP x.kind i) (kp x i))) := hide Iff.rfl
  obtain ⟨OK, hOK⟩ : ∃ OK, okN (m + 1) f x = OK := ⟨_, rfl⟩
  rw [hOK] at HOK ⊢
  generalize litB x.lit = LB at *
  generalize hQ : (fun (f : Bool) (i : Nat) => okN m f (kp x i)) = Q at *
  have HQ : Hid (∀ f i, okN m f (kp x i) = Q f i) := hide (fun f i => by rw [← hQ])
  simp only [HQ.out] at HOK HKS
  clear IH hx hA hK hs hm' hOK hQ HQ
  generalize x.kids.length = L at *
  generalize x.kind = K0 at *
  generalize x.op = O0 at *
  generalize x.name = S0 at *
  generalize x.pos = P0 at *
  generalize x.lit.shape.length = L10 at *
  generalize x.lit.cells.length = L20 at *
  subst hkind
  rw [show arK 26 = 1 from rfl] at HOK
  have HK42 : Hid (∀ W, Calls Tryd.prog 42 #[.int .i64 26] W fun e w' => e = .returned (.int .i64 1) ∧ w' = W) := hide fun W => kids42 26 W
  have hb0 := one_alloc w (.cells #[.int .i64 26, .int .i64 O0, .string S0, .slice a1 L10 c1, .slice a2 L20 c2, .slice ak L ck, .int .i64 P0] 34)
  have q0 := cell_new0 w #[.int .i64 26, .int .i64 O0, .string S0, .slice a1 L10 c1, .slice a2 L20 c2, .slice ak L ck, .int .i64 P0] 34 0 _ rfl
  have q3 := cell_new0 w #[.int .i64 26, .int .i64 O0, .string S0, .slice a1 L10 c1, .slice a2 L20 c2, .slice ak L ck, .int .i64 P0] 34 3 _ rfl
  have q4 := cell_new0 w #[.int .i64 26, .int .i64 O0, .string S0, .slice a1 L10 c1, .slice a2 L20 c2, .slice ak L ck, .int .i64 P0] 34 4 _ rfl
  have q5 := cell_new0 w #[.int .i64 26, .int .i64 O0, .string S0, .slice a1 L10 c1, .slice a2 L20 c2, .slice ak L ck, .int .i64 P0] 34 5 _ rfl
  have HQ := hide (And.intro hb0 (And.intro q5 (show w.heap.size < (w.alloc (.cells #[.int .i64 26, .int .i64 O0, .string S0, .slice a1 L10 c1, .slice a2 L20 c2, .slice ak L ck, .int .i64 P0] 34)).heap.size by simp)))
  by_cases hL : L = 1
  · subst hL
    cases f with
    | false =>
      have HN : Hid (¬ OK) := hide fun h => absurd (HOK.out.1 h).2.1 (by decide)
      clear HOK HKS HLIT
      go_enter Tryd.func28, Tryd.ntmps28
      go_upto_region 1 with fail
      go_quiet ((go_at_call 42; exact Calls.quiet_of_same (HK42.out _)))
      go_wp2
      go_ret
      exact ⟨⟨false, rfl, ⟨fun h => absurd h (by decide), fun h => absurd h HN.out⟩⟩, drewN_below HQ.out.1 _⟩
    | true =>
      clear HLIT
      go_enter Tryd.func28, Tryd.ntmps28
      go_upto_region 1 with fail
      go_quiet ((go_at_call 42; exact Calls.quiet_of_same (HK42.out _)))
      go_wp2
      go_loopg [5] 1 (fun g i wr => ∃ (j : Nat), g + j = 1 ∧ i = .int .i64 (j : Int) ∧ (∀ i, i < j → Q (fnP 26 i) i) ∧ Below w.heap.size w wr ∧ wr.cell? ⟨w.heap.size, 5, none⟩ = some (.slice ak 1 ck) ∧ wr.cell? ⟨w.heap.size, 0, none⟩ = some (.int .i64 26) ∧ w.heap.size < wr.heap.size)
      case atStart => exact ⟨0, rfl, rfl, fun i hi => absurd hi (by omega), drewN_below HQ.out.1 _, HQ.out.2.1, q0, HQ.out.2.2⟩
      case round =>
        clear HQ q0 q3 q4 q5
        obtain ⟨j, hj, rfl, hall, hnx, hcl, hcl0, hsz2⟩ := hrel
        have HSZ := hide hsz2
        have HALL := hide hall
        clear hsz2 hall
        by_cases hlt : j < 1
        · obtain ⟨b, off, K, O, S, A1, L1, C1, A2, L2, C2, AK, LK, CK, P, rfl, hw⟩ := HKS.out j hlt
          obtain ⟨⟨g0, g1, g2, g3, g4, g5, g6⟩, C⟩ := hw _ hnx
          have HC := hide (show Calls Tryd.prog 28 #[.agg #[.int .i64 K, .int .i64 O, .string S, .slice A1 L1 C1, .slice A2 L2 C2, .slice AK LK CK, .int .i64 P], .bool true] wr fun e w' => (∃ b : Bool, e = .returned (.bool b) ∧ (b = true ↔ Q (fnP 26 j) j)) ∧ Below wr.heap.size wr w' from by
            rw [show fnP 26 j = true by simp [fnP]]
            exact C true)
          clear C hw HKS
          go_wp2_with fail
          refine HC.out.mono ?_
          rintro e w1 ⟨⟨bk, rfl, hbk⟩, hb1⟩
          clear HC g0 g1 g2 g3 g4 g5 g6
          have HBK := hide hbk
          clear hbk
          cases bk with
          | false =>
            have HN : Hid (¬ OK) := hide fun h => absurd (HBK.out.2 ((HOK.out.1 h).2.2.2 j hlt)) (by decide)
            clear HOK HBK HALL
            go_wp2
            go_ret
            exact ⟨⟨false, rfl, ⟨fun h => absurd h (by decide), fun h => absurd h HN.out⟩⟩, hnx.trans (hb1.mono hnx.size)⟩
          | true =>
            have HQJ := hide (HBK.out.1 rfl)
            clear HBK
            go_wp2
            go_roundg (1 - (j + 1))
            case rel =>
              refine ⟨j + 1, by omega, by go_num, fun i hi => ?_, hnx.trans (hb1.mono hnx.size), (hb1.cell (p := ⟨w.heap.size, 5, none⟩) HSZ.out).trans hcl, (hb1.cell (p := ⟨w.heap.size, 0, none⟩) HSZ.out).trans hcl0, Nat.lt_of_lt_of_le HSZ.out hb1.size⟩
              by_cases hij : i = j
              · subst hij; exact HQJ.out
              · exact HALL.out i (by omega)
            case measure => omega
        · have hje : j = 1 := by omega
          subst hje
          have HY : Hid OK := hide (HOK.out.2 ⟨by decide, by decide, fun h => absurd h (by decide), HALL.out⟩)
          clear HKS HOK HALL
          go_wp2
          go_ret
          exact ⟨⟨true, rfl, ⟨fun _ => HY.out, fun _ => rfl⟩⟩, hnx⟩
  · have HN : Hid (¬ OK) := hide fun h => hL (by have := (HOK.out.1 h).1; omega)
    have hLi : ((1 : Int) != (L : Int)) = true := bne_iff_ne.2 (by omega)
    have hLj : ((1 : Int) == (L : Int)) = false := beq_eq_false_iff_ne.2 (by omega)
    have hLn : ¬ (1 : Int) = (L : Int) := by omega
    clear HOK HKS HLIT hL
    go_enter Tryd.func28, Tryd.ntmps28
    go_upto_region 1 with fail
    go_quiet ((go_at_call 42; exact Calls.quiet_of_same (HK42.out _)))
    go_wp2
    go_ret
    exact ⟨⟨false, rfl, ⟨fun h => absurd h (by decide), fun h => absurd h HN.out⟩⟩, drewN_below HQ.out.1 _⟩
set_option maxHeartbeats 4000000 in
/-- kind 5 -/
theorem right28_5 {m : Nat} (IH : RightC m) : ∀ n x lo va w (f : Bool), x.kind = 5 → NdIn (m + 1) n lo w x va → Calls Tryd.prog 28 #[va, .bool f] w fun e w' => (∃ b : Bool, e = .returned (.bool b) ∧ (b = true ↔ okN (m + 1) f x)) ∧ Below w.heap.size w w' := by
  intro n x lo va w f hkind hx
  obtain ⟨m', hm', a1, c1, a2, c2, ak, ck, rfl, hA, hl, hs, hK⟩ := hx.letters
  obtain rfl : m = m' := by omega
  have HKS := hide (kid_right IH hK)
  have HLIT := hide (fun W (hW : Below w.heap.size w W) => rlit18 x.lit _ W (hA.next hW))
  have HOK : Hid (okN (m + 1) f x ↔ ((x.kids.length : Int) = arK x.kind ∧ f = decide (21 ≤ x.kind) ∧ (x.kind = 1 → litB x.lit = true) ∧ ∀ i, i < x.kids.length → okN m (fnP x.kind i) (kp x i))) := hide Iff.rfl
  obtain ⟨OK, hOK⟩ : ∃ OK, okN (m + 1) f x = OK := ⟨_, rfl⟩
  rw [hOK] at HOK ⊢
  generalize litB x.lit = LB at *
  generalize hQ : (fun (f : Bool) (i : Nat) => okN m f (kp x i)) = Q at *
  have HQ : Hid (∀ f i, okN m f (kp x i) = Q f i) := hide (fun f i => by rw [← hQ])
  simp only [HQ.out] at HOK HKS
  clear IH hx hA hK hs hm' hOK hQ HQ
  generalize x.kids.length = L at *
  generalize x.kind = K0 at *
  generalize x.op = O0 at *
  generalize x.name = S0 at *
  generalize x.pos = P0 at *
  generalize x.lit.shape.length = L10 at *
  generalize x.lit.cells.length = L20 at *
  subst hkind
  rw [show arK 5 = 2 from rfl] at HOK
  have HK42 : Hid (∀ W, Calls Tryd.prog 42 #[.int .i64 5] W fun e w' => e = .returned (.int .i64 2) ∧ w' = W) := hide fun W => kids42 5 W
  have hb0 := one_alloc w (.cells #[.int .i64 5, .int .i64 O0, .string S0, .slice a1 L10 c1, .slice a2 L20 c2, .slice ak L ck, .int .i64 P0] 34)
  have q0 := cell_new0 w #[.int .i64 5, .int .i64 O0, .string S0, .slice a1 L10 c1, .slice a2 L20 c2, .slice ak L ck, .int .i64 P0] 34 0 _ rfl
  have q3 := cell_new0 w #[.int .i64 5, .int .i64 O0, .string S0, .slice a1 L10 c1, .slice a2 L20 c2, .slice ak L ck, .int .i64 P0] 34 3 _ rfl
  have q4 := cell_new0 w #[.int .i64 5, .int .i64 O0, .string S0, .slice a1 L10 c1, .slice a2 L20 c2, .slice ak L ck, .int .i64 P0] 34 4 _ rfl
  have q5 := cell_new0 w #[.int .i64 5, .int .i64 O0, .string S0, .slice a1 L10 c1, .slice a2 L20 c2, .slice ak L ck, .int .i64 P0] 34 5 _ rfl
  have HQ := hide (And.intro hb0 (And.intro q5 (show w.heap.size < (w.alloc (.cells #[.int .i64 5, .int .i64 O0, .string S0, .slice a1 L10 c1, .slice a2 L20 c2, .slice ak L ck, .int .i64 P0] 34)).heap.size by simp)))
  by_cases hL : L = 2
  · subst hL
    cases f with
    | true =>
      have HN : Hid (¬ OK) := hide fun h => absurd (HOK.out.1 h).2.1 (by decide)
      clear HOK HKS HLIT
      go_enter Tryd.func28, Tryd.ntmps28
      go_upto_region 1 with fail
      go_quiet ((go_at_call 42; exact Calls.quiet_of_same (HK42.out _)))
      go_wp2
      go_ret
      exact ⟨⟨false, rfl, ⟨fun h => absurd h (by decide), fun h => absurd h HN.out⟩⟩, drewN_below HQ.out.1 _⟩
    | false =>
      clear HLIT
      go_enter Tryd.func28, Tryd.ntmps28
      go_upto_region 1 with fail
      go_quiet ((go_at_call 42; exact Calls.quiet_of_same (HK42.out _)))
      go_wp2
      go_loopg [5] 2 (fun g i wr => ∃ (j : Nat), g + j = 2 ∧ i = .int .i64 (j : Int) ∧ (∀ i, i < j → Q (fnP 5 i) i) ∧ Below w.heap.size w wr ∧ wr.cell? ⟨w.heap.size, 5, none⟩ = some (.slice ak 2 ck) ∧ wr.cell? ⟨w.heap.size, 0, none⟩ = some (.int .i64 5) ∧ w.heap.size < wr.heap.size)
      case atStart => exact ⟨0, rfl, rfl, fun i hi => absurd hi (by omega), drewN_below HQ.out.1 _, HQ.out.2.1, q0, HQ.out.2.2⟩
      case round =>
        clear HQ q0 q3 q4 q5
        obtain ⟨j, hj, rfl, hall, hnx, hcl, hcl0, hsz2⟩ := hrel
        have HSZ := hide hsz2
        have HALL := hide hall
        clear hsz2 hall
        by_cases hlt : j < 2
        · obtain ⟨b, off, K, O, S, A1, L1, C1, A2, L2, C2, AK, LK, CK, P, rfl, hw⟩ := HKS.out j hlt
          obtain ⟨⟨g0, g1, g2, g3, g4, g5, g6⟩, C⟩ := hw _ hnx
          by_cases hj0 : j = 0
          · have hji : ((j : Int) == 0) = true := beq_iff_eq.2 (by omega)
            have HC := hide (show Calls Tryd.prog 28 #[.agg #[.int .i64 K, .int .i64 O, .string S, .slice A1 L1 C1, .slice A2 L2 C2, .slice AK LK CK, .int .i64 P], .bool true] wr fun e w' => (∃ b : Bool, e = .returned (.bool b) ∧ (b = true ↔ Q (fnP 5 j) j)) ∧ Below wr.heap.size wr w' from by
              rw [show fnP 5 j = true by simp [fnP, hj0]]
              exact C true)
            clear C hw HKS hj0
            go_wp2_with fail
            refine HC.out.mono ?_
            rintro e w1 ⟨⟨bk, rfl, hbk⟩, hb1⟩
            clear HC g0 g1 g2 g3 g4 g5 g6
            have HBK := hide hbk
            clear hbk
            cases bk with
            | false =>
              have HN : Hid (¬ OK) := hide fun h => absurd (HBK.out.2 ((HOK.out.1 h).2.2.2 j hlt)) (by decide)
              clear HOK HBK HALL
              go_wp2
              go_ret
              exact ⟨⟨false, rfl, ⟨fun h => absurd h (by decide), fun h => absurd h HN.out⟩⟩, hnx.trans (hb1.mono hnx.size)⟩
            | true =>
              have HQJ := hide (HBK.out.1 rfl)
              clear HBK
              go_wp2
              go_roundg (2 - (j + 1))
              case rel =>
                refine ⟨j + 1, by omega, by go_num, fun i hi => ?_, hnx.trans (hb1.mono hnx.size), (hb1.cell (p := ⟨w.heap.size, 5, none⟩) HSZ.out).trans hcl, (hb1.cell (p := ⟨w.heap.size, 0, none⟩) HSZ.out).trans hcl0, Nat.lt_of_lt_of_le HSZ.out hb1.size⟩
                by_cases hij : i = j
                · subst hij; exact HQJ.out
                · exact HALL.out i (by omega)
              case measure => omega
          · have hji : ((j : Int) == 0) = false := beq_eq_false_iff_ne.2 (by omega)
            have HC := hide (show Calls Tryd.prog 28 #[.agg #[.int .i64 K, .int .i64 O, .string S, .slice A1 L1 C1, .slice A2 L2 C2, .slice AK LK CK, .int .i64 P], .bool false] wr fun e w' => (∃ b : Bool, e = .returned (.bool b) ∧ (b = true ↔ Q (fnP 5 j) j)) ∧ Below wr.heap.size wr w' from by
              rw [show fnP 5 j = false by simp [fnP, hj0]]
              exact C false)
            clear C hw HKS hj0
            go_wp2_with fail
            refine HC.out.mono ?_
            rintro e w1 ⟨⟨bk, rfl, hbk⟩, hb1⟩
            clear HC g0 g1 g2 g3 g4 g5 g6
            have HBK := hide hbk
            clear hbk
            cases bk with
            | false =>
              have HN : Hid (¬ OK) := hide fun h => absurd (HBK.out.2 ((HOK.out.1 h).2.2.2 j hlt)) (by decide)
              clear HOK HBK HALL
              go_wp2
              go_ret
              exact ⟨⟨false, rfl, ⟨fun h => absurd h (by decide), fun h => absurd h HN.out⟩⟩, hnx.trans (hb1.mono hnx.size)⟩
            | true =>
              have HQJ := hide (HBK.out.1 rfl)
              clear HBK
              go_wp2
              go_roundg (2 - (j + 1))
              case rel =>
                refine ⟨j + 1, by omega, by go_num, fun i hi => ?_, hnx.trans (hb1.mono hnx.size), (hb1.cell (p := ⟨w.heap.size, 5, none⟩) HSZ.out).trans hcl, (hb1.cell (p := ⟨w.heap.size, 0, none⟩) HSZ.out).trans hcl0, Nat.lt_of_lt_of_le HSZ.out hb1.size⟩
                by_cases hij : i = j
                · subst hij; exact HQJ.out
                · exact HALL.out i (by omega)
              case measure => omega
        · have hje : j = 2 := by omega
          subst hje
          have HY : Hid OK := hide (HOK.out.2 ⟨by decide, by decide, fun h => absurd h (by decide), HALL.out⟩)
          clear HKS HOK HALL
          go_wp2
          go_ret
          exact ⟨⟨true, rfl, ⟨fun _ => HY.out, fun _ => rfl⟩⟩, hnx⟩
  · have HN : Hid (¬ OK) := hide fun h => hL (by have := (HOK.out.1 h).1; omega)
    have hLi : ((2 : Int) != (L : Int)) = true := bne_iff_ne.2 (by omega)
    have hLj : ((2 : Int) == (L : Int)) = false := beq_eq_false_iff_ne.2 (by omega)
    have hLn : ¬ (2 : Int) = (L : Int) := by omega
    clear HOK HKS HLIT hL
    go_enter Tryd.func28, Tryd.ntmps28
    go_upto_region 1 with fail
    go_quiet ((go_at_call 42; exact Calls.quiet_of_same (HK42.out _)))
    go_wp2
    go_ret
    exact ⟨⟨false, rfl, ⟨fun h => absurd h (by decide), fun h => absurd h HN.out⟩⟩, drewN_below HQ.out.1 _⟩
set_option maxHeartbeats 4000000 in
/-- kind 8 -/
theorem right28_8 {m : Nat} (IH : RightC m) : ∀ n x lo va w (f : Bool), x.kind = 8 → NdIn (m + 1) n lo w x va → Calls Tryd.prog 28 #[va, .bool f] w fun e w' => (∃ b : Bool, e = .returned (.bool b) ∧ (b = true ↔ okN (m + 1) f x)) ∧ Below w.heap.size w w' := by
  intro n x lo va w f hkind hx
  obtain ⟨m', hm', a1, c1, a2, c2, ak, ck, rfl, hA, hl, hs, hK⟩ := hx.letters
  obtain rfl : m = m' := by omega
  have HKS := hide (kid_right IH hK)
  have HLIT := hide (fun W (hW : Below w.heap.size w W) => rlit18 x.lit _ W (hA.next hW))
  have HOK : Hid (okN (m + 1) f x ↔ ((x.kids.length : Int) = arK x.kind ∧ f = decide (21 ≤ x.kind) ∧ (x.kind = 1 → litB x.lit = true) ∧ ∀ i, i < x.kids.length → okN m (fnP x.kind i) (kp x i))) := hide Iff.rfl
  obtain ⟨OK, hOK⟩ : ∃ OK, okN (m + 1) f x = OK := ⟨_, rfl⟩
  rw [hOK] at HOK ⊢
  generalize litB x.lit = LB at *
  generalize hQ : (fun (f : Bool) (i : Nat) => okN m f (kp x i)) = Q at *
  have HQ : Hid (∀ f i, okN m f (kp x i) = Q f i) := hide (fun f i => by rw [← hQ])
  simp only [HQ.out] at HOK HKS
  clear IH hx hA hK hs hm' hOK hQ HQ
  generalize x.kids.length = L at *
  generalize x.kind = K0 at *
  generalize x.op = O0 at *
  generalize x.name = S0 at *
  generalize x.pos = P0 at *
  generalize x.lit.shape.length = L10 at *
  generalize x.lit.cells.length = L20 at *
  subst hkind
  rw [show arK 8 = 2 from rfl] at HOK
  have HK42 : Hid (∀ W, Calls Tryd.prog 42 #[.int .i64 8] W fun e w' => e = .returned (.int .i64 2) ∧ w' = W) := hide fun W => kids42 8 W
  have hb0 := one_alloc w (.cells #[.int .i64 8, .int .i64 O0, .string S0, .slice a1 L10 c1, .slice a2 L20 c2, .slice ak L ck, .int .i64 P0] 34)
  have q0 := cell_new0 w #[.int .i64 8, .int .i64 O0, .string S0, .slice a1 L10 c1, .slice a2 L20 c2, .slice ak L ck, .int .i64 P0] 34 0 _ rfl
  have q3 := cell_new0 w #[.int .i64 8, .int .i64 O0, .string S0, .slice a1 L10 c1, .slice a2 L20 c2, .slice ak L ck, .int .i64 P0] 34 3 _ rfl
  have q4 := cell_new0 w #[.int .i64 8, .int .i64 O0, .string S0, .slice a1 L10 c1, .slice a2 L20 c2, .slice ak L ck, .int .i64 P0] 34 4 _ rfl
  have q5 := cell_new0 w #[.int .i64 8, .int .i64 O0, .string S0, .slice a1 L10 c1, .slice a2 L20 c2, .slice ak L ck, .int .i64 P0] 34 5 _ rfl
  have HQ := hide (And.intro hb0 (And.intro q5 (show w.heap.size < (w.alloc (.cells #[.int .i64 8, .int .i64 O0, .string S0, .slice a1 L10 c1, .slice a2 L20 c2, .slice ak L ck, .int .i64 P0] 34)).heap.size by simp)))
  by_cases hL : L = 2
  · subst hL
    cases f with
    | true =>
      have HN : Hid (¬ OK) := hide fun h => absurd (HOK.out.1 h).2.1 (by decide)
      clear HOK HKS HLIT
      go_enter Tryd.func28, Tryd.ntmps28
      go_upto_region 1 with fail
      go_quiet ((go_at_call 42; exact Calls.quiet_of_same (HK42.out _)))
      go_wp2
      go_ret
      exact ⟨⟨false, rfl, ⟨fun h => absurd h (by decide), fun h => absurd h HN.out⟩⟩, drewN_below HQ.out.1 _⟩
    | false =>
      clear HLIT
      go_enter Tryd.func28, Tryd.ntmps28
      go_upto_region 1 with fail
      go_quiet ((go_at_call 42; exact Calls.quiet_of_same (HK42.out _)))
      go_wp2
      go_loopg [5] 2 (fun g i wr => ∃ (j : Nat), g + j = 2 ∧ i = .int .i64 (j : Int) ∧ (∀ i, i < j → Q (fnP 8 i) i) ∧ Below w.heap.size w wr ∧ wr.cell? ⟨w.heap.size, 5, none⟩ = some (.slice ak 2 ck) ∧ wr.cell? ⟨w.heap.size, 0, none⟩ = some (.int .i64 8) ∧ w.heap.size < wr.heap.size)
      case atStart => exact ⟨0, rfl, rfl, fun i hi => absurd hi (by omega), drewN_below HQ.out.1 _, HQ.out.2.1, q0, HQ.out.2.2⟩
      case round =>
        clear HQ q0 q3 q4 q5
        obtain ⟨j, hj, rfl, hall, hnx, hcl, hcl0, hsz2⟩ := hrel
        have HSZ := hide hsz2
        have HALL := hide hall
        clear hsz2 hall
        by_cases hlt : j < 2
        · obtain ⟨b, off, K, O, S, A1, L1, C1, A2, L2, C2, AK, LK, CK, P, rfl, hw⟩ := HKS.out j hlt
          obtain ⟨⟨g0, g1, g2, g3, g4, g5, g6⟩, C⟩ := hw _ hnx
          by_cases hj0 : j = 0
          · have hji : ((j : Int) == 0) = true := beq_iff_eq.2 (by omega)
            have HC := hide (show Calls Tryd.prog 28 #[.agg #[.int .i64 K, .int .i64 O, .string S, .slice A1 L1 C1, .slice A2 L2 C2, .slice AK LK CK, .int .i64 P], .bool false] wr fun e w' => (∃ b : Bool, e = .returned (.bool b) ∧ (b = true ↔ Q (fnP 8 j) j)) ∧ Below wr.heap.size wr w' from by
              rw [show fnP 8 j = false by simp [fnP, hj0]]
              exact C false)
            clear C hw HKS hj0
            go_wp2_with fail
            refine HC.out.mono ?_
            rintro e w1 ⟨⟨bk, rfl, hbk⟩, hb1⟩
            clear HC g0 g1 g2 g3 g4 g5 g6
            have HBK := hide hbk
            clear hbk
            cases bk with
            | false =>
              have HN : Hid (¬ OK) := hide fun h => absurd (HBK.out.2 ((HOK.out.1 h).2.2.2 j hlt)) (by decide)
              clear HOK HBK HALL
              go_wp2
              go_ret
              exact ⟨⟨false, rfl, ⟨fun h => absurd h (by decide), fun h => absurd h HN.out⟩⟩, hnx.trans (hb1.mono hnx.size)⟩
            | true =>
              have HQJ := hide (HBK.out.1 rfl)
              clear HBK
              go_wp2
              go_roundg (2 - (j + 1))
              case rel =>
                refine ⟨j + 1, by omega, by go_num, fun i hi => ?_, hnx.trans (hb1.mono hnx.size), (hb1.cell (p := ⟨w.heap.size, 5, none⟩) HSZ.out).trans hcl, (hb1.cell (p := ⟨w.heap.size, 0, none⟩) HSZ.out).trans hcl0, Nat.lt_of_lt_of_le HSZ.out hb1.size⟩
                by_cases hij : i = j
                · subst hij; exact HQJ.out
                · exact HALL.out i (by omega)
              case measure => omega
          · have hji : ((j : Int) == 0) = false := beq_eq_false_iff_ne.2 (by omega)
            have HC := hide (show Calls Tryd.prog 28 #[.agg #[.int .i64 K, .int .i64 O, .string S, .slice A1 L1 C1, .slice A2 L2 C2, .slice AK LK CK, .int .i64 P], .bool false] wr fun e w' => (∃ b : Bool, e = .returned (.bool b) ∧ (b = true ↔ Q (fnP 8 j) j)) ∧ Below wr.heap.size wr w' from by
              rw [show fnP 8 j = false by simp [fnP, hj0]]
              exact C false)
            clear C hw HKS hj0
            go_wp2_with fail
            refine HC.out.mono ?_
            rintro e w1 ⟨⟨bk, rfl, hbk⟩, hb1⟩
            clear HC g0 g1 g2 g3 g4 g5 g6
            have HBK := hide hbk
            clear hbk
            cases bk with
            | false =>
              have HN : Hid (¬ OK) := hide fun h => absurd (HBK.out.2 ((HOK.out.1 h).2.2.2 j hlt)) (by decide)
              clear HOK HBK HALL
              go_wp2
              go_ret
              exact ⟨⟨false, rfl, ⟨fun h => absurd h (by decide), fun h => absurd h HN.out⟩⟩, hnx.trans (hb1.mono hnx.size)⟩
            | true =>
              have HQJ := hide (HBK.out.1 rfl)
              clear HBK
              go_wp2
              go_roundg (2 - (j + 1))
              case rel =>
                refine ⟨j + 1, by omega, by go_num, fun i hi => ?_, hnx.trans (hb1.mono hnx.size), (hb1.cell (p := ⟨w.heap.size, 5, none⟩) HSZ.out).trans hcl, (hb1.cell (p := ⟨w.heap.size, 0, none⟩) HSZ.out).trans hcl0, Nat.lt_of_lt_of_le HSZ.out hb1.size⟩
                by_cases hij : i = j
                · subst hij; exact HQJ.out
                · exact HALL.out i (by omega)
              case measure => omega
        · have hje : j = 2 := by omega
          subst hje
          have HY : Hid OK := hide (HOK.out.2 ⟨by decide, by decide, fun h => absurd h (by decide), HALL.out⟩)
          clear HKS HOK HALL
          go_wp2
          go_ret
          exact ⟨⟨true, rfl, ⟨fun _ => HY.out, fun _ => rfl⟩⟩, hnx⟩
  · have HN : Hid (¬ OK) := hide fun h => hL (by have := (HOK.out.1 h).1; omega)
    have hLi : ((2 : Int) != (L : Int)) = true := bne_iff_ne.2 (by omega)
    have hLj : ((2 : Int) == (L : Int)) = false := beq_eq_false_iff_ne.2 (by omega)
    have hLn : ¬ (2 : Int) = (L : Int) := by omega
    clear HOK HKS HLIT hL
    go_enter Tryd.func28, Tryd.ntmps28
    go_upto_region 1 with fail
    go_quiet ((go_at_call 42; exact Calls.quiet_of_same (HK42.out _)))
    go_wp2
    go_ret
    exact ⟨⟨false, rfl, ⟨fun h => absurd h (by decide), fun h => absurd h HN.out⟩⟩, drewN_below HQ.out.1 _⟩
set_option maxHeartbeats 4000000 in
/-- kind 28 -/
theorem right28_28 {m : Nat} (IH : RightC m) : ∀ n x lo va w (f : Bool), x.kind = 28 → NdIn (m + 1) n lo w x va → Calls Tryd.prog 28 #[va, .bool f] w fun e w' => (∃ b : Bool, e = .returned (.bool b) ∧ (b = true ↔ okN (m + 1) f x)) ∧ Below w.heap.size w w' := by
  intro n x lo va w f hkind hx
  obtain ⟨m', hm', a1, c1, a2, c2, ak, ck, rfl, hA, hl, hs, hK⟩ := hx.letters
  obtain rfl : m = m' := by omega
  have HKS := hide (kid_right IH hK)
  have HLIT := hide (fun W (hW : Below w.heap.size w W) => rlit18 x.lit _ W (hA.next hW))
  have HOK : Hid (okN (m + 1) f x ↔ ((x.kids.length : Int) = arK x.kind ∧ f = decide (21 ≤ x.kind) ∧ (x.kind = 1 → litB x.lit = true) ∧ ∀ i, i < x.kids.length → okN m (fnP x.kind i) (kp x i))) := hide Iff.rfl
  obtain ⟨OK, hOK⟩ : ∃ OK, okN (m + 1) f x = OK := ⟨_, rfl⟩
  rw [hOK] at HOK ⊢
  generalize litB x.lit = LB at *
  generalize hQ : (fun (f : Bool) (i : Nat) => okN m f (kp x i)) = Q at *
  have HQ : Hid (∀ f i, okN m f (kp x i) = Q f i) := hide (fun f i => by rw [← hQ])
  simp only [HQ.out] at HOK HKS
  clear IH hx hA hK hs hm' hOK hQ HQ
  generalize x.kids.length = L at *
  generalize x.kind = K0 at *
  generalize x.op = O0 at *
  generalize x.name = S0 at *
  generalize x.pos = P0 at *
  generalize x.lit.shape.length = L10 at *
  generalize x.lit.cells.length = L20 at *
  subst hkind
  rw [show arK 28 = 2 from rfl] at HOK
  have HK42 : Hid (∀ W, Calls Tryd.prog 42 #[.int .i64 28] W fun e w' => e = .returned (.int .i64 2) ∧ w' = W) := hide fun W => kids42 28 W
  have hb0 := one_alloc w (.cells #[.int .i64 28, .int .i64 O0, .string S0, .slice a1 L10 c1, .slice a2 L20 c2, .slice ak L ck, .int .i64 P0] 34)
  have q0 := cell_new0 w #[.int .i64 28, .int .i64 O0, .string S0, .slice a1 L10 c1, .slice a2 L20 c2, .slice ak L ck, .int .i64 P0] 34 0 _ rfl
  have q3 := cell_new0 w #[.int .i64 28, .int .i64 O0, .string S0, .slice a1 L10 c1, .slice a2 L20 c2, .slice ak L ck, .int .i64 P0] 34 3 _ rfl
  have q4 := cell_new0 w #[.int .i64 28, .int .i64 O0, .string S0, .slice a1 L10 c1, .slice a2 L20 c2, .slice ak L ck, .int .i64 P0] 34 4 _ rfl
  have q5 := cell_new0 w #[.int .i64 28, .int .i64 O0, .string S0, .slice a1 L10 c1, .slice a2 L20 c2, .slice ak L ck, .int .i64 P0] 34 5 _ rfl
  have HQ := hide (And.intro hb0 (And.intro q5 (show w.heap.size < (w.alloc (.cells #[.int .i64 28, .int .i64 O0, .string S0, .slice a1 L10 c1, .slice a2 L20 c2, .slice ak L ck, .int .i64 P0] 34)).heap.size by simp)))
  by_cases hL : L = 2
  · subst hL
    cases f with
    | false =>
      have HN : Hid (¬ OK) := hide fun h => absurd (HOK.out.1 h).2.1 (by decide)
      clear HOK HKS HLIT
      go_enter Tryd.func28, Tryd.ntmps28
      go_upto_region 1 with fail
      go_quiet ((go_at_call 42; exact Calls.quiet_of_same (HK42.out _)))
      go_wp2
      go_ret
      exact ⟨⟨false, rfl, ⟨fun h => absurd h (by decide), fun h => absurd h HN.out⟩⟩, drewN_below HQ.out.1 _⟩
    | true =>
      clear HLIT
      go_enter Tryd.func28, Tryd.ntmps28
      go_upto_region 1 with fail
      go_quiet ((go_at_call 42; exact Calls.quiet_of_same (HK42.out _)))
      go_wp2
      go_loopg [5] 2 (fun g i wr => ∃ (j : Nat), g + j = 2 ∧ i = .int .i64 (j : Int) ∧ (∀ i, i < j → Q (fnP 28 i) i) ∧ Below w.heap.size w wr ∧ wr.cell? ⟨w.heap.size, 5, none⟩ = some (.slice ak 2 ck) ∧ wr.cell? ⟨w.heap.size, 0, none⟩ = some (.int .i64 28) ∧ w.heap.size < wr.heap.size)
      case atStart => exact ⟨0, rfl, rfl, fun i hi => absurd hi (by omega), drewN_below HQ.out.1 _, HQ.out.2.1, q0, HQ.out.2.2⟩
      case round =>
        clear HQ q0 q3 q4 q5
        obtain ⟨j, hj, rfl, hall, hnx, hcl, hcl0, hsz2⟩ := hrel
        have HSZ := hide hsz2
        have HALL := hide hall
        clear hsz2 hall
        by_cases hlt : j < 2
        · obtain ⟨b, off, K, O, S, A1, L1, C1, A2, L2, C2, AK, LK, CK, P, rfl, hw⟩ := HKS.out j hlt
          obtain ⟨⟨g0, g1, g2, g3, g4, g5, g6⟩, C⟩ := hw _ hnx
          have HC := hide (show Calls Tryd.prog 28 #[.agg #[.int .i64 K, .int .i64 O, .string S, .slice A1 L1 C1, .slice A2 L2 C2, .slice AK LK CK, .int .i64 P], .bool true] wr fun e w' => (∃ b : Bool, e = .returned (.bool b) ∧ (b = true ↔ Q (fnP 28 j) j)) ∧ Below wr.heap.size wr w' from by
            rw [show fnP 28 j = true by simp [fnP]]
            exact C true)
          clear C hw HKS
          go_wp2_with fail
          refine HC.out.mono ?_
          rintro e w1 ⟨⟨bk, rfl, hbk⟩, hb1⟩
          clear HC g0 g1 g2 g3 g4 g5 g6
          have HBK := hide hbk
          clear hbk
          cases bk with
          | false =>
            have HN : Hid (¬ OK) := hide fun h => absurd (HBK.out.2 ((HOK.out.1 h).2.2.2 j hlt)) (by decide)
            clear HOK HBK HALL
            go_wp2
            go_ret
            exact ⟨⟨false, rfl, ⟨fun h => absurd h (by decide), fun h => absurd h HN.out⟩⟩, hnx.trans (hb1.mono hnx.size)⟩
          | true =>
            have HQJ := hide (HBK.out.1 rfl)
            clear HBK
            go_wp2
            go_roundg (2 - (j + 1))
            case rel =>
              refine ⟨j + 1, by omega, by go_num, fun i hi => ?_, hnx.trans (hb1.mono hnx.size), (hb1.cell (p := ⟨w.heap.size, 5, none⟩) HSZ.out).trans hcl, (hb1.cell (p := ⟨w.heap.size, 0, none⟩) HSZ.out).trans hcl0, Nat.lt_of_lt_of_le HSZ.out hb1.size⟩
              by_cases hij : i = j
              · subst hij; exact HQJ.out
              · exact HALL.out i (by omega)
            case measure => omega
        · have hje : j = 2 := by omega
          subst hje
          have HY : Hid OK := hide (HOK.out.2 ⟨by decide, by decide, fun h => absurd h (by decide), HALL.out⟩)
          clear HKS HOK HALL
          go_wp2
          go_ret
          exact ⟨⟨true, rfl, ⟨fun _ => HY.out, fun _ => rfl⟩⟩, hnx⟩
  · have HN : Hid (¬ OK) := hide fun h => hL (by have := (HOK.out.1 h).1; omega)
    have hLi : ((2 : Int) != (L : Int)) = true := bne_iff_ne.2 (by omega)
    have hLj : ((2 : Int) == (L : Int)) = false := beq_eq_false_iff_ne.2 (by omega)
    have hLn : ¬ (2 : Int) = (L : Int) := by omega
    clear HOK HKS HLIT hL
    go_enter Tryd.func28, Tryd.ntmps28
    go_upto_region 1 with fail
    go_quiet ((go_at_call 42; exact Calls.quiet_of_same (HK42.out _)))
    go_wp2
    go_ret
    exact ⟨⟨false, rfl, ⟨fun h => absurd h (by decide), fun h => absurd h HN.out⟩⟩, drewN_below HQ.out.1 _⟩
set_option maxHeartbeats 4000000 in
/-- kind 6 -/
theorem right28_6 {m : Nat} (IH : RightC m) : ∀ n x lo va w (f : Bool), x.kind = 6 → NdIn (m + 1) n lo w x va → Calls Tryd.prog 28 #[va, .bool f] w fun e w' => (∃ b : Bool, e = .returned (.bool b) ∧ (b = true ↔ okN (m + 1) f x)) ∧ Below w.heap.size w w' := by
  intro n x lo va w f hkind hx
  obtain ⟨m', hm', a1, c1, a2, c2, ak, ck, rfl, hA, hl, hs, hK⟩ := hx.letters
  obtain rfl : m = m' := by omega
  have HKS := hide (kid_right IH hK)
  have HLIT := hide (fun W (hW : Below w.heap.size w W) => rlit18 x.lit _ W (hA.next hW))
  have HOK : Hid (okN (m + 1) f x ↔ ((x.kids.length : Int) = arK x.kind ∧ f = decide (21 ≤ x.kind) ∧ (x.kind = 1 → litB x.lit = true) ∧ ∀ i, i < x.kids.length → okN m (fnP x.kind i) (kp x i))) := hide Iff.rfl
  obtain ⟨OK, hOK⟩ : ∃ OK, okN (m + 1) f x = OK := ⟨_, rfl⟩
  rw [hOK] at HOK ⊢
  generalize litB x.lit = LB at *
  generalize hQ : (fun (f : Bool) (i : Nat) => okN m f (kp x i)) = Q at *
  have HQ : Hid (∀ f i, okN m f (kp x i) = Q f i) := hide (fun f i => by rw [← hQ])
  simp only [HQ.out] at HOK HKS
  clear IH hx hA hK hs hm' hOK hQ HQ
  generalize x.kids.length = L at *
  generalize x.kind = K0 at *
  generalize x.op = O0 at *
  generalize x.name = S0 at *
  generalize x.pos = P0 at *
  generalize x.lit.shape.length = L10 at *
  generalize x.lit.cells.length = L20 at *
  subst hkind
  rw [show arK 6 = 3 from rfl] at HOK
  have HK42 : Hid (∀ W, Calls Tryd.prog 42 #[.int .i64 6] W fun e w' => e = .returned (.int .i64 3) ∧ w' = W) := hide fun W => kids42 6 W
  have hb0 := one_alloc w (.cells #[.int .i64 6, .int .i64 O0, .string S0, .slice a1 L10 c1, .slice a2 L20 c2, .slice ak L ck, .int .i64 P0] 34)
  have q0 := cell_new0 w #[.int .i64 6, .int .i64 O0, .string S0, .slice a1 L10 c1, .slice a2 L20 c2, .slice ak L ck, .int .i64 P0] 34 0 _ rfl
  have q3 := cell_new0 w #[.int .i64 6, .int .i64 O0, .string S0, .slice a1 L10 c1, .slice a2 L20 c2, .slice ak L ck, .int .i64 P0] 34 3 _ rfl
  have q4 := cell_new0 w #[.int .i64 6, .int .i64 O0, .string S0, .slice a1 L10 c1, .slice a2 L20 c2, .slice ak L ck, .int .i64 P0] 34 4 _ rfl
  have q5 := cell_new0 w #[.int .i64 6, .int .i64 O0, .string S0, .slice a1 L10 c1, .slice a2 L20 c2, .slice ak L ck, .int .i64 P0] 34 5 _ rfl
  have HQ := hide (And.intro hb0 (And.intro q5 (show w.heap.size < (w.alloc (.cells #[.int .i64 6, .int .i64 O0, .string S0, .slice a1 L10 c1, .slice a2 L20 c2, .slice ak L ck, .int .i64 P0] 34)).heap.size by simp)))
  by_cases hL : L = 3
  · subst hL
    cases f with
    | true =>
      have HN : Hid (¬ OK) := hide fun h => absurd (HOK.out.1 h).2.1 (by decide)
      clear HOK HKS HLIT
      go_enter Tryd.func28, Tryd.ntmps28
      go_upto_region 1 with fail
      go_quiet ((go_at_call 42; exact Calls.quiet_of_same (HK42.out _)))
      go_wp2
      go_ret
      exact ⟨⟨false, rfl, ⟨fun h => absurd h (by decide), fun h => absurd h HN.out⟩⟩, drewN_below HQ.out.1 _⟩
    | false =>
      clear HLIT
      go_enter Tryd.func28, Tryd.ntmps28
      go_upto_region 1 with fail
      go_quiet ((go_at_call 42; exact Calls.quiet_of_same (HK42.out _)))
      go_wp2
      go_loopg [5] 3 (fun g i wr => ∃ (j : Nat), g + j = 3 ∧ i = .int .i64 (j : Int) ∧ (∀ i, i < j → Q (fnP 6 i) i) ∧ Below w.heap.size w wr ∧ wr.cell? ⟨w.heap.size, 5, none⟩ = some (.slice ak 3 ck) ∧ wr.cell? ⟨w.heap.size, 0, none⟩ = some (.int .i64 6) ∧ w.heap.size < wr.heap.size)
      case atStart => exact ⟨0, rfl, rfl, fun i hi => absurd hi (by omega), drewN_below HQ.out.1 _, HQ.out.2.1, q0, HQ.out.2.2⟩
      case round =>
        clear HQ q0 q3 q4 q5
        obtain ⟨j, hj, rfl, hall, hnx, hcl, hcl0, hsz2⟩ := hrel
        have HSZ := hide hsz2
        have HALL := hide hall
        clear hsz2 hall
        by_cases hlt : j < 3
        · obtain ⟨b, off, K, O, S, A1, L1, C1, A2, L2, C2, AK, LK, CK, P, rfl, hw⟩ := HKS.out j hlt
          obtain ⟨⟨g0, g1, g2, g3, g4, g5, g6⟩, C⟩ := hw _ hnx
          by_cases hj0 : j = 0
          · have hji : ((j : Int) == 0) = true := beq_iff_eq.2 (by omega)
            have HC := hide (show Calls Tryd.prog 28 #[.agg #[.int .i64 K, .int .i64 O, .string S, .slice A1 L1 C1, .slice A2 L2 C2, .slice AK LK CK, .int .i64 P], .bool true] wr fun e w' => (∃ b : Bool, e = .returned (.bool b) ∧ (b = true ↔ Q (fnP 6 j) j)) ∧ Below wr.heap.size wr w' from by
              rw [show fnP 6 j = true by simp [fnP, hj0]]
              exact C true)
            clear C hw HKS hj0
            go_wp2_with fail
            refine HC.out.mono ?_
            rintro e w1 ⟨⟨bk, rfl, hbk⟩, hb1⟩
            clear HC g0 g1 g2 g3 g4 g5 g6
            have HBK := hide hbk
            clear hbk
            cases bk with
            | false =>
              have HN : Hid (¬ OK) := hide fun h => absurd (HBK.out.2 ((HOK.out.1 h).2.2.2 j hlt)) (by decide)
              clear HOK HBK HALL
              go_wp2
              go_ret
              exact ⟨⟨false, rfl, ⟨fun h => absurd h (by decide), fun h => absurd h HN.out⟩⟩, hnx.trans (hb1.mono hnx.size)⟩
            | true =>
              have HQJ := hide (HBK.out.1 rfl)
              clear HBK
              go_wp2
              go_roundg (3 - (j + 1))
              case rel =>
                refine ⟨j + 1, by omega, by go_num, fun i hi => ?_, hnx.trans (hb1.mono hnx.size), (hb1.cell (p := ⟨w.heap.size, 5, none⟩) HSZ.out).trans hcl, (hb1.cell (p := ⟨w.heap.size, 0, none⟩) HSZ.out).trans hcl0, Nat.lt_of_lt_of_le HSZ.out hb1.size⟩
                by_cases hij : i = j
                · subst hij; exact HQJ.out
                · exact HALL.out i (by omega)
              case measure => omega
          · have hji : ((j : Int) == 0) = false := beq_eq_false_iff_ne.2 (by omega)
            have HC := hide (show Calls Tryd.prog 28 #[.agg #[.int .i64 K, .int .i64 O, .string S, .slice A1 L1 C1, .slice A2 L2 C2, .slice AK LK CK, .int .i64 P], .bool false] wr fun e w' => (∃ b : Bool, e = .returned (.bool b) ∧ (b = true ↔ Q (fnP 6 j) j)) ∧ Below wr.heap.size wr w' from by
              rw [show fnP 6 j = false by simp [fnP, hj0]]
              exact C false)
            clear C hw HKS hj0
            go_wp2_with fail
            refine HC.out.mono ?_
            rintro e w1 ⟨⟨bk, rfl, hbk⟩, hb1⟩
            clear HC g0 g1 g2 g3 g4 g5 g6
            have HBK := hide hbk
            clear hbk
            cases bk with
            | false =>
              have HN : Hid (¬ OK) := hide fun h => absurd (HBK.out.2 ((HOK.out.1 h).2.2.2 j hlt)) (by decide)
              clear HOK HBK HALL
              go_wp2
              go_ret
              exact ⟨⟨false, rfl, ⟨fun h => absurd h (by decide), fun h => absurd h HN.out⟩⟩, hnx.trans (hb1.mono hnx.size)⟩
            | true =>
              have HQJ := hide (HBK.out.1 rfl)
              clear HBK
              go_wp2
              go_roundg (3 - (j + 1))
              case rel =>
                refine ⟨j + 1, by omega, by go_num, fun i hi => ?_, hnx.trans (hb1.mono hnx.size), (hb1.cell (p := ⟨w.heap.size, 5, none⟩) HSZ.out).trans hcl, (hb1.cell (p := ⟨w.heap.size, 0, none⟩) HSZ.out).trans hcl0, Nat.lt_of_lt_of_le HSZ.out hb1.size⟩
                by_cases hij : i = j
                · subst hij; exact HQJ.out
                · exact HALL.out i (by omega)
              case measure => omega
        · have hje : j = 3 := by omega
          subst hje
          have HY : Hid OK := hide (HOK.out.2 ⟨by decide, by decide, fun h => absurd h (by decide), HALL.out⟩)
          clear HKS HOK HALL
          go_wp2
          go_ret
          exact ⟨⟨true, rfl, ⟨fun _ => HY.out, fun _ => rfl⟩⟩, hnx⟩
  · have HN : Hid (¬ OK) := hide fun h => hL (by have := (HOK.out.1 h).1; omega)
    have hLi : ((3 : Int) != (L : Int)) = true := bne_iff_ne.2 (by omega)
    have hLj : ((3 : Int) == (L : Int)) = false := beq_eq_false_iff_ne.2 (by omega)
    have hLn : ¬ (3 : Int) = (L : Int) := by omega
    clear HOK HKS HLIT hL
    go_enter Tryd.func28, Tryd.ntmps28
    go_upto_region 1 with fail
    go_quiet ((go_at_call 42; exact Calls.quiet_of_same (HK42.out _)))
    go_wp2
    go_ret
    exact ⟨⟨false, rfl, ⟨fun h => absurd h (by decide), fun h => absurd h HN.out⟩⟩, drewN_below HQ.out.1 _⟩
set_option maxHeartbeats 4000000 in
/-- kind 27 -/
theorem right28_27 {m : Nat} (IH : RightC m) : ∀ n x lo va w (f : Bool), x.kind = 27 → NdIn (m + 1) n lo w x va → Calls Tryd.prog 28 #[va, .bool f] w fun e w' => (∃ b : Bool, e = .returned (.bool b) ∧ (b = true ↔ okN (m + 1) f x)) ∧ Below w.heap.size w w' := by
  intro n x lo va w f hkind hx
  obtain ⟨m', hm', a1, c1, a2, c2, ak, ck, rfl, hA, hl, hs, hK⟩ := hx.letters
  obtain rfl : m = m' := by omega
  have HKS := hide (kid_right IH hK)
  have HLIT := hide (fun W (hW : Below w.heap.size w W) => rlit18 x.lit _ W (hA.next hW))
  have HOK : Hid (okN (m + 1) f x ↔ ((x.kids.length : Int) = arK x.kind ∧ f = decide (21 ≤ x.kind) ∧ (x.kind = 1 → litB x.lit = true) ∧ ∀ i, i < x.kids.length → okN m (fnP x.kind i) (kp x i))) := hide Iff.rfl
  obtain ⟨OK, hOK⟩ : ∃ OK, okN (m + 1) f x = OK := ⟨_, rfl⟩
  rw [hOK] at HOK ⊢
  generalize litB x.lit = LB at *
  generalize hQ : (fun (f : Bool) (i : Nat) => okN m f (kp x i)) = Q at *
  have HQ : Hid (∀ f i, okN m f (kp x i) = Q f i) := hide (fun f i => by rw [← hQ])
  simp only [HQ.out] at HOK HKS
  clear IH hx hA hK hs hm' hOK hQ HQ
  generalize x.kids.length = L at *
  generalize x.kind = K0 at *
  generalize x.op = O0 at *
  generalize x.name = S0 at *
  generalize x.pos = P0 at *
  generalize x.lit.shape.length = L10 at *
  generalize x.lit.cells.length = L20 at *
  subst hkind
  rw [show arK 27 = 3 from rfl] at HOK
  have HK42 : Hid (∀ W, Calls Tryd.prog 42 #[.int .i64 27] W fun e w' => e = .returned (.int .i64 3) ∧ w' = W) := hide fun W => kids42 27 W
  have hb0 := one_alloc w (.cells #[.int .i64 27, .int .i64 O0, .string S0, .slice a1 L10 c1, .slice a2 L20 c2, .slice ak L ck, .int .i64 P0] 34)
  have q0 := cell_new0 w #[.int .i64 27, .int .i64 O0, .string S0, .slice a1 L10 c1, .slice a2 L20 c2, .slice ak L ck, .int .i64 P0] 34 0 _ rfl
  have q3 := cell_new0 w #[.int .i64 27, .int .i64 O0, .string S0, .slice a1 L10 c1, .slice a2 L20 c2, .slice ak L ck, .int .i64 P0] 34 3 _ rfl
  have q4 := cell_new0 w #[.int .i64 27, .int .i64 O0, .string S0, .slice a1 L10 c1, .slice a2 L20 c2, .slice ak L ck, .int .i64 P0] 34 4 _ rfl
  have q5 := cell_new0 w #[.int .i64 27, .int .i64 O0, .string S0, .slice a1 L10 c1, .slice a2 L20 c2, .slice ak L ck, .int .i64 P0] 34 5 _ rfl
  have HQ := hide (And.intro hb0 (And.intro q5 (show w.heap.size < (w.alloc (.cells #[.int .i64 27, .int .i64 O0, .string S0, .slice a1 L10 c1, .slice a2 L20 c2, .slice ak L ck, .int .i64 P0] 34)).heap.size by simp)))
  by_cases hL : L = 3
  · subst hL
    cases f with
    | false =>
      have HN : Hid (¬ OK) := hide fun h => absurd (HOK.out.1 h).2.1 (by decide)
      clear HOK HKS HLIT
      go_enter Tryd.func28, Tryd.ntmps28
      go_upto_region 1 with fail
      go_quiet ((go_at_call 42; exact Calls.quiet_of_same (HK42.out _)))
      go_wp2
      go_ret
      exact ⟨⟨false, rfl, ⟨fun h => absurd h (by decide), fun h => absurd h HN.out⟩⟩, drewN_below HQ.out.1 _⟩
    | true =>
      clear HLIT
      go_enter Tryd.func28, Tryd.ntmps28
      go_upto_region 1 with fail
      go_quiet ((go_at_call 42; exact Calls.quiet_of_same (HK42.out _)))
      go_wp2
      go_loopg [5] 3 (fun g i wr => ∃ (j : Nat), g + j = 3 ∧ i = .int .i64 (j : Int) ∧ (∀ i, i < j → Q (fnP 27 i) i) ∧ Below w.heap.size w wr ∧ wr.cell? ⟨w.heap.size, 5, none⟩ = some (.slice ak 3 ck) ∧ wr.cell? ⟨w.heap.size, 0, none⟩ = some (.int .i64 27) ∧ w.heap.size < wr.heap.size)
      case atStart => exact ⟨0, rfl, rfl, fun i hi => absurd hi (by omega), drewN_below HQ.out.1 _, HQ.out.2.1, q0, HQ.out.2.2⟩
      case round =>
        clear HQ q0 q3 q4 q5
        obtain ⟨j, hj, rfl, hall, hnx, hcl, hcl0, hsz2⟩ := hrel
        have HSZ := hide hsz2
        have HALL := hide hall
        clear hsz2 hall
        by_cases hlt : j < 3
        · obtain ⟨b, off, K, O, S, A1, L1, C1, A2, L2, C2, AK, LK, CK, P, rfl, hw⟩ := HKS.out j hlt
          obtain ⟨⟨g0, g1, g2, g3, g4, g5, g6⟩, C⟩ := hw _ hnx
          have HC := hide (show Calls Tryd.prog 28 #[.agg #[.int .i64 K, .int .i64 O, .string S, .slice A1 L1 C1, .slice A2 L2 C2, .slice AK LK CK, .int .i64 P], .bool true] wr fun e w' => (∃ b : Bool, e = .returned (.bool b) ∧ (b = true ↔ Q (fnP 27 j) j)) ∧ Below wr.heap.size wr w' from by
            rw [show fnP 27 j = true by simp [fnP]]
            exact C true)
          clear C hw HKS
          go_wp2_with fail
          refine HC.out.mono ?_
          rintro e w1 ⟨⟨bk, rfl, hbk⟩, hb1⟩
          clear HC g0 g1 g2 g3 g4 g5 g6
          have HBK := hide hbk
          clear hbk
          cases bk with
          | false =>
            have HN : Hid (¬ OK) := hide fun h => absurd (HBK.out.2 ((HOK.out.1 h).2.2.2 j hlt)) (by decide)
            clear HOK HBK HALL
            go_wp2
            go_ret
            exact ⟨⟨false, rfl, ⟨fun h => absurd h (by decide), fun h => absurd h HN.out⟩⟩, hnx.trans (hb1.mono hnx.size)⟩
          | true =>
            have HQJ := hide (HBK.out.1 rfl)
            clear HBK
            go_wp2
            go_roundg (3 - (j + 1))
            case rel =>
              refine ⟨j + 1, by omega, by go_num, fun i hi => ?_, hnx.trans (hb1.mono hnx.size), (hb1.cell (p := ⟨w.heap.size, 5, none⟩) HSZ.out).trans hcl, (hb1.cell (p := ⟨w.heap.size, 0, none⟩) HSZ.out).trans hcl0, Nat.lt_of_lt_of_le HSZ.out hb1.size⟩
              by_cases hij : i = j
              · subst hij; exact HQJ.out
              · exact HALL.out i (by omega)
            case measure => omega
        · have hje : j = 3 := by omega
          subst hje
          have HY : Hid OK := hide (HOK.out.2 ⟨by decide, by decide, fun h => absurd h (by decide), HALL.out⟩)
          clear HKS HOK HALL
          go_wp2
          go_ret
          exact ⟨⟨true, rfl, ⟨fun _ => HY.out, fun _ => rfl⟩⟩, hnx⟩
  · have HN : Hid (¬ OK) := hide fun h => hL (by have := (HOK.out.1 h).1; omega)
    have hLi : ((3 : Int) != (L : Int)) = true := bne_iff_ne.2 (by omega)
    have hLj : ((3 : Int) == (L : Int)) = false := beq_eq_false_iff_ne.2 (by omega)
    have hLn : ¬ (3 : Int) = (L : Int) := by omega
    clear HOK HKS HLIT hL
    go_enter Tryd.func28, Tryd.ntmps28
    go_upto_region 1 with fail
    go_quiet ((go_at_call 42; exact Calls.quiet_of_same (HK42.out _)))
    go_wp2
    go_ret
    exact ⟨⟨false, rfl, ⟨fun h => absurd h (by decide), fun h => absurd h HN.out⟩⟩, drewN_below HQ.out.1 _⟩
/-- no kind -/
theorem right28_no {m : Nat} : ∀ n x lo va w (f : Bool), ¬ 0 ≤ arK x.kind → NdIn (m + 1) n lo w x va → Calls Tryd.prog 28 #[va, .bool f] w fun e w' => (∃ b : Bool, e = .returned (.bool b) ∧ (b = true ↔ okN (m + 1) f x)) ∧ Below w.heap.size w w' := by
  intro n x lo va w f hk0 hx
  obtain ⟨m', hm', a1, c1, a2, c2, ak, ck, rfl, hA, hl, hs, hK⟩ := hx.letters
  have HN : Hid (¬ okN (m + 1) f x) := hide fun h => hk0 (by have := h.1; omega)
  obtain ⟨OK, hOK⟩ : ∃ OK, okN (m + 1) f x = OK := ⟨_, rfl⟩
  rw [hOK] at HN ⊢
  clear hx hA hK hs hm' hOK
  have HK42 := hide (fun W => kids42 x.kind W)
  have hLi : (arK x.kind != (x.kids.length : Int)) = true := bne_iff_ne.2 (by omega)
  have hLj : (arK x.kind == (x.kids.length : Int)) = false := beq_eq_false_iff_ne.2 (by omega)
  have hLn : ¬ arK x.kind = (x.kids.length : Int) := by omega
  clear hk0
  generalize arK x.kind = AR at *
  generalize x.kids.length = L at *
  generalize x.kind = K0 at *
  generalize x.op = O0 at *
  generalize x.name = S0 at *
  generalize x.pos = P0 at *
  generalize x.lit.shape.length = L10 at *
  generalize x.lit.cells.length = L20 at *
  have hb0 := one_alloc w (.cells #[.int .i64 K0, .int .i64 O0, .string S0, .slice a1 L10 c1, .slice a2 L20 c2, .slice ak L ck, .int .i64 P0] 34)
  have q0 := cell_new0 w #[.int .i64 K0, .int .i64 O0, .string S0, .slice a1 L10 c1, .slice a2 L20 c2, .slice ak L ck, .int .i64 P0] 34 0 _ rfl
  have q3 := cell_new0 w #[.int .i64 K0, .int .i64 O0, .string S0, .slice a1 L10 c1, .slice a2 L20 c2, .slice ak L ck, .int .i64 P0] 34 3 _ rfl
  have q4 := cell_new0 w #[.int .i64 K0, .int .i64 O0, .string S0, .slice a1 L10 c1, .slice a2 L20 c2, .slice ak L ck, .int .i64 P0] 34 4 _ rfl
  have q5 := cell_new0 w #[.int .i64 K0, .int .i64 O0, .string S0, .slice a1 L10 c1, .slice a2 L20 c2, .slice ak L ck, .int .i64 P0] 34 5 _ rfl
  have HQ := hide (And.intro hb0 (And.intro q5 (show w.heap.size < (w.alloc (.cells #[.int .i64 K0, .int .i64 O0, .string S0, .slice a1 L10 c1, .slice a2 L20 c2, .slice ak L ck, .int .i64 P0] 34)).heap.size by simp)))
  go_enter Tryd.func28, Tryd.ntmps28
  go_upto_region 1 with fail
  go_quiet ((go_at_call 42; exact Calls.quiet_of_same (HK42.out _)))
  go_wp2
  go_ret
  exact ⟨⟨false, rfl, ⟨fun h => absurd h (by decide), fun h => absurd h HN.out⟩⟩, drewN_below HQ.out.1 _⟩
theorem right28 (m : Nat) : RightC m := by
  induction m with
  | zero => intro n x lo va w f hx; exact hx.elim
  | succ m IH =>
    intro n x lo va w f hx
    by_cases h0 : 0 ≤ arK x.kind
    · rcases ar_kinds h0 with h | h | h | h | h | h | h | h | h | h | h | h | h | h | h
      · exact right28_1 IH n x lo va w f h hx
      · exact right28_2 IH n x lo va w f h hx
      · exact right28_3 IH n x lo va w f h hx
      · exact right28_4 IH n x lo va w f h hx
      · exact right28_21 IH n x lo va w f h hx
      · exact right28_22 IH n x lo va w f h hx
      · exact right28_23 IH n x lo va w f h hx
      · exact right28_24 IH n x lo va w f h hx
      · exact right28_25 IH n x lo va w f h hx
      · exact right28_26 IH n x lo va w f h hx
      · exact right28_5 IH n x lo va w f h hx
      · exact right28_8 IH n x lo va w f h hx
      · exact right28_28 IH n x lo va w f h hx
      · exact right28_6 IH n x lo va w f h hx
      · exact right28_27 IH n x lo va w f h hx
    · exact right28_no n x lo va w f h0 hx
end Go.Proofs.YtneblkdkhlgmcaaDoor
namespace Go.Proofs.YtneblkdkhlgmcaaDoor
open Go.ChangeShapes Go.WideShapes Go.ChangeAt Go.RowKit
set_option maxRecDepth 100000
set_option linter.unusedVariables false
set_option linter.unusedSimpArgs false
theorem lpM_all {F : Int → Bool → Int → Nd → Bool × Int} {x : Nd} (n j : Nat) (c : Int) (h : (lpM F x n j c).1 = true) : ∀ i, j ≤ i → i < j + n → ∃ c', (F c' (fnP x.kind i) x.kind (kp x i)).1 = true := by
  induction n generalizing j c with
  | zero => intro i h1 h2; omega
  | succ n ih =>
    intro i h1 h2
    unfold lpM at h
    split at h
    · rename_i h3
      by_cases hij : i = j
      · subst hij; exact ⟨c, h3⟩
      · exact ih (j + 1) _ h i (by omega) (by omega)
    · cases h
theorem fitM_ok (lone : Bool) (m : Nat) : ∀ c f wh x, (fitM lone m c f wh x).1 = true → okN m f x := by
  induction m with
  | zero => intro c f wh x h; cases h
  | succ m ih =>
    intro c f wh x h
    unfold fitM at h
    split at h
    · cases h
    · rename_i h1
      split at h
      · cases h
      · rename_i h2
        have h3 : ¬ f ≠ decide (21 ≤ x.kind) := fun e => h1 (Or.inr (Or.inr (Or.inl e)))
        have h4 : ¬ (x.kids.length : Int) ≠ arK x.kind := fun e => h1 (Or.inr (Or.inr (Or.inr e)))
        refine ⟨Decidable.not_not.1 h4, Decidable.not_not.1 h3, fun hk => ?_, fun i hi => ?_⟩
        · unfold riB at h2
          rw [if_pos hk] at h2
          simpa using h2
        · obtain ⟨c', hc'⟩ := lpM_all _ _ _ h i (Nat.zero_le _) (by omega)
          exact ih _ _ _ _ hc'
/-- What Write tells. -/
def wrB (G : Gs) (m : Nat) (x : Nd) : Bool := (fitM G.lone m 0 false 0 x).1
def wrE (G : Gs) (m : Nat) (x : Nd) : Int := if wrB G m x then 0 else 1
def wrS (G : Gs) (m : Nat) (x : Nd) : List UInt8 := if wrB G m x then (TX G m).E G.right x else []
set_option maxHeartbeats 8000000 in
theorem write11 {n m : Nat} {w : World} {G : Gs} {x : Nd} {v : Value} (hx : NdIn m n 0 w x v) (hs : sndA x) (T : Rn.Tab w) (P : Pw w) (hm : G.minus.size ≤ 1000000) (hq : G.quote.size ≤ 1000000) (hl : wrB G m x = true → 1 + ((TX G m).E G.right x).length ≤ 140737488355328) (c1 : ∃ a l c, G.s1 = .slice a l c) (c2 : ∃ a l c, G.s2 = .slice a l c) (c3 : ∃ a l c, G.s3 = .slice a l c) :
    Calls Tryd.prog 11 #[gV G, v] w fun e w' => e = .returned (.tuple #[.string (str (wrS G m x)), .int .i64 (wrE G m x)]) ∧ Below w.heap.size w w' := by
  obtain ⟨xa1, xl1, xc1, hg1⟩ := c1
  obtain ⟨xa2, xl2, xc2, hg2⟩ := c2
  obtain ⟨xa3, xl3, xc3, hg3⟩ := c3
  have HG3 := hide (And.intro hg1 (And.intro hg2 hg3))
  obtain ⟨v1, v2, v3, rfl, hv1⟩ := nd_form hx
  obtain ⟨⟨la1, ll1, lc1, rfl⟩, ⟨la2, ll2, lc2, rfl⟩, ⟨la3, ll3, lc3, rfl⟩⟩ := nd_slices hx
  have HZ : Hid ((wrB G m x = true → wrE G m x = 0 ∧ wrS G m x = (TX G m).E G.right x) ∧ (wrB G m x = false → wrE G m x = 1 ∧ wrS G m x = [])) := hide (by
    unfold wrE wrS
    constructor <;> intro h <;> rw [h] <;> exact ⟨rfl, rfl⟩)
  have HFT := hide (fun pc W (hck : Ck w pc W pc G.lone 0) => fits n m 0 false 0 W x _ hx (Int.le_refl 0) (by decide) hck)
  have HCE := hide (fun (hb : wrB G m x = true) B W p (hst : St w B W p G G.right false []) => (writers (w0 := w) (B := B) (p := p) (G := G) n m).2.1 G.right false [] W x _ hx (fitM_ok _ _ _ _ _ _ hb) hs hst (by have := hl hb; simp only [List.length_nil]; omega))
  have HAM : Hid (∀ B p, w.heap.size ≤ B → Am w B p G) := hide (fun B p hB => ⟨hB, T, P, hm, hq⟩)
  obtain ⟨FR, hFR⟩ : ∃ FR, fitM G.lone m 0 false 0 x = FR := ⟨_, rfl⟩
  have hwb : wrB G m x = FR.1 := by unfold wrB; rw [hFR]
  rw [hFR] at HFT
  rw [hwb] at HZ HCE
  obtain ⟨LE, hLE⟩ : ∃ LE, wrE G m x = LE := ⟨_, rfl⟩
  obtain ⟨LS, hLS⟩ : ∃ LS, wrS G m x = LS := ⟨_, rfl⟩
  rw [hLE, hLS] at HZ ⊢
  obtain ⟨ET, hET⟩ : ∃ ET, (TX G m).E G.right x = ET := ⟨_, rfl⟩
  rw [hET] at HZ HCE
  generalize x.kind = k at *
  generalize x.op = o at *
  generalize x.name = nm at *
  generalize x.pos = ps at *
  clear hx hs T P hm hq hl hFR hwb hLE hLS hET hv1
  obtain ⟨fb1, fc⟩ := FR
  obtain ⟨W2, hW2⟩ : ∃ W2, (w.alloc (.cells #[.slice xa1 xl1 xc1, .slice xa2 xl2 xc2, .slice xa3 xl3 xc3, .string G.outer, .string G.power, .string G.opn, .string G.cls, .string G.left, .string G.right, .string G.minus, .string G.quote, .bool G.trains, .bool G.lone, .bool G.square] 27)).alloc (.cells (sv k o nm (.slice la1 ll1 lc1) (.slice la2 ll2 lc2) (.slice la3 ll3 lc3) ps) 34) = W2 := ⟨_, rfl⟩
  have hb2 : Below w.heap.size w W2 := by rw [← hW2]; exact two_allocs _ _ _
  have s2 : W2.heap.size = w.heap.size + 2 := by rw [← hW2]; simp
  have hA : W2.heap[w.heap.size]? = some (.cells #[.slice xa1 xl1 xc1, .slice xa2 xl2 xc2, .slice xa3 xl3 xc3, .string G.outer, .string G.power, .string G.opn, .string G.cls, .string G.left, .string G.right, .string G.minus, .string G.quote, .bool G.trains, .bool G.lone, .bool G.square] 27 (0, 0)) := by
    rw [← hW2]; exact (Lib.alloc_old _ _ w.heap.size (by simp)).trans (heap_alloc_new w _)
  have hB : W2.heap[w.heap.size + 1]? = some (.cells (sv k o nm (.slice la1 ll1 lc1) (.slice la2 ll2 lc2) (.slice la3 ll3 lc3) ps) 34 (0, 0)) := by
    have h := heap_alloc_new (w.alloc (.cells #[.slice xa1 xl1 xc1, .slice xa2 xl2 xc2, .slice xa3 xl3 xc3, .string G.outer, .string G.power, .string G.opn, .string G.cls, .string G.left, .string G.right, .string G.minus, .string G.quote, .bool G.trains, .bool G.lone, .bool G.square] 27)) (.cells (sv k o nm (.slice la1 ll1 lc1) (.slice la2 ll2 lc2) (.slice la3 ll3 lc3) ps) 34)
    have e : (w.alloc (.cells #[.slice xa1 xl1 xc1, .slice xa2 xl2 xc2, .slice xa3 xl3 xc3, .string G.outer, .string G.power, .string G.opn, .string G.cls, .string G.left, .string G.right, .string G.minus, .string G.quote, .bool G.trains, .bool G.lone, .bool G.square] 27)).heap.size = w.heap.size + 1 := by simp
    rw [e] at h
    rw [← hW2]; exact h
  have HB2 := hide hb2
  have g12 : W2.cell? ⟨w.heap.size, 12, none⟩ = some (.bool G.lone) := (Lib.cell_of_heap hA 12).trans rfl
  have HA := hide hA
  have HB := hide hB
  unfold gV
  rw [hg1, hg2, hg3]
  clear hg1 hg2 hg3
  go_enter Tryd.func11, Tryd.ntmps11
  go_upto_region 1 with fail
  try rw [hW2]
  clear hW2 hA hB hb2
  go_upto_region 2 with fail
  obtain ⟨W3, hW3⟩ : ∃ W3, W2.alloc (.cells #[.bool G.lone, .int .i64 0] 54) = W3 := ⟨_, rfl⟩
  try rw [hW3]
  have hb3 : Below W2.heap.size W2 W3 := by rw [← hW3]; exact alloc_one _ _
  have s3 : W3.heap.size = w.heap.size + 3 := by rw [← hW3]; simp [s2]
  have hC : W3.heap[w.heap.size + 2]? = some (.cells #[.bool G.lone, .int .i64 0] 54 (0, 0)) := by
    have h := heap_alloc_new W2 (.cells #[.bool G.lone, .int .i64 0] 54)
    rw [s2] at h
    rw [← hW3]; exact h
  have hA3 := (hb3.block w.heap.size (by omega)).trans HA.out
  have hB3 := (hb3.block (w.heap.size + 1) (by omega)).trans HB.out
  have HCK : Hid (Ck w (w.heap.size + 2) W3 (w.heap.size + 2) G.lone 0) := hide ⟨by omega, Nat.le_refl _, HB2.out.trans (hb3.mono HB2.out.size), hC⟩
  have HC := hide (HFT.out _ W3 HCK.out)
  have HA3 := hide hA3
  have HB3 := hide hB3
  have n0 : W3.cell? ⟨w.heap.size + 1, 0, none⟩ = some (.int .i64 k) := (Lib.cell_of_heap hB3 0).trans rfl
  have n1 : W3.cell? ⟨w.heap.size + 1, 1, none⟩ = some (.int .i64 o) := (Lib.cell_of_heap hB3 1).trans rfl
  have n2 : W3.cell? ⟨w.heap.size + 1, 2, none⟩ = some (.string nm) := (Lib.cell_of_heap hB3 2).trans rfl
  have n3 : W3.cell? ⟨w.heap.size + 1, 3, none⟩ = some (.slice la1 ll1 lc1) := (Lib.cell_of_heap hB3 3).trans rfl
  have n4 : W3.cell? ⟨w.heap.size + 1, 4, none⟩ = some (.slice la2 ll2 lc2) := (Lib.cell_of_heap hB3 4).trans rfl
  have n5 : W3.cell? ⟨w.heap.size + 1, 5, none⟩ = some (.slice la3 ll3 lc3) := (Lib.cell_of_heap hB3 5).trans rfl
  have n6 : W3.cell? ⟨w.heap.size + 1, 6, none⟩ = some (.int .i64 ps) := (Lib.cell_of_heap hB3 6).trans rfl
  clear hW3 hb3 hC hA3 hB3 HFT HA HB HB2 g12
  go_wp2_with fail
  refine HC.out.mono ?_
  rintro e w4 ⟨rfl, hc4, hk4⟩
  have HA4 := hide (hk4.box HA3.out (by omega))
  have HB4 := hide (hk4.box HB3.out (by omega))
  have HO4 := hide (HCK.out.old.trans (hk4.bel.mono (by omega)))
  have hs4 := hk4.bel.size
  clear hc4 hk4 HC HA3 HB3 HCK n0 n1 n2 n3 n4 n5 n6
  cases fb1 with
  | false =>
    obtain ⟨rfl, rfl⟩ := HZ.out.2 rfl
    go_wp2
    go_ret2
    exact ⟨rfl, HO4.out⟩
  | true =>
    obtain ⟨rfl, rfl⟩ := HZ.out.1 rfl
    have hA4 := HA4.out
    have hB4 := HB4.out
    have g0 : w4.cell? ⟨w.heap.size, 0, none⟩ = some (.slice xa1 xl1 xc1) := (Lib.cell_of_heap hA4 0).trans rfl
    have g1 : w4.cell? ⟨w.heap.size, 1, none⟩ = some (.slice xa2 xl2 xc2) := (Lib.cell_of_heap hA4 1).trans rfl
    have g2 : w4.cell? ⟨w.heap.size, 2, none⟩ = some (.slice xa3 xl3 xc3) := (Lib.cell_of_heap hA4 2).trans rfl
    have g3 : w4.cell? ⟨w.heap.size, 3, none⟩ = some (.string G.outer) := (Lib.cell_of_heap hA4 3).trans rfl
    have g4 : w4.cell? ⟨w.heap.size, 4, none⟩ = some (.string G.power) := (Lib.cell_of_heap hA4 4).trans rfl
    have g5 : w4.cell? ⟨w.heap.size, 5, none⟩ = some (.string G.opn) := (Lib.cell_of_heap hA4 5).trans rfl
    have g6 : w4.cell? ⟨w.heap.size, 6, none⟩ = some (.string G.cls) := (Lib.cell_of_heap hA4 6).trans rfl
    have g7 : w4.cell? ⟨w.heap.size, 7, none⟩ = some (.string G.left) := (Lib.cell_of_heap hA4 7).trans rfl
    have g8 : w4.cell? ⟨w.heap.size, 8, none⟩ = some (.string G.right) := (Lib.cell_of_heap hA4 8).trans rfl
    have g9 : w4.cell? ⟨w.heap.size, 9, none⟩ = some (.string G.minus) := (Lib.cell_of_heap hA4 9).trans rfl
    have g10 : w4.cell? ⟨w.heap.size, 10, none⟩ = some (.string G.quote) := (Lib.cell_of_heap hA4 10).trans rfl
    have g11 : w4.cell? ⟨w.heap.size, 11, none⟩ = some (.bool G.trains) := (Lib.cell_of_heap hA4 11).trans rfl
    have g12 : w4.cell? ⟨w.heap.size, 12, none⟩ = some (.bool G.lone) := (Lib.cell_of_heap hA4 12).trans rfl
    have g13 : w4.cell? ⟨w.heap.size, 13, none⟩ = some (.bool G.square) := (Lib.cell_of_heap hA4 13).trans rfl
    clear hA4 hB4
    go_upto_region 5 with fail
    have hWC : w4.alloc (.cells #[.slice xa1 xl1 xc1, .slice xa2 xl2 xc2, .slice xa3 xl3 xc3, .string G.outer, .string G.power, .string G.opn, .string G.cls, .string G.left, .string G.right, .string G.minus, .string G.quote, .bool G.trains, .bool G.lone, .bool G.square, .string G.right, .bool false, .pointer none, .slice none 0 0] 60) = w4.alloc (.cells (wC G G.right false (.pointer none) (.slice none 0 0)) 60) := by
      unfold wC
      rw [HG3.out.1, HG3.out.2.1, HG3.out.2.2]
    have HWR := hide (Wr.new w4 G G.right)
    rw [← hWC] at HWR
    have hb5 := alloc_one w4 (.cells #[.slice xa1 xl1 xc1, .slice xa2 xl2 xc2, .slice xa3 xl3 xc3, .string G.outer, .string G.power, .string G.opn, .string G.cls, .string G.left, .string G.right, .string G.minus, .string G.quote, .bool G.trains, .bool G.lone, .bool G.square, .string G.right, .bool false, .pointer none, .slice none 0 0] 60)
    have HB5 := hide ((hb5.block _ (by omega)).trans HB4.out)
    have HST : Hid (St w w4.heap.size (w4.alloc (.cells #[.slice xa1 xl1 xc1, .slice xa2 xl2 xc2, .slice xa3 xl3 xc3, .string G.outer, .string G.power, .string G.opn, .string G.cls, .string G.left, .string G.right, .string G.minus, .string G.quote, .bool G.trains, .bool G.lone, .bool G.square, .string G.right, .bool false, .pointer none, .slice none 0 0] 60)) w4.heap.size G G.right false []) := hide ⟨HAM.out _ _ (by omega), HO4.out.trans (hb5.mono HO4.out.size), _, _, HWR.out⟩
    have HK5 := hide (HO4.out.trans (hb5.mono HO4.out.size))
    have HC := hide (HCE.out (by first | rfl | trivial) _ _ _ HST.out)
    obtain ⟨W5, hW5⟩ : ∃ W5, w4.alloc (.cells #[.slice xa1 xl1 xc1, .slice xa2 xl2 xc2, .slice xa3 xl3 xc3, .string G.outer, .string G.power, .string G.opn, .string G.cls, .string G.left, .string G.right, .string G.minus, .string G.quote, .bool G.trains, .bool G.lone, .bool G.square, .string G.right, .bool false, .pointer none, .slice none 0 0] 60) = W5 := ⟨_, rfl⟩
    rw [hW5] at HC HB5 HK5
    try rw [hW5]
    have hB5 := HB5.out
    have n0 : W5.cell? ⟨w.heap.size + 1, 0, none⟩ = some (.int .i64 k) := (Lib.cell_of_heap hB5 0).trans rfl
    have n1 : W5.cell? ⟨w.heap.size + 1, 1, none⟩ = some (.int .i64 o) := (Lib.cell_of_heap hB5 1).trans rfl
    have n2 : W5.cell? ⟨w.heap.size + 1, 2, none⟩ = some (.string nm) := (Lib.cell_of_heap hB5 2).trans rfl
    have n3 : W5.cell? ⟨w.heap.size + 1, 3, none⟩ = some (.slice la1 ll1 lc1) := (Lib.cell_of_heap hB5 3).trans rfl
    have n4 : W5.cell? ⟨w.heap.size + 1, 4, none⟩ = some (.slice la2 ll2 lc2) := (Lib.cell_of_heap hB5 4).trans rfl
    have n5 : W5.cell? ⟨w.heap.size + 1, 5, none⟩ = some (.slice la3 ll3 lc3) := (Lib.cell_of_heap hB5 5).trans rfl
    have n6 : W5.cell? ⟨w.heap.size + 1, 6, none⟩ = some (.int .i64 ps) := (Lib.cell_of_heap hB5 6).trans rfl
    clear hW5 hb5 hB5 HWR HST hWC HA4 HB4 g0 g1 g2 g3 g4 g5 g6 g7 g8 g9 g10 g11 g12 g13
    go_wp2_with fail
    refine HC.out.mono ?_
    rintro e w6 ⟨rfl, ⟨a6, v6, h6⟩, k6⟩
    have HS := hide (string26 h6)
    have HK6 := hide (HK5.out.trans (k6.bel.mono (by omega)))
    have hle := k6.bel.size
    clear h6 k6 HC n0 n1 n2 n3 n4 n5 n6
    go_wp2_with fail
    refine HS.out.mono ?_
    rintro e w7 ⟨rfl, hb7⟩
    have HF := hide (HK6.out.trans (hb7.mono (by omega)))
    clear hb7 HS
    go_wp2
    go_ret2
    refine ⟨?_, HF.out⟩
    simp [sep, str]
end Go.Proofs.YtneblkdkhlgmcaaDoor
namespace Go.Proofs.YtneblkdkhlgmcaaDoor
open Go.ChangeShapes Go.WideShapes Go.ChangeAt Go.RowKit
set_option maxRecDepth 100000
set_option linter.unusedVariables false
set_option linter.unusedSimpArgs false
/-- Whether something is done fewer than 0 times; wh: the kind of the node around. -/
def lowN (lone : Bool) : Nat → Int → Nd → Prop
  | 0, _, _ => False
  | m + 1, wh, x => (x.kind = 26 ∧ x.op < 0 ∧ ¬ (lone = true ∧ wh = 5)) ∨ ∃ i, i < x.kids.length ∧ lowN lone m x.kind (kp x i)
theorem lpM_iff {F : Int → Bool → Int → Nd → Bool × Int} {S : Nat → Nat} {Q : Nat → Prop} {x : Nd}
    (hF : ∀ i, i < x.kids.length → ∀ c, ((F c (fnP x.kind i) x.kind (kp x i)).1 = true ↔ Q i ∧ c + (S i : Nat) ≤ 2048) ∧ ((F c (fnP x.kind i) x.kind (kp x i)).1 = true → (F c (fnP x.kind i) x.kind (kp x i)).2 = c + (S i : Nat)))
    (n j : Nat) (hj : j + n ≤ x.kids.length) (c : Int) (hc : c ≤ 2048) :
    ((lpM F x n j c).1 = true ↔ (∀ i, j ≤ i → i < j + n → Q i) ∧ c + ((sumUp S (j + n) - sumUp S j : Nat) : Int) ≤ 2048) ∧ ((lpM F x n j c).1 = true → (lpM F x n j c).2 = c + ((sumUp S (j + n) - sumUp S j : Nat) : Int)) := by
  induction n generalizing j c with
  | zero =>
    have e : sumUp S (j + 0) - sumUp S j = 0 := by simp
    rw [e]
    refine ⟨⟨fun _ => ⟨fun i h1 h2 => by omega, by omega⟩, fun _ => rfl⟩, fun _ => ?_⟩
    show c = c + _
    omega
  | succ n ih =>
    have h1 := hF j (by omega) c
    have hm : sumUp S (j + 1) ≤ sumUp S (j + 1 + n) := sumUp_le (by omega)
    have hs : sumUp S (j + 1) = sumUp S j + S j := rfl
    have e : j + (n + 1) = j + 1 + n := by omega
    rw [e]
    unfold lpM
    by_cases hb : (F c (fnP x.kind j) x.kind (kp x j)).1 = true
    · rw [if_pos hb]
      have h2 := h1.1.1 hb
      have h3 := h1.2 hb
      have h4 := ih (j + 1) (by omega) (F c (fnP x.kind j) x.kind (kp x j)).2 (by rw [h3]; exact h2.2)
      rw [h3] at h4 ⊢
      refine ⟨⟨fun h => ?_, fun h => ?_⟩, fun h => ?_⟩
      · have h5 := h4.1.1 h
        refine ⟨fun i hi1 hi2 => ?_, ?_⟩
        · by_cases hij : i = j
          · subst hij; exact h2.1
          · exact h5.1 i (by omega) (by omega)
        · have := h5.2
          omega
      · exact h4.1.2 ⟨fun i hi1 hi2 => h.1 i (by omega) (by omega), by have := h.2; omega⟩
      · rw [h4.2 h]
        omega
    · rw [if_neg hb]
      refine ⟨⟨fun h => (by cases h), fun h => ?_⟩, fun h => (by cases h)⟩
      exact absurd (h1.1.2 ⟨h.1 j (Nat.le_refl _) (by omega), by have := h.2; omega⟩) hb
theorem fitM_iff (lone : Bool) (m : Nat) : ∀ c f wh x, c ≤ 2048 → (((fitM lone m c f wh x).1 = true ↔ (okN m f x ∧ ¬ lowN lone m wh x) ∧ c + (sizeN m x : Nat) ≤ 2048) ∧ ((fitM lone m c f wh x).1 = true → (fitM lone m c f wh x).2 = c + (sizeN m x : Nat))) := by
  induction m with
  | zero =>
    intro c f wh x hc
    exact ⟨⟨fun h => (by cases h), fun h => h.1.1.elim⟩, fun h => (by cases h)⟩
  | succ m ih =>
    intro c f wh x hc
    have hsz : sizeN (m + 1) x = 1 + sumUp (fun i => sizeN m (kp x i)) x.kids.length := rfl
    unfold fitM
    by_cases h1 : c + 1 > 2048 ∨ arK x.kind < 0 ∨ f ≠ decide (21 ≤ x.kind) ∨ (x.kids.length : Int) ≠ arK x.kind
    · rw [if_pos h1]
      refine ⟨⟨fun h => (by cases h), fun h => ?_⟩, fun h => (by cases h)⟩
      exfalso
      obtain ⟨⟨⟨k1, k2, k3, k4⟩, -⟩, hs⟩ := h
      rcases h1 with h1 | h1 | h1 | h1
      · rw [hsz] at hs; omega
      · omega
      · exact h1 k2
      · exact h1 k1
    · rw [if_neg h1]
      have g1 : c + 1 ≤ 2048 := Int.not_lt.1 (fun h => h1 (Or.inl h))
      have g3 : f = decide (21 ≤ x.kind) := Decidable.not_not.1 fun e => h1 (Or.inr (Or.inr (Or.inl e)))
      have g4 : (x.kids.length : Int) = arK x.kind := Decidable.not_not.1 fun e => h1 (Or.inr (Or.inr (Or.inr e)))
      have hri : riB lone wh x = true ↔ (x.kind = 1 → litB x.lit = true) ∧ ¬ (x.kind = 26 ∧ x.op < 0 ∧ ¬ (lone = true ∧ wh = 5)) := by
        unfold riB
        by_cases hk1 : x.kind = 1
        · rw [if_pos hk1]
          exact ⟨fun h => ⟨fun _ => h, fun h' => by omega⟩, fun h => h.1 hk1⟩
        · rw [if_neg hk1]
          by_cases hk2 : x.kind = 26
          · rw [if_pos hk2]
            simp only [Bool.or_eq_true, Bool.and_eq_true, decide_eq_true_eq]
            refine ⟨fun h => ⟨fun h' => absurd h' hk1, fun h' => ?_⟩, fun h => ?_⟩
            · rcases h with h | h
              · omega
              · exact h'.2.2 h
            · by_cases ho : 0 ≤ x.op
              · exact Or.inl ho
              · exact Or.inr (Decidable.not_not.1 fun hn => h.2 ⟨hk2, by omega, hn⟩)
          · rw [if_neg hk2]
            exact ⟨fun _ => ⟨fun h' => absurd h' hk1, fun h' => hk2 h'.1⟩, fun _ => rfl⟩
      by_cases h2 : riB lone wh x = false
      · rw [if_pos h2]
        refine ⟨⟨fun h => (by cases h), fun h => ?_⟩, fun h => (by cases h)⟩
        exfalso
        obtain ⟨⟨⟨k1, k2, k3, k4⟩, hl⟩, hs⟩ := h
        have := hri.2 ⟨k3, fun h => hl (Or.inl h)⟩
        rw [h2] at this
        cases this
      · rw [if_neg h2]
        have h2' : riB lone wh x = true := by cases hh : riB lone wh x with
          | true => rfl
          | false => exact absurd hh h2
        have h3 := hri.1 h2'
        have L := lpM_iff (F := fitM lone m) (S := fun i => sizeN m (kp x i)) (Q := fun i => okN m (fnP x.kind i) (kp x i) ∧ ¬ lowN lone m x.kind (kp x i)) (x := x) (fun i hi c => by
          by_cases hcc : c ≤ 2048
          · exact ih c _ _ _ hcc
          · have hf : ¬ (fitM lone m c (fnP x.kind i) x.kind (kp x i)).1 = true := fun h => by
              have := fitM_le lone m c (fnP x.kind i) x.kind (kp x i) h
              omega
            exact ⟨⟨fun h => absurd h hf, fun h => absurd h.2 (by omega)⟩, fun h => absurd h hf⟩) x.kids.length 0 (by omega) (c + 1) g1
        have e0 : sumUp (fun i => sizeN m (kp x i)) (0 + x.kids.length) - sumUp (fun i => sizeN m (kp x i)) 0 = sumUp (fun i => sizeN m (kp x i)) x.kids.length := by rw [Nat.zero_add]; rfl
        rw [e0] at L
        rw [hsz]
        refine ⟨⟨fun h => ?_, fun h => L.1.2 ⟨fun i hi1 hi2 => ⟨h.1.1.2.2.2 i (by omega), fun hl => h.1.2 (Or.inr ⟨i, by omega, hl⟩)⟩, by have := h.2; omega⟩⟩, fun h => by rw [L.2 h]; omega⟩
        have h4 := L.1.1 h
        refine ⟨⟨⟨g4, g3, h3.1, fun i hi => (h4.1 i (Nat.zero_le _) (by omega)).1⟩, fun hl => ?_⟩, by have := h4.2; omega⟩
        rcases hl with hl | ⟨i, hi, hl⟩
        · exact h3.2 hl
        · exact (h4.1 i (Nat.zero_le _) (by omega)).2 hl
/-- What Write tells, in the document's words. -/
theorem wrB_iff (G : Gs) (m : Nat) (x : Nd) : wrB G m x = true ↔ (sizeN m x ≤ 2048 ∧ okN m false x) ∧ ¬ lowN G.lone m 0 x := by
  unfold wrB
  rw [(fitM_iff G.lone m 0 false 0 x (by decide)).1]
  constructor
  · rintro ⟨⟨h1, h2⟩, h3⟩; exact ⟨⟨by omega, h1⟩, h2⟩
  · rintro ⟨⟨h3, h1⟩, h2⟩; exact ⟨⟨h1, h2⟩, by omega⟩
/-- A kid's own number of times is asked of it unless the node around says how it is written. -/
theorem low_kid {lone : Bool} {m : Nat} {wh : Int} {x : Nd} (h : ¬ (lone = true ∧ wh = 5 ∧ x.kind = 26)) : lowN lone m wh x ↔ lowN lone m 0 x := by
  cases m with
  | zero => exact Iff.rfl
  | succ m =>
    unfold lowN
    constructor
    · rintro (⟨h1, h2, h3⟩ | h1)
      · exact Or.inl ⟨h1, h2, fun h' => absurd h'.2 (by decide)⟩
      · exact Or.inr h1
    · rintro (⟨h1, h2, h3⟩ | h1)
      · exact Or.inl ⟨h1, h2, fun h' => h ⟨h'.1, h'.2, h1⟩⟩
      · exact Or.inr h1
theorem low_in {lone : Bool} {m : Nat} {x : Nd} (hl : lone = true) (hk : x.kind = 26) (h1 : x.kids.length = 1) : lowN lone (m + 1) 5 x ↔ lowN lone m 0 (kp x 0) := by
  have e : lowN lone (m + 1) 5 x ↔ (x.kind = 26 ∧ x.op < 0 ∧ ¬ (lone = true ∧ (5 : Int) = 5)) ∨ ∃ i, i < x.kids.length ∧ lowN lone m x.kind (kp x i) := Iff.rfl
  rw [e, hk]
  constructor
  · rintro (⟨_, _, h3⟩ | ⟨i, hi, h4⟩)
    · exact absurd ⟨hl, rfl⟩ h3
    · have : i = 0 := by omega
      subst this
      exact (low_kid (fun h => absurd h.2.1 (by decide))).1 h4
  · intro h
    exact Or.inr ⟨0, by omega, (low_kid (fun h => absurd h.2.1 (by decide))).2 h⟩
theorem low_deeper {lone : Bool} {m : Nat} {f : Bool} {wh : Int} {x : Nd} (h : okN m f x) : lowN lone (m + 1) wh x ↔ lowN lone m wh x := by
  induction m generalizing f wh x with
  | zero => exact h.elim
  | succ m ih =>
    obtain ⟨h1, h2, h3, h4⟩ := h
    show ((x.kind = 26 ∧ x.op < 0 ∧ ¬ (lone = true ∧ wh = 5)) ∨ ∃ i, i < x.kids.length ∧ lowN lone (m + 1) x.kind (kp x i)) ↔ ((x.kind = 26 ∧ x.op < 0 ∧ ¬ (lone = true ∧ wh = 5)) ∨ ∃ i, i < x.kids.length ∧ lowN lone m x.kind (kp x i))
    constructor
    · rintro (h | ⟨i, hi, h⟩)
      · exact Or.inl h
      · exact Or.inr ⟨i, hi, (ih (h4 i hi)).1 h⟩
    · rintro (h | ⟨i, hi, h⟩)
      · exact Or.inl h
      · exact Or.inr ⟨i, hi, (ih (h4 i hi)).2 h⟩
end Go.Proofs.YtneblkdkhlgmcaaDoor
