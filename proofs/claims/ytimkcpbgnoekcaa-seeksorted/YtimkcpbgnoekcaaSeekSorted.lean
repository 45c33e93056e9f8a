/-
  For all arrays the statement SeekSorted holds: items looked up by their order rise, or fall, and each of them is there; no condition (the given row speaks of what a machine of 64 bits can hold).
-/
import Derived.Test.YtimkcpbgnoekcaaM9
import Derived.Test.YtimkcpbgnoekcaaChecked
import GoSem.Claim
import GoSem.ClaimJoined
import GoSem.ClaimMapViews
import Derived.JoinedTies
import Derived.KernelRfl
import Derived.WalkKit
import Derived.ProofKit
import Derived.Below
import Derived.Deep.OwnRows
import Derived.Deep.QuietTactic
import Derived.BigQuiet
import Derived.Deep.RegionWith
import Derived.Laws.MakeOwn
import Derived.Deep.RegionHeld3
import Derived.Laws.IdiomCopy
import Derived.Deep.Cut
import Derived.Deep.LoopGhost
import Derived.OpenShut
import Derived.ChangeOld
import Derived.SizedLaws
import Derived.Deep.Slices
import Derived.Deep.Strs
import Derived.Laws.AppendOwn
import Derived.BigFrame
import Derived.Deep.CutRange
import Derived.Deep.RegionLaw
import Derived.Laws.OwnMore
import Derived.Lib.SliceRun
import Derived.Laws.CopyOwn
import Derived.Lib.Mul64
import Derived.Lib.Overlaps
import Derived.Laws.EntriesVeiled
namespace Go.Proofs.Ytimkcpbgnoekcaa.seekSorted
open Go.ChangeShapes Go.WideShapes Go.ChangeAt Go.RowKit
set_option linter.unusedVariables false
set_option maxRecDepth 100000
set_option maxHeartbeats 8000000 in
theorem walk (n : Nat) (x : Ar) (d0 d1 : Value) (down : Bool) (w : World) (hx : ArIn n 0 w x (.agg #[d0, d1])) (hcap : Caps (.agg #[d0, d1])) :
    Calls Try.prog 5 #[.agg #[d0, d1], .bool down] w fun e w' => e = .returned (.bool true) ∧ Below w.heap.size w w' := by
  cases n with
  | zero => exact hx.elim
  | succ n =>
  obtain ⟨a1, c1, a2, c2, hv, -⟩ := hx.form
  simp only [Value.agg.injEq, Array.mk.injEq, List.cons.injEq, and_true] at hv
  obtain ⟨rfl, rfl⟩ := hv
  have HX0 := hide hx
  have HX : Hid (∀ W, Below w.heap.size w W → ArIn (n + 1) 0 W x (.agg #[.slice a1 x.shape.length c1, .slice a2 x.cells.length c2])) := fun W h => hx.next h
  have HCAP := hide hcap
  obtain ⟨SA, hSA⟩ : ∃ SA, x.shape.length = SA := ⟨_, rfl⟩
  obtain ⟨CA, hCA⟩ : ∃ CA, x.cells.length = CA := ⟨_, rfl⟩
  simp only [hSA, hCA] at hx HX HX0 HCAP ⊢
  have HLN := hide (And.intro hSA hCA)
  clear hSA hCA
  obtain ⟨W1, e1⟩ : ∃ W1, w.alloc (.cells #[.slice a1 SA c1, .slice a2 CA c2] 25) = W1 := ⟨_, rfl⟩
  have b1 : Below w.heap.size w W1 := by rw [← e1]; exact one_alloc _ _
  have z1 : W1.heap.size = w.heap.size + 1 := by rw [← e1]; simp
  have q0 : W1.cell? ⟨w.heap.size, 0, none⟩ = some (.slice a1 SA c1) := by rw [← e1]; exact cell_new0 w _ 25 0 _ rfl
  have q1 : W1.cell? ⟨w.heap.size, 1, none⟩ = some (.slice a2 CA c2) := by rw [← e1]; exact cell_new0 w _ 25 1 _ rfl
  have fq : ∀ i, W1.frozen? ⟨w.heap.size, i, none⟩ = false := fun i => by rw [← e1]; exact frozen_new _ _ _ _
  have HQ : Hid (∀ W, Below W1.heap.size W1 W → Below w.heap.size w W ∧ W.cell? ⟨w.heap.size, 0, none⟩ = some (.slice a1 SA c1) ∧ W.cell? ⟨w.heap.size, 1, none⟩ = some (.slice a2 CA c2)) := fun W h => ⟨b1.trans (h.mono b1.size), (h.cell (p := ⟨w.heap.size, 0, none⟩) (by show w.heap.size < _; omega)).trans q0, (h.cell (p := ⟨w.heap.size, 1, none⟩) (by show w.heap.size < _; omega)).trans q1⟩
  have HZ1 := hide (And.intro z1 fq)
  have HW : Hid (∀ W, Below w.heap.size w W → Calls Try.prog 9 #[] W fun e w' => e = .returned (.bool true) ∧ Below w.heap.size w w') := fun W h => (sworks_any W).mono fun e w' ⟨he, hw⟩ => ⟨he, h.trans (hw.mono h.size)⟩
  have C0 := slight_any (HX.out _ b1)
  clear hx hcap b1 z1 fq
  go_enter Try.func5, Try.ntmps5
  go_wp2_with fail
  clear e1
  refine C0.mono ?_
  clear C0 q0 q1
  rintro e w2 ⟨⟨r, rfl⟩, hb2⟩
  have HB2 := hide hb2
  obtain ⟨n2, t0, t1⟩ := HQ.out w2 hb2
  have CW := HW.out w2 n2
  have C1 := narrow_any (HX.out _ n2)
  clear hb2 n2
  cases r with
  | false =>
    clear C1
    go_wp2_with fail
    refine CW.mono ?_
    rintro e w9 ⟨rfl, hb9⟩
    have HF := hide hb9
    clear hb9 CW
    go_wp2
    go_ret
    exact ⟨rfl, HF.out⟩
  | true =>
  clear CW
  go_wp2_with fail
  refine C1.mono ?_
  clear C1 t0 t1
  rintro e w3 ⟨⟨r, rfl⟩, hb3⟩
  have hb3' : Below W1.heap.size W1 w3 := HB2.out.trans (hb3.mono HB2.out.size)
  obtain ⟨n3, t0, t1⟩ := HQ.out w3 hb3'
  have CW := HW.out w3 n3
  have HB3 := hide hb3'
  have C2 := rcheck_any (n + 1) x _ _ w3 (HX.out _ n3)
  clear hb3 hb3' n3 HB2
  cases r with
  | false =>
    clear C2
    go_wp2_with fail
    refine CW.mono ?_
    rintro e w9 ⟨rfl, hb9⟩
    have HF := hide hb9
    clear hb9 CW
    go_wp2
    go_ret
    exact ⟨rfl, HF.out⟩
  | true =>
  clear CW
  obtain ⟨E, hE⟩ : ∃ E, chkA 8 x = E := ⟨_, rfl⟩
  rw [hE] at C2
  go_wp2_with fail
  refine C2.mono ?_
  clear C2 t0 t1
  rintro e w4 ⟨rfl, hb4⟩
  have hb4' : Below W1.heap.size W1 w4 := HB3.out.trans (hb4.mono HB3.out.size)
  obtain ⟨n4, t0, t1⟩ := HQ.out w4 hb4'
  have CW := HW.out w4 n4
  have HB4 := hide (And.intro hb4' n4)
  clear hb4 hb4' n4 HB3
  by_cases hE0 : E = 0
  case neg =>
    have hEb : (E != 0) = true := by simp; exact hE0
    clear hE
    go_wp2_with fail
    refine CW.mono ?_
    rintro e w9 ⟨rfl, hb9⟩
    have HF := hide hb9
    clear hb9 CW
    go_wp2
    go_ret
    exact ⟨rfl, HF.out⟩
  subst hE0
  clear CW
  have HE := hide hE
  clear hE
  cases down
  case false =>
    have C3 := smo_12 (op := 0) (HX.out w4 HB4.out.2) HE.out HCAP.out
    by_cases hS0 : x.shape.length = 0
    case pos =>
      rw [show gradR false n x = (zeroA, 6) by unfold gradR; rw [if_pos hS0]] at C3
      have HT4 := hide (zeroA_in n 0 w4)
      go_wp2_with fail
      refine C3.mono ?_
      clear C3 t0 t1
      rintro e w5 ⟨⟨v5, rfl, hv5⟩, hb5⟩
      obtain ⟨u1, k1, u2, k2, rfl, -, -⟩ := hv5.form
      have hn5 : Below w.heap.size w w5 := HB4.out.2.trans (hb5.mono HB4.out.2.size)
      generalize zeroA.shape.length = SZ at *
      generalize zeroA.cells.length = CZ at *
      obtain ⟨W6, e6⟩ : ∃ W6, w5.alloc (.cells #[.slice u1 SZ k1, .slice u2 CZ k2] 25) = W6 := ⟨_, rfl⟩
      have CW := HW.out W6 (by rw [← e6]; exact hn5.alloc hn5.size _)
      have HE6 := hide e6
      clear hv5 hb5 hn5 e6
      go_upto_region 7 with fail
      rw [HE6.out]
      clear HE6
      go_wp2_with fail
      refine CW.mono ?_
      rintro e w9 ⟨rfl, hb9⟩
      have HF := hide hb9
      clear hb9 CW
      go_wp2
      go_ret
      exact ⟨rfl, HF.out⟩
    have hS : 0 < x.shape.length := by omega
    by_cases hAK : allK 0 x.cells = false ∧ allK 1 x.cells = false
    case pos =>
      rw [show gradR false n x = (zeroA, 5) by unfold gradR; rw [if_neg hS0, if_pos hAK]] at C3
      have HT4 := hide (zeroA_in n 0 w4)
      go_wp2_with fail
      refine C3.mono ?_
      clear C3 t0 t1
      rintro e w5 ⟨⟨v5, rfl, hv5⟩, hb5⟩
      obtain ⟨u1, k1, u2, k2, rfl, -, -⟩ := hv5.form
      have hn5 : Below w.heap.size w w5 := HB4.out.2.trans (hb5.mono HB4.out.2.size)
      generalize zeroA.shape.length = SZ at *
      generalize zeroA.cells.length = CZ at *
      obtain ⟨W6, e6⟩ : ∃ W6, w5.alloc (.cells #[.slice u1 SZ k1, .slice u2 CZ k2] 25) = W6 := ⟨_, rfl⟩
      have CW := HW.out W6 (by rw [← e6]; exact hn5.alloc hn5.size _)
      have HE6 := hide e6
      clear hv5 hb5 hn5 e6
      go_upto_region 7 with fail
      rw [HE6.out]
      clear HE6
      go_wp2_with fail
      refine CW.mono ?_
      rintro e w9 ⟨rfl, hb9⟩
      have HF := hide hb9
      clear hb9 CW
      go_wp2
      go_ret
      exact ⟨rfl, HF.out⟩
    obtain ⟨wdA, wdB, wdC, wdD, wdE⟩ := wid HE.out hS
    obtain ⟨g, hblk⟩ := blk_exists (byD_ord false n x (nW x))
    have hself := (byD_full false n x).self
    have hgr : ∀ s, s < nW x → 0 ≤ g s ∧ g s < (nW x : Int) := fun s hs => by have := hblk.2 s (Nat.zero_le _) hs; omega
    have hSL := sortL_is (byD_ord false n x (nW x)) hself hblk
    rw [show gradR false n x = (numsA ((List.range (nW x)).map g), 0) by unfold gradR; rw [if_neg hS0, if_neg hAK, hSL]] at C3
    have HLK := hide (look_sort HE.out hS hgr)
    have HCN : Hid (chkA 8 (numsA ((List.range (nW x)).map g)) = 0) := chk_nums _ (by simp; exact wdD)
    have HINJ : Hid (∀ s t, s < nW x → t < nW x → g s = g t → s = t) := fun s t hs ht e => blk_inj hblk hself hs ht e
    have HLT : Hid (∀ s, s + 1 < nW x → ltc (byD false n x) (g s) (g (s + 1))) := fun s hs => hblk.1 s (s + 1) (Nat.zero_le _) (by omega) hs
    have HGR := hide hgr
    obtain ⟨LL, hLL⟩ : ∃ LL, (List.range (nW x)).map g = LL := ⟨_, rfl⟩
    have hLn : LL.length = nW x := by rw [← hLL]; simp
    have HLG : Hid (∀ s, s < nW x → LL[s]?.getD 0 = g s) := fun s hs => by rw [← hLL]; simp [hs]
    have HGG : Hid (∀ s, s < nW x → gI LL s = g s) := fun s hs => HLG.out s hs
    rw [hLL] at C3 HLK HCN
    obtain ⟨hUm, hUn, hUc, hUs⟩ := items_wid x LL
    rw [hLn] at hUn hUc
    have hUl : (itmsA x (mW x) LL 0 0).shape.length = x.shape.length := by show (List.length (_ :: x.shape.tail)) = _; rw [List.length_cons, List.length_tail]; omega
    have hUt : (itmsA x (mW x) LL 0 0).shape.tail = x.shape.tail := rfl
    have HSM : Hid (∀ i k : Nat, i < nW x → k < nW x → cmpA (n + 1) (itemAt (itmsA x (mW x) LL 0 0) i (mW x)) (itemAt (itmsA x (mW x) LL 0 0) k (mW x)) = byI n x.cells (mW x) (g i) (g k)) := fun i k hi hk => by
      have hw : ∀ t, t < LL.length → 0 ≤ gI LL t ∧ gI LL t < (nW x : Int) := fun t ht => by rw [hLn] at ht; rw [HGG.out t ht]; exact hgr t ht
      rw [item_items HE.out hS hw (by rw [hLn]; exact hi), item_items HE.out hS hw (by rw [hLn]; exact hk), HGG.out i hi, HGG.out k hk, same_byI HE.out hS (by have := hgr i hi; omega) (by have := hgr k hk; omega), Int.toNat_of_nonneg (hgr i hi).1, Int.toNat_of_nonneg (hgr k hk).1]
    have hchU : chkA 8 (itmsA x (mW x) LL 0 0) = 0 := items_chk HE.out hS (fun t ht => by rw [hLn] at ht; rw [HGG.out t ht]; exact hgr t ht) (by rw [hLn]; exact Nat.le_refl _)
    have HU16 := hide (And.intro (chk_len hchU).1 (chk_len hchU).2)
    have HO : Hid (∀ s, s + 1 < nW x → byI n x.cells (mW x) (g s) (g (s + 1)) < 0 ∨ (byI n x.cells (mW x) (g s) (g (s + 1)) = 0 ∧ g s < g (s + 1))) := fun s hs => by
      have h1 := HLT.out s hs
      have ha := (byI_full n x.cells (mW x)).anti (g s) (g (s + 1))
      have e : byD false n x (g s) (g (s + 1)) = byI n x.cells (mW x) (g s) (g (s + 1)) := rfl
      unfold ltc at h1
      rw [e] at h1
      omega
    obtain ⟨b, off, hb1, hbl, hcl⟩ := row_at (by
      obtain ⟨_, _, _, _, hvx, Rx, -⟩ := (HX.out w (Below.refl _ _)).form
      simp only [Value.agg.injEq, Array.mk.injEq, List.cons.injEq, Value.slice.injEq, and_true] at hvx
      rw [← hvx.1.1] at Rx
      exact Rx : Row 0 w a1 x.shape) (j := 0) hS
    subst hb1
    have hn0 : w.cell? ⟨b, off, none⟩ = some (.int .i64 (nW x : Int)) := by rw [← wdA]; exact hcl
    have HN0 := hide (And.intro hn0 hbl)
    have HWD := hide (And.intro wdB (And.intro hUt (And.intro hUc (And.intro hUl hS))))
    obtain ⟨U, hU⟩ : ∃ U, itmsA x (mW x) LL 0 0 = U := ⟨_, rfl⟩
    rw [hU] at HLK
    simp only [hU] at HSM HU16 HWD
    obtain ⟨c, hc⟩ : ∃ c, byI n x.cells (mW x) = c := ⟨_, rfl⟩
    simp only [hc] at HSM HO
    obtain ⟨M, hM⟩ : ∃ M, mW x = M := ⟨_, rfl⟩
    obtain ⟨N, hN⟩ : ∃ N, nW x = N := ⟨_, rfl⟩
    simp only [hM, hN] at HSM HO HWD HN0 HINJ HGR HLG hLn wdD
    have hNM : N * M ≤ 16384 := by have := HU16.out.2; rw [HWD.out.2.2.1] at this; exact this
    have hSAl := HLN.out.1
    have hSAz : (0 : Int) < (SA : Int) := by omega
    have HDY : Hid (∀ W (u1 u2 : Option Addr) (k1 k2 : Nat), Below w.heap.size w W → ArIn (n + 1) 0 W (numsA LL) (.agg #[.slice u1 1 k1, .slice u2 N k2]) → Calls Try.prog 17 #[.int .i64 52, .agg #[.slice u1 1 k1, .slice u2 N k2], .agg #[.slice (some ⟨b, off, none⟩) SA c1, .slice a2 CA c2]] W fun e w' => Gives2K (n + 1) W U 0 W e w') := fun W u1 u2 k1 k2 h hu => by
      have := rdy_52 hu (HX.out W h) HCN.out HE.out HCAP.out
      rw [HLK.out] at this
      exact this
    have HSL : Hid (LL.length = N) := hLn
    clear hS0 hS hAK wdA wdB wdC wdE hblk hself hgr hSL HLT hLL hUm hUn hUc hUs hUl hUt hchU hbl hcl hn0 hU hc hM hN HLK HCN HX HX0 HGG hLn
    go_wp2_with fail
    refine C3.mono ?_
    clear C3 t0 t1
    rintro e w5 ⟨⟨v5, rfl, hv5⟩, hb5⟩
    obtain ⟨u1, k1, u2, k2, rfl, -, -⟩ := hv5.form
    have hl1 : (numsA LL).shape.length = 1 := rfl
    have hl2 : (numsA LL).cells.length = N := by show (numCs 0 LL).length = N; rw [numCs_len, HSL.out]
    simp only [hl1, hl2] at hv5 ⊢
    clear hl1 hl2
    obtain ⟨B6, hB6⟩ : ∃ B6, w5.heap.size = B6 := ⟨_, rfl⟩
    obtain ⟨W6, e6⟩ : ∃ W6, w5.alloc (.cells #[.slice u1 1 k1, .slice u2 N k2] 25) = W6 := ⟨_, rfl⟩
    have b56 : Below w5.heap.size w5 W6 := by rw [← e6]; exact one_alloc _ _
    have z6 : B6 < W6.heap.size := by rw [← e6, ← hB6]; simp
    have r0 : W6.cell? ⟨B6, 0, none⟩ = some (.slice u1 1 k1) := by rw [← e6, ← hB6]; exact cell_new0 w5 _ 25 0 _ rfl
    have r1 : W6.cell? ⟨B6, 1, none⟩ = some (.slice u2 N k2) := by rw [← e6, ← hB6]; exact cell_new0 w5 _ 25 1 _ rfl
    have hb16 : Below W1.heap.size W1 W6 := (HB4.out.1.trans (hb5.mono HB4.out.1.size)).trans (b56.mono (Nat.le_trans HB4.out.1.size hb5.size))
    have hA6 : ArIn (n + 1) 0 W6 (numsA LL) (.agg #[.slice u1 1 k1, .slice u2 N k2]) := (hv5.mono (Nat.zero_le _) (Below.refl _ _)).next b56
    have K6 : Hid (∀ W, Below W6.heap.size W6 W → (Below w.heap.size w W ∧ W.cell? ⟨w.heap.size, 0, none⟩ = some (.slice (some ⟨b, off, none⟩) SA c1) ∧ W.cell? ⟨w.heap.size, 1, none⟩ = some (.slice a2 CA c2)) ∧ W.cell? ⟨b, off, none⟩ = some (.int .i64 (N : Int)) ∧ W.cell? ⟨B6, 0, none⟩ = some (.slice u1 1 k1) ∧ W.cell? ⟨B6, 1, none⟩ = some (.slice u2 N k2) ∧ ∀ s, s < N → ∃ bg fg, u2 = some ⟨bg, fg, none⟩ ∧ W.cell? ⟨bg, fg + s * 3 + 1, none⟩ = some (.int .i64 (g s))) := fun W h => by
      have hq := HQ.out W (hb16.trans (h.mono hb16.size))
      refine ⟨hq, (hq.1.cell (p := ⟨b, off, none⟩) HN0.out.2).trans HN0.out.1, (h.cell (p := ⟨B6, 0, none⟩) z6).trans r0, (h.cell (p := ⟨B6, 1, none⟩) z6).trans r1, fun s hs => ?_⟩
      obtain ⟨bg, fg, hu, hb, hcl⟩ := num_at hA6 s (by rw [HSL.out]; exact hs)
      exact ⟨bg, fg, hu, (h.cell (p := ⟨bg, fg + s * 3 + 1, none⟩) hb).trans (hcl.trans (by rw [HLG.out s hs]))⟩
    obtain ⟨⟨n6, t0, t1⟩, -⟩ := K6.out W6 (Below.refl _ _)
    have C4 := HDY.out W6 u1 u2 k1 k2 n6 hA6
    have HE6 := hide (And.intro e6 hB6)
    clear hv5 hb5 e6 hB6 b56 z6 hb16 hA6 n6 HDY HLG
    go_upto_region 7 with fail
    rw [HE6.out.1, HE6.out.2]
    clear HE6
    go_wp2_with fail
    refine C4.mono ?_
    clear C4 t0 t1 r0 r1
    rintro e w7 ⟨⟨v7, rfl, kv7, hv7⟩, hb7⟩
    obtain ⟨p1, j1, p2, j2, rfl, -, -⟩ := (hv7 w7 hb7 (Keeps.refl _ _)).form
    have hl1 : U.shape.length = SA := by rw [HWD.out.2.2.2.1]; exact hSAl
    obtain ⟨CU, hCU⟩ : ∃ CU, U.cells.length = CU := ⟨_, rfl⟩
    simp only [hl1, hCU] at hv7 kv7 ⊢
    obtain ⟨B8, hB8⟩ : ∃ B8, w7.heap.size = B8 := ⟨_, rfl⟩
    obtain ⟨W8, e8⟩ : ∃ W8, w7.alloc (.cells #[.slice p1 SA j1, .slice p2 CU j2] 25) = W8 := ⟨_, rfl⟩
    have b78 : Below w7.heap.size w7 W8 := by rw [← e8]; exact one_alloc _ _
    have z8 : B8 < W8.heap.size := by rw [← e8, ← hB8]; simp
    have s0 : W8.cell? ⟨B8, 0, none⟩ = some (.slice p1 SA j1) := by rw [← e8, ← hB8]; exact cell_new0 w7 _ 25 0 _ rfl
    have s1 : W8.cell? ⟨B8, 1, none⟩ = some (.slice p2 CU j2) := by rw [← e8, ← hB8]; exact cell_new0 w7 _ 25 1 _ rfl
    have hb68 : Below W6.heap.size W6 W8 := hb7.trans (b78.mono hb7.size)
    have K8 : Hid (∀ W, Below W8.heap.size W8 W → ((Below w.heap.size w W ∧ W.cell? ⟨w.heap.size, 0, none⟩ = some (.slice (some ⟨b, off, none⟩) SA c1) ∧ W.cell? ⟨w.heap.size, 1, none⟩ = some (.slice a2 CA c2)) ∧ W.cell? ⟨b, off, none⟩ = some (.int .i64 (N : Int)) ∧ W.cell? ⟨B6, 0, none⟩ = some (.slice u1 1 k1) ∧ W.cell? ⟨B6, 1, none⟩ = some (.slice u2 N k2) ∧ ∀ s, s < N → ∃ bg fg, u2 = some ⟨bg, fg, none⟩ ∧ W.cell? ⟨bg, fg + s * 3 + 1, none⟩ = some (.int .i64 (g s))) ∧ W.cell? ⟨B8, 0, none⟩ = some (.slice p1 SA j1) ∧ W.cell? ⟨B8, 1, none⟩ = some (.slice p2 CU j2) ∧ ArIn (n + 1) 0 W U (.agg #[.slice p1 SA j1, .slice p2 CU j2])) := fun W h => ⟨K6.out W (hb68.trans (h.mono hb68.size)), (h.cell (p := ⟨B8, 0, none⟩) z8).trans s0, (h.cell (p := ⟨B8, 1, none⟩) z8).trans s1, hv7 W (hb68.trans (h.mono hb68.size)) (keeps_below (b78.trans (h.mono b78.size)))⟩
    obtain ⟨⟨⟨n8, t0, -⟩, nN, -, r1, -⟩, -, -, hU8⟩ := K8.out W8 (Below.refl _ _)
    have HCU := hide kv7
    have HCUn : Hid (CU = N * M) := by unfold Hid; rw [← hCU]; exact HWD.out.2.2.1
    have HE8 := hide (And.intro e8 hB8)
    clear hv7 kv7 hb7 e8 hB8 b78 z8 hb68 s0 s1 n8 hU8 K6
    go_upto_region 10 with fail
    rw [HE8.out.1, HE8.out.2]
    clear HE8
    have HL10 : Hid (∀ m : Nat, Below W8.heap.size W8 (W8.drewN m)) := fun m => drewN_below (Below.refl _ _) m
    go_cut [63] from 52 to 63 (fun s wx => s = .bool false ∧ Below W8.heap.size W8 wx)
    case first =>
      go_quiet (fail)
      all_goals
        go_wp2
        go_meet
      all_goals
        case rel => exact ⟨rfl, HL10.out _⟩
    case rest =>
    obtain ⟨rfl, hbc⟩ := hcut
    obtain ⟨w9, hw9⟩ : ∃ w9, w9 = wc := ⟨_, rfl⟩
    rw [← hw9] at hbc ⊢
    clear hw9 t0 nN r1 HL10
    obtain ⟨⟨⟨-, t0, -⟩, nN, -, r1, -⟩, -⟩ := K8.out w9 hbc
    obtain ⟨bm, hbm⟩ : ∃ bm, w9.heap.size = bm := ⟨_, rfl⟩
    have mk := run_make_row' (P := Try.prog) 36 4 (.bool false) 1 Try.underlying36 info4 rfl .i64 .i64 N (by omega) (by omega)
    obtain ⟨W10, e10⟩ : ∃ W10, w9.alloc (.cells (madeCells #[.bool false] N) 4) = W10 := ⟨_, rfl⟩
    have rm : W10.rowIs bm 4 N (fun _ => .bool false) := by rw [← e10, ← hbm]; exact World.rowIs_made w9 (.bool false) N 4
    have B10 : Below bm w9 W10 := by rw [← e10, ← hbm]; exact one_alloc _ _
    have S0 : StV w9 bm N (fun i => .bool false) W10 := ⟨B10, by rw [← e10]; simp [hbm], fun i hi => ⟨by have := rm.cell (i := i) hi; simpa using this, rm.frozen i⟩⟩
    have HS0 := hide S0
    have HE10 := hide (And.intro e10 hbm)
    have K9 : Hid (∀ W, Below bm w9 W → ((Below w.heap.size w W ∧ W.cell? ⟨w.heap.size, 0, none⟩ = some (.slice (some ⟨b, off, none⟩) SA c1) ∧ W.cell? ⟨w.heap.size, 1, none⟩ = some (.slice a2 CA c2)) ∧ W.cell? ⟨b, off, none⟩ = some (.int .i64 (N : Int)) ∧ W.cell? ⟨B6, 0, none⟩ = some (.slice u1 1 k1) ∧ W.cell? ⟨B6, 1, none⟩ = some (.slice u2 N k2) ∧ ∀ s, s < N → ∃ bg fg, u2 = some ⟨bg, fg, none⟩ ∧ W.cell? ⟨bg, fg + s * 3 + 1, none⟩ = some (.int .i64 (g s))) ∧ W.cell? ⟨B8, 0, none⟩ = some (.slice p1 SA j1) ∧ W.cell? ⟨B8, 1, none⟩ = some (.slice p2 CU j2) ∧ ArIn (n + 1) 0 W U (.agg #[.slice p1 SA j1, .slice p2 CU j2])) := fun W h => by
      rw [← hbm] at h
      exact K8.out W (hbc.trans (h.mono hbc.size))
    clear S0 B10 rm e10 hbm hbc K8
    go_wp2
    rw [HE10.out.1, HE10.out.2]
    clear mk t0 nN r1 HE10
    go_loopg [11] N (fun gg iv wr => ∃ (i : Nat) (f : Nat → Value), gg + i = N ∧ iv = .int .i64 (i : Int) ∧ StV w9 bm N f wr ∧ ∀ k, k < N → f k = .bool (decide (∃ s, s < i ∧ g s = (k : Int))))
    case atStart => exact ⟨0, _, rfl, rfl, HS0.out, fun k hk => by simp⟩
    case round =>
      clear HS0
      obtain ⟨i, f, hg, rfl, hs, hf⟩ := hrel
      obtain ⟨⟨⟨bw, t0, t1⟩, nN, r0, r1, hgs⟩, s0, s1, -⟩ := K9.out wr hs.bel
      by_cases hlt : i < N
      · have hltz : (i : Int) < (N : Int) := by omega
        obtain ⟨bg, fg, rfl, cg⟩ := hgs i hlt
        have hgi := HGR.out i hlt
        obtain ⟨G, hG⟩ : ∃ G : Nat, g i = (G : Int) := ⟨(g i).toNat, by omega⟩
        have hGN : G < N := by omega
        have hGNz : (G : Int) < (N : Int) := by omega
        rw [hG] at cg
        obtain ⟨c0, f0⟩ := hs.row G hGN
        have hfG : f G = .bool false := by
          rw [hf G hGN]
          congr 1
          rw [decide_eq_false_iff_not]
          rintro ⟨s, hs1, hs2⟩
          have := HINJ.out s i (by omega) hlt (by rw [hs2, hG])
          omega
        rw [hfG] at c0
        have HN : Hid (∀ w8, Below (wr.setCell ⟨bm, G, none⟩ (.bool true)).heap.size (wr.setCell ⟨bm, G, none⟩ (.bool true)) w8 → StV w9 bm N (fun k => if k = G then .bool true else f k) w8) := fun w8 h8 => by
          have hst : StV w9 bm N (fun k => if k = G then .bool true else f k) (wr.setCell ⟨bm, G, none⟩ (.bool true)) := hs.set hGN _ fun x hx => rfl
          refine ⟨hst.bel.trans (h8.mono (Nat.le_of_lt hst.lt)), Nat.lt_of_lt_of_le hst.lt h8.size, fun k hk => ⟨(h8.cell (p := ⟨bm, k, none⟩) hst.lt).trans (hst.row k hk).1, (h8.frozen (p := ⟨bm, k, none⟩) hst.lt).trans (hst.row k hk).2⟩⟩
        have HFN : Hid (∀ k, k < N → (if k = G then Value.bool true else f k) = .bool (decide (∃ s, s < i + 1 ∧ g s = (k : Int)))) := fun k hk => by
          by_cases e : k = G
          · rw [if_pos e]
            congr 1
            symm
            rw [decide_eq_true_eq]
            exact ⟨i, by omega, by rw [hG, e]⟩
          · rw [if_neg e, hf k hk]
            congr 1
            rw [decide_eq_decide]
            constructor
            · rintro ⟨s, h1, h2⟩; exact ⟨s, by omega, h2⟩
            · rintro ⟨s, h1, h2⟩
              refine ⟨s, ?_, h2⟩
              by_cases es : s = i
              · rw [es, hG] at h2; omega
              · omega
        have hGz : ¬ (G : Int) < 0 := by omega
        have hGz2 : ¬ (N : Int) ≤ (G : Int) := by omega
        by_cases hi0 : i = 0
        · subst hi0
          clear hgs hf hfG hs bw t0 t1 nN r0 s0 s1 hgi hG
          go_wp2
          go_roundg (N - 1)
          case rel => exact ⟨1, _, by omega, by go_num, HN.out _ (Below.refl _ _), HFN.out⟩
          case measure => omega
        · obtain ⟨j, hij⟩ : ∃ j, i = j + 1 := ⟨i - 1, by omega⟩
          have hib : ((i : Int) == 0) = false := beq_eq_false_iff_ne.2 (by omega)
          have hwj : IntKind.i64.wrap ((i : Int) - 1) = (j : Int) := by rw [show (i : Int) - 1 = (j : Int) by omega]; exact IntWalk.i64_in _ ⟨by omega, by omega⟩
          have hjz : (0 : Int) ≤ (j : Int) := by omega
          have hjN : (j : Int) < (N : Int) := by omega
          have hjn : ((j : Int)).toNat = j := by omega
          obtain ⟨V, eV⟩ : ∃ V, wr.setCell ⟨bm, G, none⟩ (.bool true) = V := ⟨_, rfl⟩
          rw [eV] at HN
          have hbV : Below bm w9 V := by rw [← eV]; exact hs.bel.setCell (p := ⟨bm, G, none⟩) (Nat.le_refl _) _
          have hzV : bm < V.heap.size := by rw [← eV]; simpa using hs.lt
          obtain ⟨bg', fg', he, cj⟩ := (K9.out V hbV).1.2.2.2.2 j (by omega)
          simp only [Option.some.injEq, Addr.mk.injEq, and_true] at he
          obtain ⟨rfl, rfl⟩ := he
          have KV : Hid (∀ W, Below V.heap.size V W → Below bm w9 W) := fun W h => hbV.trans (h.mono (Nat.le_of_lt hzV))
          have hUA := (K9.out V hbV).2.2.2
          have HC1 : Hid (∀ W, Below V.heap.size V W → Calls Try.prog 19 #[.agg #[.slice p1 SA j1, .slice p2 CU j2], .int .i64 (j : Int)] W fun e w' => (∃ v, e = .returned v ∧ ∀ Z, Below w'.heap.size w' Z → ArIn (n + 1) 0 Z (itemAt U j M) v) ∧ Below W.heap.size W w' ∧ Below V.heap.size V w') := fun W h => by
            refine (ritem_any (i := j) (m := M) hUA h (by rw [HWD.out.2.2.2.1]; exact HWD.out.2.2.2.2) HU16.out.1 (by rw [HWD.out.2.1]; exact HWD.out.1) (by
              rw [HWD.out.2.2.1]
              have := Nat.mul_le_mul_right M (show j + 1 ≤ N by omega)
              rw [Nat.succ_mul] at this
              exact this) HU16.out.2 (by omega) HCU.out).mono ?_
            rintro e w' ⟨⟨v, rfl, hv⟩, hw'⟩
            exact ⟨⟨v, rfl, fun Z hZ => hv Z ((h.trans (hw'.mono h.size)).trans (hZ.mono (Nat.le_trans h.size hw'.size))) (keeps_below hZ)⟩, hw', h.trans (hw'.mono h.size)⟩
          have HC2 : Hid (∀ W, Below V.heap.size V W → Calls Try.prog 19 #[.agg #[.slice p1 SA j1, .slice p2 CU j2], .int .i64 (i : Int)] W fun e w' => (∃ v, e = .returned v ∧ ∀ Z, Below w'.heap.size w' Z → ArIn (n + 1) 0 Z (itemAt U i M) v) ∧ Below W.heap.size W w' ∧ Below V.heap.size V w') := fun W h => by
            refine (ritem_any (i := i) (m := M) hUA h (by rw [HWD.out.2.2.2.1]; exact HWD.out.2.2.2.2) HU16.out.1 (by rw [HWD.out.2.1]; exact HWD.out.1) (by
              rw [HWD.out.2.2.1]
              have := Nat.mul_le_mul_right M (show i + 1 ≤ N by omega)
              rw [Nat.succ_mul] at this
              exact this) HU16.out.2 (by omega) HCU.out).mono ?_
            rintro e w' ⟨⟨v, rfl, hv⟩, hw'⟩
            exact ⟨⟨v, rfl, fun Z hZ => hv Z ((h.trans (hw'.mono h.size)).trans (hZ.mono (Nat.le_trans h.size hw'.size))) (keeps_below hZ)⟩, hw', h.trans (hw'.mono h.size)⟩
          have ho := HO.out j (by omega)
          rw [← hij, hG] at ho
          obtain ⟨gj, hgj⟩ : ∃ z, g j = z := ⟨_, rfl⟩
          rw [hgj] at ho cj
          obtain ⟨oo, hoo⟩ : ∃ oo, c gj (G : Int) = oo := ⟨_, rfl⟩
          rw [hoo] at ho
          have HSA : Hid (∀ w6 w7 v6 v7, (∀ Z, Below w6.heap.size w6 Z → ArIn (n + 1) 0 Z (itemAt U j M) v6) → (∀ Z, Below w7.heap.size w7 Z → ArIn (n + 1) 0 Z (itemAt U i M) v7) → Below w6.heap.size w6 w7 → Below V.heap.size V w7 → Calls Try.prog 18 #[v6, v7] w7 fun e w' => e = .returned (.int .i64 oo) ∧ Below V.heap.size V w') := fun w6 w7 v6 v7 h6 h7 h67 hov => by
            refine (rcmp_any (n + 1) _ _ _ _ _ _ w7 (h6 w7 h67) (h7 w7 (Below.refl _ _))).mono ?_
            rintro e w' ⟨rfl, hw'⟩
            exact ⟨by rw [HSM.out j i (by omega) hlt, hgj, hG, hoo], hov.trans (hw'.mono hov.size)⟩
          have KS : Hid (∀ W, Below V.heap.size V W → Below V.heap.size V W ∧ W.cell? ⟨B8, 0, none⟩ = some (.slice p1 SA j1) ∧ W.cell? ⟨B8, 1, none⟩ = some (.slice p2 CU j2)) := fun W h => by
            have := (K9.out W (KV.out W h)).2
            exact ⟨h, this.1, this.2.1⟩
          have HD : Hid (∀ W, Below V.heap.size V W → W.cell? ⟨B6, 1, none⟩ = some (.slice (some ⟨bg, fg, none⟩) N k2) ∧ W.cell? ⟨bg, fg + j * 3 + 1, none⟩ = some (.int .i64 gj)) := fun W h => by
            have h9 := (K9.out W (KV.out W h)).1.2.2.2
            obtain ⟨b7, f7, he7, c7⟩ := h9.2 j (by omega)
            simp only [Option.some.injEq, Addr.mk.injEq, and_true] at he7
            obtain ⟨rfl, rfl⟩ := he7
            exact ⟨h9.1, by rw [c7, hgj]⟩
          have hd0 : Below V.heap.size V V.drew := (Below.refl _ _).drew
          have HEV := hide eV
          have HOO := hide ho
          clear hgs hf hfG hs bw t0 t1 nN r0 s0 s1 hgi hG hbV hzV cj hUA hgj hoo ho eV KV hij hi0
          go_upto_region 21 with fail
          rw [HEV.out]
          clear HEV c0 f0 cg r1
          go_cut [13] from 101 to 108 (fun s wx => s = .int .i64 oo ∧ Below V.heap.size V wx)
          case first =>
            go_region_held3 (fun W => Below V.heap.size V W ∧ W.cell? ⟨B8, 0, none⟩ = some (.slice p1 SA j1) ∧ W.cell? ⟨B8, 1, none⟩ = some (.slice p2 CU j2))
              (first | with_reducible exact KS.out _ (by with_reducible assumption))
              (first | (go_at_call 19; (with_reducible refine (HC1.out _ (by with_reducible assumption)).mono ?_); rintro e w6 ⟨⟨v6, rfl, hv6⟩, hs6, hb6⟩) | (go_at_call 19; (with_reducible refine (HC2.out _ (by with_reducible assumption)).mono ?_); rintro e w7 ⟨⟨v7, rfl, hv7⟩, hs7, hb7⟩) | (go_at_call 18; refine (HSA.out _ _ _ _ hv6 hv7 hs7 hb7).mono ?_; rintro e w8 ⟨rfl, hb8⟩))
            all_goals
              have HB8 := hide hb8
              clear hv6 hv7 hs6 hs7 hb6 hb7 hb8
              go_wp2
              go_meet
            all_goals
              case rel => exact ⟨rfl, HB8.out⟩
          case rest =>
          obtain ⟨rfl, hb8⟩ := hcut
          obtain ⟨r1, cj⟩ := HD.out wc hb8
          have HX8 := hide (HN.out wc hb8)
          clear hb8 HN HC1 HC2 HSA KS HD hd0
          rcases HOO.out with ho | ⟨ho, hgg⟩
          · have h1 : ¬ 0 < oo := by omega
            have h2 : ¬ oo = 0 := by omega
            have h3 : (oo == 0) = false := beq_eq_false_iff_ne.2 h2
            go_wp2
            go_roundg (N - (i + 1))
            case rel => exact ⟨i + 1, _, by omega, by go_num, HX8.out, HFN.out⟩
            case measure => omega
          · subst ho
            have hgb : ¬ (G : Int) < gj := by omega
            go_wp2
            go_roundg (N - (i + 1))
            case rel => exact ⟨i + 1, _, by omega, by go_num, HX8.out, HFN.out⟩
            case measure => omega
      · have hie : i = N := by omega
        subst hie
        have CW := HW.out wr bw
        clear hgs hf hs bw t0 t1 nN r0 s0 s1
        go_wp2_with fail
        refine CW.mono ?_
        rintro e w9 ⟨rfl, hb9⟩
        have HF := hide hb9
        clear hb9 CW
        go_wp2
        go_ret
        exact ⟨rfl, HF.out⟩
  case true =>
    have C3 := smo_13 (op := 0) (HX.out w4 HB4.out.2) HE.out HCAP.out
    by_cases hS0 : x.shape.length = 0
    case pos =>
      rw [show gradR true n x = (zeroA, 6) by unfold gradR; rw [if_pos hS0]] at C3
      have HT4 := hide (zeroA_in n 0 w4)
      go_wp2_with fail
      refine C3.mono ?_
      clear C3 t0 t1
      rintro e w5 ⟨⟨v5, rfl, hv5⟩, hb5⟩
      obtain ⟨u1, k1, u2, k2, rfl, -, -⟩ := hv5.form
      have hn5 : Below w.heap.size w w5 := HB4.out.2.trans (hb5.mono HB4.out.2.size)
      generalize zeroA.shape.length = SZ at *
      generalize zeroA.cells.length = CZ at *
      obtain ⟨W6, e6⟩ : ∃ W6, w5.alloc (.cells #[.slice u1 SZ k1, .slice u2 CZ k2] 25) = W6 := ⟨_, rfl⟩
      have CW := HW.out W6 (by rw [← e6]; exact hn5.alloc hn5.size _)
      have HE6 := hide e6
      clear hv5 hb5 hn5 e6
      go_upto_region 7 with fail
      rw [HE6.out]
      clear HE6
      go_wp2_with fail
      refine CW.mono ?_
      rintro e w9 ⟨rfl, hb9⟩
      have HF := hide hb9
      clear hb9 CW
      go_wp2
      go_ret
      exact ⟨rfl, HF.out⟩
    have hS : 0 < x.shape.length := by omega
    by_cases hAK : allK 0 x.cells = false ∧ allK 1 x.cells = false
    case pos =>
      rw [show gradR true n x = (zeroA, 5) by unfold gradR; rw [if_neg hS0, if_pos hAK]] at C3
      have HT4 := hide (zeroA_in n 0 w4)
      go_wp2_with fail
      refine C3.mono ?_
      clear C3 t0 t1
      rintro e w5 ⟨⟨v5, rfl, hv5⟩, hb5⟩
      obtain ⟨u1, k1, u2, k2, rfl, -, -⟩ := hv5.form
      have hn5 : Below w.heap.size w w5 := HB4.out.2.trans (hb5.mono HB4.out.2.size)
      generalize zeroA.shape.length = SZ at *
      generalize zeroA.cells.length = CZ at *
      obtain ⟨W6, e6⟩ : ∃ W6, w5.alloc (.cells #[.slice u1 SZ k1, .slice u2 CZ k2] 25) = W6 := ⟨_, rfl⟩
      have CW := HW.out W6 (by rw [← e6]; exact hn5.alloc hn5.size _)
      have HE6 := hide e6
      clear hv5 hb5 hn5 e6
      go_upto_region 7 with fail
      rw [HE6.out]
      clear HE6
      go_wp2_with fail
      refine CW.mono ?_
      rintro e w9 ⟨rfl, hb9⟩
      have HF := hide hb9
      clear hb9 CW
      go_wp2
      go_ret
      exact ⟨rfl, HF.out⟩
    obtain ⟨wdA, wdB, wdC, wdD, wdE⟩ := wid HE.out hS
    obtain ⟨g, hblk⟩ := blk_exists (byD_ord true n x (nW x))
    have hself := (byD_full true n x).self
    have hgr : ∀ s, s < nW x → 0 ≤ g s ∧ g s < (nW x : Int) := fun s hs => by have := hblk.2 s (Nat.zero_le _) hs; omega
    have hSL := sortL_is (byD_ord true n x (nW x)) hself hblk
    rw [show gradR true n x = (numsA ((List.range (nW x)).map g), 0) by unfold gradR; rw [if_neg hS0, if_neg hAK, hSL]] at C3
    have HLK := hide (look_sort HE.out hS hgr)
    have HCN : Hid (chkA 8 (numsA ((List.range (nW x)).map g)) = 0) := chk_nums _ (by simp; exact wdD)
    have HINJ : Hid (∀ s t, s < nW x → t < nW x → g s = g t → s = t) := fun s t hs ht e => blk_inj hblk hself hs ht e
    have HLT : Hid (∀ s, s + 1 < nW x → ltc (byD true n x) (g s) (g (s + 1))) := fun s hs => hblk.1 s (s + 1) (Nat.zero_le _) (by omega) hs
    have HGR := hide hgr
    obtain ⟨LL, hLL⟩ : ∃ LL, (List.range (nW x)).map g = LL := ⟨_, rfl⟩
    have hLn : LL.length = nW x := by rw [← hLL]; simp
    have HLG : Hid (∀ s, s < nW x → LL[s]?.getD 0 = g s) := fun s hs => by rw [← hLL]; simp [hs]
    have HGG : Hid (∀ s, s < nW x → gI LL s = g s) := fun s hs => HLG.out s hs
    rw [hLL] at C3 HLK HCN
    obtain ⟨hUm, hUn, hUc, hUs⟩ := items_wid x LL
    rw [hLn] at hUn hUc
    have hUl : (itmsA x (mW x) LL 0 0).shape.length = x.shape.length := by show (List.length (_ :: x.shape.tail)) = _; rw [List.length_cons, List.length_tail]; omega
    have hUt : (itmsA x (mW x) LL 0 0).shape.tail = x.shape.tail := rfl
    have HSM : Hid (∀ i k : Nat, i < nW x → k < nW x → cmpA (n + 1) (itemAt (itmsA x (mW x) LL 0 0) i (mW x)) (itemAt (itmsA x (mW x) LL 0 0) k (mW x)) = byI n x.cells (mW x) (g i) (g k)) := fun i k hi hk => by
      have hw : ∀ t, t < LL.length → 0 ≤ gI LL t ∧ gI LL t < (nW x : Int) := fun t ht => by rw [hLn] at ht; rw [HGG.out t ht]; exact hgr t ht
      rw [item_items HE.out hS hw (by rw [hLn]; exact hi), item_items HE.out hS hw (by rw [hLn]; exact hk), HGG.out i hi, HGG.out k hk, same_byI HE.out hS (by have := hgr i hi; omega) (by have := hgr k hk; omega), Int.toNat_of_nonneg (hgr i hi).1, Int.toNat_of_nonneg (hgr k hk).1]
    have hchU : chkA 8 (itmsA x (mW x) LL 0 0) = 0 := items_chk HE.out hS (fun t ht => by rw [hLn] at ht; rw [HGG.out t ht]; exact hgr t ht) (by rw [hLn]; exact Nat.le_refl _)
    have HU16 := hide (And.intro (chk_len hchU).1 (chk_len hchU).2)
    have HO : Hid (∀ s, s + 1 < nW x → 0 < byI n x.cells (mW x) (g s) (g (s + 1)) ∨ (byI n x.cells (mW x) (g s) (g (s + 1)) = 0 ∧ g s < g (s + 1))) := fun s hs => by
      have h1 := HLT.out s hs
      have ha := (byI_full n x.cells (mW x)).anti (g s) (g (s + 1))
      have e : byD true n x (g s) (g (s + 1)) = byI n x.cells (mW x) (g (s + 1)) (g s) := rfl
      unfold ltc at h1
      rw [e] at h1
      omega
    obtain ⟨b, off, hb1, hbl, hcl⟩ := row_at (by
      obtain ⟨_, _, _, _, hvx, Rx, -⟩ := (HX.out w (Below.refl _ _)).form
      simp only [Value.agg.injEq, Array.mk.injEq, List.cons.injEq, Value.slice.injEq, and_true] at hvx
      rw [← hvx.1.1] at Rx
      exact Rx : Row 0 w a1 x.shape) (j := 0) hS
    subst hb1
    have hn0 : w.cell? ⟨b, off, none⟩ = some (.int .i64 (nW x : Int)) := by rw [← wdA]; exact hcl
    have HN0 := hide (And.intro hn0 hbl)
    have HWD := hide (And.intro wdB (And.intro hUt (And.intro hUc (And.intro hUl hS))))
    obtain ⟨U, hU⟩ : ∃ U, itmsA x (mW x) LL 0 0 = U := ⟨_, rfl⟩
    rw [hU] at HLK
    simp only [hU] at HSM HU16 HWD
    obtain ⟨c, hc⟩ : ∃ c, byI n x.cells (mW x) = c := ⟨_, rfl⟩
    simp only [hc] at HSM HO
    obtain ⟨M, hM⟩ : ∃ M, mW x = M := ⟨_, rfl⟩
    obtain ⟨N, hN⟩ : ∃ N, nW x = N := ⟨_, rfl⟩
    simp only [hM, hN] at HSM HO HWD HN0 HINJ HGR HLG hLn wdD
    have hNM : N * M ≤ 16384 := by have := HU16.out.2; rw [HWD.out.2.2.1] at this; exact this
    have hSAl := HLN.out.1
    have hSAz : (0 : Int) < (SA : Int) := by omega
    have HDY : Hid (∀ W (u1 u2 : Option Addr) (k1 k2 : Nat), Below w.heap.size w W → ArIn (n + 1) 0 W (numsA LL) (.agg #[.slice u1 1 k1, .slice u2 N k2]) → Calls Try.prog 17 #[.int .i64 52, .agg #[.slice u1 1 k1, .slice u2 N k2], .agg #[.slice (some ⟨b, off, none⟩) SA c1, .slice a2 CA c2]] W fun e w' => Gives2K (n + 1) W U 0 W e w') := fun W u1 u2 k1 k2 h hu => by
      have := rdy_52 hu (HX.out W h) HCN.out HE.out HCAP.out
      rw [HLK.out] at this
      exact this
    have HSL : Hid (LL.length = N) := hLn
    clear hS0 hS hAK wdA wdB wdC wdE hblk hself hgr hSL HLT hLL hUm hUn hUc hUs hUl hUt hchU hbl hcl hn0 hU hc hM hN HLK HCN HX HX0 HGG hLn
    go_wp2_with fail
    refine C3.mono ?_
    clear C3 t0 t1
    rintro e w5 ⟨⟨v5, rfl, hv5⟩, hb5⟩
    obtain ⟨u1, k1, u2, k2, rfl, -, -⟩ := hv5.form
    have hl1 : (numsA LL).shape.length = 1 := rfl
    have hl2 : (numsA LL).cells.length = N := by show (numCs 0 LL).length = N; rw [numCs_len, HSL.out]
    simp only [hl1, hl2] at hv5 ⊢
    clear hl1 hl2
    obtain ⟨B6, hB6⟩ : ∃ B6, w5.heap.size = B6 := ⟨_, rfl⟩
    obtain ⟨W6, e6⟩ : ∃ W6, w5.alloc (.cells #[.slice u1 1 k1, .slice u2 N k2] 25) = W6 := ⟨_, rfl⟩
    have b56 : Below w5.heap.size w5 W6 := by rw [← e6]; exact one_alloc _ _
    have z6 : B6 < W6.heap.size := by rw [← e6, ← hB6]; simp
    have r0 : W6.cell? ⟨B6, 0, none⟩ = some (.slice u1 1 k1) := by rw [← e6, ← hB6]; exact cell_new0 w5 _ 25 0 _ rfl
    have r1 : W6.cell? ⟨B6, 1, none⟩ = some (.slice u2 N k2) := by rw [← e6, ← hB6]; exact cell_new0 w5 _ 25 1 _ rfl
    have hb16 : Below W1.heap.size W1 W6 := (HB4.out.1.trans (hb5.mono HB4.out.1.size)).trans (b56.mono (Nat.le_trans HB4.out.1.size hb5.size))
    have hA6 : ArIn (n + 1) 0 W6 (numsA LL) (.agg #[.slice u1 1 k1, .slice u2 N k2]) := (hv5.mono (Nat.zero_le _) (Below.refl _ _)).next b56
    have K6 : Hid (∀ W, Below W6.heap.size W6 W → (Below w.heap.size w W ∧ W.cell? ⟨w.heap.size, 0, none⟩ = some (.slice (some ⟨b, off, none⟩) SA c1) ∧ W.cell? ⟨w.heap.size, 1, none⟩ = some (.slice a2 CA c2)) ∧ W.cell? ⟨b, off, none⟩ = some (.int .i64 (N : Int)) ∧ W.cell? ⟨B6, 0, none⟩ = some (.slice u1 1 k1) ∧ W.cell? ⟨B6, 1, none⟩ = some (.slice u2 N k2) ∧ ∀ s, s < N → ∃ bg fg, u2 = some ⟨bg, fg, none⟩ ∧ W.cell? ⟨bg, fg + s * 3 + 1, none⟩ = some (.int .i64 (g s))) := fun W h => by
      have hq := HQ.out W (hb16.trans (h.mono hb16.size))
      refine ⟨hq, (hq.1.cell (p := ⟨b, off, none⟩) HN0.out.2).trans HN0.out.1, (h.cell (p := ⟨B6, 0, none⟩) z6).trans r0, (h.cell (p := ⟨B6, 1, none⟩) z6).trans r1, fun s hs => ?_⟩
      obtain ⟨bg, fg, hu, hb, hcl⟩ := num_at hA6 s (by rw [HSL.out]; exact hs)
      exact ⟨bg, fg, hu, (h.cell (p := ⟨bg, fg + s * 3 + 1, none⟩) hb).trans (hcl.trans (by rw [HLG.out s hs]))⟩
    obtain ⟨⟨n6, t0, t1⟩, -⟩ := K6.out W6 (Below.refl _ _)
    have C4 := HDY.out W6 u1 u2 k1 k2 n6 hA6
    have HE6 := hide (And.intro e6 hB6)
    clear hv5 hb5 e6 hB6 b56 z6 hb16 hA6 n6 HDY HLG
    go_upto_region 7 with fail
    rw [HE6.out.1, HE6.out.2]
    clear HE6
    go_wp2_with fail
    refine C4.mono ?_
    clear C4 t0 t1 r0 r1
    rintro e w7 ⟨⟨v7, rfl, kv7, hv7⟩, hb7⟩
    obtain ⟨p1, j1, p2, j2, rfl, -, -⟩ := (hv7 w7 hb7 (Keeps.refl _ _)).form
    have hl1 : U.shape.length = SA := by rw [HWD.out.2.2.2.1]; exact hSAl
    obtain ⟨CU, hCU⟩ : ∃ CU, U.cells.length = CU := ⟨_, rfl⟩
    simp only [hl1, hCU] at hv7 kv7 ⊢
    obtain ⟨B8, hB8⟩ : ∃ B8, w7.heap.size = B8 := ⟨_, rfl⟩
    obtain ⟨W8, e8⟩ : ∃ W8, w7.alloc (.cells #[.slice p1 SA j1, .slice p2 CU j2] 25) = W8 := ⟨_, rfl⟩
    have b78 : Below w7.heap.size w7 W8 := by rw [← e8]; exact one_alloc _ _
    have z8 : B8 < W8.heap.size := by rw [← e8, ← hB8]; simp
    have s0 : W8.cell? ⟨B8, 0, none⟩ = some (.slice p1 SA j1) := by rw [← e8, ← hB8]; exact cell_new0 w7 _ 25 0 _ rfl
    have s1 : W8.cell? ⟨B8, 1, none⟩ = some (.slice p2 CU j2) := by rw [← e8, ← hB8]; exact cell_new0 w7 _ 25 1 _ rfl
    have hb68 : Below W6.heap.size W6 W8 := hb7.trans (b78.mono hb7.size)
    have K8 : Hid (∀ W, Below W8.heap.size W8 W → ((Below w.heap.size w W ∧ W.cell? ⟨w.heap.size, 0, none⟩ = some (.slice (some ⟨b, off, none⟩) SA c1) ∧ W.cell? ⟨w.heap.size, 1, none⟩ = some (.slice a2 CA c2)) ∧ W.cell? ⟨b, off, none⟩ = some (.int .i64 (N : Int)) ∧ W.cell? ⟨B6, 0, none⟩ = some (.slice u1 1 k1) ∧ W.cell? ⟨B6, 1, none⟩ = some (.slice u2 N k2) ∧ ∀ s, s < N → ∃ bg fg, u2 = some ⟨bg, fg, none⟩ ∧ W.cell? ⟨bg, fg + s * 3 + 1, none⟩ = some (.int .i64 (g s))) ∧ W.cell? ⟨B8, 0, none⟩ = some (.slice p1 SA j1) ∧ W.cell? ⟨B8, 1, none⟩ = some (.slice p2 CU j2) ∧ ArIn (n + 1) 0 W U (.agg #[.slice p1 SA j1, .slice p2 CU j2])) := fun W h => ⟨K6.out W (hb68.trans (h.mono hb68.size)), (h.cell (p := ⟨B8, 0, none⟩) z8).trans s0, (h.cell (p := ⟨B8, 1, none⟩) z8).trans s1, hv7 W (hb68.trans (h.mono hb68.size)) (keeps_below (b78.trans (h.mono b78.size)))⟩
    obtain ⟨⟨⟨n8, t0, -⟩, nN, -, r1, -⟩, -, -, hU8⟩ := K8.out W8 (Below.refl _ _)
    have HCU := hide kv7
    have HCUn : Hid (CU = N * M) := by unfold Hid; rw [← hCU]; exact HWD.out.2.2.1
    have HE8 := hide (And.intro e8 hB8)
    clear hv7 kv7 hb7 e8 hB8 b78 z8 hb68 s0 s1 n8 hU8 K6
    go_upto_region 10 with fail
    rw [HE8.out.1, HE8.out.2]
    clear HE8
    have HL10 : Hid (∀ m : Nat, Below W8.heap.size W8 (W8.drewN m)) := fun m => drewN_below (Below.refl _ _) m
    go_cut [63] from 52 to 63 (fun s wx => s = .bool false ∧ Below W8.heap.size W8 wx)
    case first =>
      go_quiet (fail)
      all_goals
        go_wp2
        go_meet
      all_goals
        case rel => exact ⟨rfl, HL10.out _⟩
    case rest =>
    obtain ⟨rfl, hbc⟩ := hcut
    obtain ⟨w9, hw9⟩ : ∃ w9, w9 = wc := ⟨_, rfl⟩
    rw [← hw9] at hbc ⊢
    clear hw9 t0 nN r1 HL10
    obtain ⟨⟨⟨-, t0, -⟩, nN, -, r1, -⟩, -⟩ := K8.out w9 hbc
    obtain ⟨bm, hbm⟩ : ∃ bm, w9.heap.size = bm := ⟨_, rfl⟩
    have mk := run_make_row' (P := Try.prog) 36 4 (.bool false) 1 Try.underlying36 info4 rfl .i64 .i64 N (by omega) (by omega)
    obtain ⟨W10, e10⟩ : ∃ W10, w9.alloc (.cells (madeCells #[.bool false] N) 4) = W10 := ⟨_, rfl⟩
    have rm : W10.rowIs bm 4 N (fun _ => .bool false) := by rw [← e10, ← hbm]; exact World.rowIs_made w9 (.bool false) N 4
    have B10 : Below bm w9 W10 := by rw [← e10, ← hbm]; exact one_alloc _ _
    have S0 : StV w9 bm N (fun i => .bool false) W10 := ⟨B10, by rw [← e10]; simp [hbm], fun i hi => ⟨by have := rm.cell (i := i) hi; simpa using this, rm.frozen i⟩⟩
    have HS0 := hide S0
    have HE10 := hide (And.intro e10 hbm)
    have K9 : Hid (∀ W, Below bm w9 W → ((Below w.heap.size w W ∧ W.cell? ⟨w.heap.size, 0, none⟩ = some (.slice (some ⟨b, off, none⟩) SA c1) ∧ W.cell? ⟨w.heap.size, 1, none⟩ = some (.slice a2 CA c2)) ∧ W.cell? ⟨b, off, none⟩ = some (.int .i64 (N : Int)) ∧ W.cell? ⟨B6, 0, none⟩ = some (.slice u1 1 k1) ∧ W.cell? ⟨B6, 1, none⟩ = some (.slice u2 N k2) ∧ ∀ s, s < N → ∃ bg fg, u2 = some ⟨bg, fg, none⟩ ∧ W.cell? ⟨bg, fg + s * 3 + 1, none⟩ = some (.int .i64 (g s))) ∧ W.cell? ⟨B8, 0, none⟩ = some (.slice p1 SA j1) ∧ W.cell? ⟨B8, 1, none⟩ = some (.slice p2 CU j2) ∧ ArIn (n + 1) 0 W U (.agg #[.slice p1 SA j1, .slice p2 CU j2])) := fun W h => by
      rw [← hbm] at h
      exact K8.out W (hbc.trans (h.mono hbc.size))
    clear S0 B10 rm e10 hbm hbc K8
    go_wp2
    rw [HE10.out.1, HE10.out.2]
    clear mk t0 nN r1 HE10
    go_loopg [11] N (fun gg iv wr => ∃ (i : Nat) (f : Nat → Value), gg + i = N ∧ iv = .int .i64 (i : Int) ∧ StV w9 bm N f wr ∧ ∀ k, k < N → f k = .bool (decide (∃ s, s < i ∧ g s = (k : Int))))
    case atStart => exact ⟨0, _, rfl, rfl, HS0.out, fun k hk => by simp⟩
    case round =>
      clear HS0
      obtain ⟨i, f, hg, rfl, hs, hf⟩ := hrel
      obtain ⟨⟨⟨bw, t0, t1⟩, nN, r0, r1, hgs⟩, s0, s1, -⟩ := K9.out wr hs.bel
      by_cases hlt : i < N
      · have hltz : (i : Int) < (N : Int) := by omega
        obtain ⟨bg, fg, rfl, cg⟩ := hgs i hlt
        have hgi := HGR.out i hlt
        obtain ⟨G, hG⟩ : ∃ G : Nat, g i = (G : Int) := ⟨(g i).toNat, by omega⟩
        have hGN : G < N := by omega
        have hGNz : (G : Int) < (N : Int) := by omega
        rw [hG] at cg
        obtain ⟨c0, f0⟩ := hs.row G hGN
        have hfG : f G = .bool false := by
          rw [hf G hGN]
          congr 1
          rw [decide_eq_false_iff_not]
          rintro ⟨s, hs1, hs2⟩
          have := HINJ.out s i (by omega) hlt (by rw [hs2, hG])
          omega
        rw [hfG] at c0
        have HN : Hid (∀ w8, Below (wr.setCell ⟨bm, G, none⟩ (.bool true)).heap.size (wr.setCell ⟨bm, G, none⟩ (.bool true)) w8 → StV w9 bm N (fun k => if k = G then .bool true else f k) w8) := fun w8 h8 => by
          have hst : StV w9 bm N (fun k => if k = G then .bool true else f k) (wr.setCell ⟨bm, G, none⟩ (.bool true)) := hs.set hGN _ fun x hx => rfl
          refine ⟨hst.bel.trans (h8.mono (Nat.le_of_lt hst.lt)), Nat.lt_of_lt_of_le hst.lt h8.size, fun k hk => ⟨(h8.cell (p := ⟨bm, k, none⟩) hst.lt).trans (hst.row k hk).1, (h8.frozen (p := ⟨bm, k, none⟩) hst.lt).trans (hst.row k hk).2⟩⟩
        have HFN : Hid (∀ k, k < N → (if k = G then Value.bool true else f k) = .bool (decide (∃ s, s < i + 1 ∧ g s = (k : Int)))) := fun k hk => by
          by_cases e : k = G
          · rw [if_pos e]
            congr 1
            symm
            rw [decide_eq_true_eq]
            exact ⟨i, by omega, by rw [hG, e]⟩
          · rw [if_neg e, hf k hk]
            congr 1
            rw [decide_eq_decide]
            constructor
            · rintro ⟨s, h1, h2⟩; exact ⟨s, by omega, h2⟩
            · rintro ⟨s, h1, h2⟩
              refine ⟨s, ?_, h2⟩
              by_cases es : s = i
              · rw [es, hG] at h2; omega
              · omega
        have hGz : ¬ (G : Int) < 0 := by omega
        have hGz2 : ¬ (N : Int) ≤ (G : Int) := by omega
        by_cases hi0 : i = 0
        · subst hi0
          clear hgs hf hfG hs bw t0 t1 nN r0 s0 s1 hgi hG
          go_wp2
          go_roundg (N - 1)
          case rel => exact ⟨1, _, by omega, by go_num, HN.out _ (Below.refl _ _), HFN.out⟩
          case measure => omega
        · obtain ⟨j, hij⟩ : ∃ j, i = j + 1 := ⟨i - 1, by omega⟩
          have hib : ((i : Int) == 0) = false := beq_eq_false_iff_ne.2 (by omega)
          have hwj : IntKind.i64.wrap ((i : Int) - 1) = (j : Int) := by rw [show (i : Int) - 1 = (j : Int) by omega]; exact IntWalk.i64_in _ ⟨by omega, by omega⟩
          have hjz : (0 : Int) ≤ (j : Int) := by omega
          have hjN : (j : Int) < (N : Int) := by omega
          have hjn : ((j : Int)).toNat = j := by omega
          obtain ⟨V, eV⟩ : ∃ V, wr.setCell ⟨bm, G, none⟩ (.bool true) = V := ⟨_, rfl⟩
          rw [eV] at HN
          have hbV : Below bm w9 V := by rw [← eV]; exact hs.bel.setCell (p := ⟨bm, G, none⟩) (Nat.le_refl _) _
          have hzV : bm < V.heap.size := by rw [← eV]; simpa using hs.lt
          obtain ⟨bg', fg', he, cj⟩ := (K9.out V hbV).1.2.2.2.2 j (by omega)
          simp only [Option.some.injEq, Addr.mk.injEq, and_true] at he
          obtain ⟨rfl, rfl⟩ := he
          have KV : Hid (∀ W, Below V.heap.size V W → Below bm w9 W) := fun W h => hbV.trans (h.mono (Nat.le_of_lt hzV))
          have hUA := (K9.out V hbV).2.2.2
          have HC1 : Hid (∀ W, Below V.heap.size V W → Calls Try.prog 19 #[.agg #[.slice p1 SA j1, .slice p2 CU j2], .int .i64 (j : Int)] W fun e w' => (∃ v, e = .returned v ∧ ∀ Z, Below w'.heap.size w' Z → ArIn (n + 1) 0 Z (itemAt U j M) v) ∧ Below W.heap.size W w' ∧ Below V.heap.size V w') := fun W h => by
            refine (ritem_any (i := j) (m := M) hUA h (by rw [HWD.out.2.2.2.1]; exact HWD.out.2.2.2.2) HU16.out.1 (by rw [HWD.out.2.1]; exact HWD.out.1) (by
              rw [HWD.out.2.2.1]
              have := Nat.mul_le_mul_right M (show j + 1 ≤ N by omega)
              rw [Nat.succ_mul] at this
              exact this) HU16.out.2 (by omega) HCU.out).mono ?_
            rintro e w' ⟨⟨v, rfl, hv⟩, hw'⟩
            exact ⟨⟨v, rfl, fun Z hZ => hv Z ((h.trans (hw'.mono h.size)).trans (hZ.mono (Nat.le_trans h.size hw'.size))) (keeps_below hZ)⟩, hw', h.trans (hw'.mono h.size)⟩
          have HC2 : Hid (∀ W, Below V.heap.size V W → Calls Try.prog 19 #[.agg #[.slice p1 SA j1, .slice p2 CU j2], .int .i64 (i : Int)] W fun e w' => (∃ v, e = .returned v ∧ ∀ Z, Below w'.heap.size w' Z → ArIn (n + 1) 0 Z (itemAt U i M) v) ∧ Below W.heap.size W w' ∧ Below V.heap.size V w') := fun W h => by
            refine (ritem_any (i := i) (m := M) hUA h (by rw [HWD.out.2.2.2.1]; exact HWD.out.2.2.2.2) HU16.out.1 (by rw [HWD.out.2.1]; exact HWD.out.1) (by
              rw [HWD.out.2.2.1]
              have := Nat.mul_le_mul_right M (show i + 1 ≤ N by omega)
              rw [Nat.succ_mul] at this
              exact this) HU16.out.2 (by omega) HCU.out).mono ?_
            rintro e w' ⟨⟨v, rfl, hv⟩, hw'⟩
            exact ⟨⟨v, rfl, fun Z hZ => hv Z ((h.trans (hw'.mono h.size)).trans (hZ.mono (Nat.le_trans h.size hw'.size))) (keeps_below hZ)⟩, hw', h.trans (hw'.mono h.size)⟩
          have ho := HO.out j (by omega)
          rw [← hij, hG] at ho
          obtain ⟨gj, hgj⟩ : ∃ z, g j = z := ⟨_, rfl⟩
          rw [hgj] at ho cj
          obtain ⟨oo, hoo⟩ : ∃ oo, c gj (G : Int) = oo := ⟨_, rfl⟩
          rw [hoo] at ho
          have HSA : Hid (∀ w6 w7 v6 v7, (∀ Z, Below w6.heap.size w6 Z → ArIn (n + 1) 0 Z (itemAt U j M) v6) → (∀ Z, Below w7.heap.size w7 Z → ArIn (n + 1) 0 Z (itemAt U i M) v7) → Below w6.heap.size w6 w7 → Below V.heap.size V w7 → Calls Try.prog 18 #[v6, v7] w7 fun e w' => e = .returned (.int .i64 oo) ∧ Below V.heap.size V w') := fun w6 w7 v6 v7 h6 h7 h67 hov => by
            refine (rcmp_any (n + 1) _ _ _ _ _ _ w7 (h6 w7 h67) (h7 w7 (Below.refl _ _))).mono ?_
            rintro e w' ⟨rfl, hw'⟩
            exact ⟨by rw [HSM.out j i (by omega) hlt, hgj, hG, hoo], hov.trans (hw'.mono hov.size)⟩
          have KS : Hid (∀ W, Below V.heap.size V W → Below V.heap.size V W ∧ W.cell? ⟨B8, 0, none⟩ = some (.slice p1 SA j1) ∧ W.cell? ⟨B8, 1, none⟩ = some (.slice p2 CU j2)) := fun W h => by
            have := (K9.out W (KV.out W h)).2
            exact ⟨h, this.1, this.2.1⟩
          have HD : Hid (∀ W, Below V.heap.size V W → W.cell? ⟨B6, 1, none⟩ = some (.slice (some ⟨bg, fg, none⟩) N k2) ∧ W.cell? ⟨bg, fg + j * 3 + 1, none⟩ = some (.int .i64 gj)) := fun W h => by
            have h9 := (K9.out W (KV.out W h)).1.2.2.2
            obtain ⟨b7, f7, he7, c7⟩ := h9.2 j (by omega)
            simp only [Option.some.injEq, Addr.mk.injEq, and_true] at he7
            obtain ⟨rfl, rfl⟩ := he7
            exact ⟨h9.1, by rw [c7, hgj]⟩
          have hd0 : Below V.heap.size V V.drew := (Below.refl _ _).drew
          have HEV := hide eV
          have HOO := hide ho
          clear hgs hf hfG hs bw t0 t1 nN r0 s0 s1 hgi hG hbV hzV cj hUA hgj hoo ho eV KV hij hi0
          go_upto_region 21 with fail
          rw [HEV.out]
          clear HEV c0 f0 cg r1
          go_cut [13] from 101 to 108 (fun s wx => s = .int .i64 oo ∧ Below V.heap.size V wx)
          case first =>
            go_region_held3 (fun W => Below V.heap.size V W ∧ W.cell? ⟨B8, 0, none⟩ = some (.slice p1 SA j1) ∧ W.cell? ⟨B8, 1, none⟩ = some (.slice p2 CU j2))
              (first | with_reducible exact KS.out _ (by with_reducible assumption))
              (first | (go_at_call 19; (with_reducible refine (HC1.out _ (by with_reducible assumption)).mono ?_); rintro e w6 ⟨⟨v6, rfl, hv6⟩, hs6, hb6⟩) | (go_at_call 19; (with_reducible refine (HC2.out _ (by with_reducible assumption)).mono ?_); rintro e w7 ⟨⟨v7, rfl, hv7⟩, hs7, hb7⟩) | (go_at_call 18; refine (HSA.out _ _ _ _ hv6 hv7 hs7 hb7).mono ?_; rintro e w8 ⟨rfl, hb8⟩))
            all_goals
              have HB8 := hide hb8
              clear hv6 hv7 hs6 hs7 hb6 hb7 hb8
              go_wp2
              go_meet
            all_goals
              case rel => exact ⟨rfl, HB8.out⟩
          case rest =>
          obtain ⟨rfl, hb8⟩ := hcut
          obtain ⟨r1, cj⟩ := HD.out wc hb8
          have HX8 := hide (HN.out wc hb8)
          clear hb8 HN HC1 HC2 HSA KS HD hd0
          rcases HOO.out with ho | ⟨ho, hgg⟩
          · have h1 : ¬ oo < 0 := by omega
            have h2 : ¬ oo = 0 := by omega
            have h3 : (oo == 0) = false := beq_eq_false_iff_ne.2 h2
            go_wp2
            go_roundg (N - (i + 1))
            case rel => exact ⟨i + 1, _, by omega, by go_num, HX8.out, HFN.out⟩
            case measure => omega
          · subst ho
            have hgb : ¬ (G : Int) < gj := by omega
            go_wp2
            go_roundg (N - (i + 1))
            case rel => exact ⟨i + 1, _, by omega, by go_num, HX8.out, HFN.out⟩
            case measure => omega
      · have hie : i = N := by omega
        subst hie
        have CW := HW.out wr bw
        clear hgs hf hs bw t0 t1 nN r0 s0 s1
        go_wp2_with fail
        refine CW.mono ?_
        rintro e w9 ⟨rfl, hb9⟩
        have HF := hide hb9
        clear hb9 CW
        go_wp2
        go_ret
        exact ⟨rfl, HF.out⟩
set_option maxRecDepth 100000 in
theorem lifted (os : Os) (started : os.Started) (H : Type) (enc : TypeId × Value → H) :
    ReturnsInHanded {} Try.checked os 5 .any (Rows.seekSortedSpec.pre6 enc Try.prog Try.f5 Rows.seekSortedRow.domain false) (Rows.seekSortedSpec.post enc Try.prog Try.f5 false true false false) := by
  refine returnsInHanded_of_change_sized (C := Try.checked) own started (by kernel_rfl) Try.func5
    (ChangeSpec.witness6 (enc := enc) (C := Try.checked) false ⟨#[], #[.agg #[.slice none 0 0, .slice none 0 0], .bool false], []⟩ 8 (by kernel_rfl) (by kernel_rfl) (by kernel_rfl) (by kernel_rfl)) ?_
  intro W base args ds gs before hval0 hW _ hsz0 _
  have hsz : (DataW.weightsEach Try.prog (Try.f5.params.toList ++ Rows.seekSortedSpec.plain.varTypes Try.prog) (ds ++ gs)).all (· ≤ reachBytes) = true := hsz0
  clear hsz0
  have hval : ∀ (j : Nat) t v, Try.f5.params[j]? = some t → args[j]? = some v → Value.okWide Try.prog W .any base t v := hval0
  have hW' := hW
  obtain ⟨p, q, hA0, hV, rfl, hfz, hnd⟩ := hW
  have hA : DataW.TrodAll enc Try.prog W 0 (fun _ => true) true Try.f5.params.toList args.toList ds p := hA0
  rw [Try.params5] at hA hval hsz
  obtain ⟨v0, vs0, d0, ds0, p0, q0, hargs, rfl, rfl, h0, r0⟩ := trodAll_cons hA
  obtain ⟨v1, vs1, d1, ds1, p1, q1, rfl, rfl, rfl, h1, r1⟩ := trodAll_cons r0
  obtain ⟨rfl, rfl, rfl⟩ := trodAll_nil r1
  obtain rfl : args = #[v0, v1] := by cases args; simp_all
  obtain ⟨rfl, rfl⟩ := trodVars_none hV
  have k0 := h0
  have lt0 : ∀ x ∈ p0, x.block < W.heap.size := by obtain ⟨m, hm⟩ := k0; exact DataW.trod_lt m _ _ _ hm
  obtain ⟨n0, y0, c00, c01, hc0, w0⟩ := arr_of hsz (j := 0) rfl rfl h0
  obtain rfl := agg_two hc0
  obtain ⟨x1, rfl, rfl, rfl⟩ := open_bool Try.underlying4 (hval 1 4 v1 rfl rfl) h1
  clear hA0 hval0
  refine (walk n0 y0 c00 c01 x1 W w0.1 (arr_caps h0)).mono fun e W' ⟨he, bel⟩ => ?_
  subst he
  exact ⟨_, rfl, _, _, _, [], _, [], hW', trodAll_mk1 (shut_bool Try.underlying4 _), (trodAll_cons_mk (Below.trod laidOut (by kernel_rfl) (of_decide_eq_true (by kernel_rfl)) k0 bel lt0) (trodAll_cons_mk (shut_bool Try.underlying4 _) trodAll_mk0)), rfl, bel.frame _, fun h => by cases h⟩
theorem over : Rows.seekSortedRow.holds Try.pinned (OpenSpec.ofChange Rows.seekSortedSpec) :=
  OpenClaim.holds_of_wide 5 Try.f5 rfl rfl rfl rfl rfl rfl rfl ⟨rfl, rfl, rfl, rfl, rfl⟩ rfl rfl rfl rfl rfl (by kernel_rfl) Try.func5 (by kernel_rfl)
    (of_decide_eq_true (by kernel_rfl)) (by unfold Func.isWrapper; first | (rw [if_pos (by decide +kernel)]; kernel_rfl) | (rw [if_neg (by decide +kernel)]; exact ⟨rfl, rfl⟩))
    (fun os started H enc _ => lifted os started H enc)
theorem proved : Rows.SeekSortedSaid := over
end Go.Proofs.Ytimkcpbgnoekcaa.seekSorted
namespace Go.Proofs.Ytimkcpbgnoekcaa
theorem seekSorted_holds : Rows.SeekSortedSaid := seekSorted.proved
#print axioms seekSorted_holds
end Go.Proofs.Ytimkcpbgnoekcaa
