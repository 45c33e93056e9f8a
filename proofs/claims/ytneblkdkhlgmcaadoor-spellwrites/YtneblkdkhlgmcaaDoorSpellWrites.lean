/-
  For all grammars and programs the statement SpellWrites holds: a program as a text, or that it can't be written, is what the chapter says, and the trial run is true; no condition (the given row speaks of what a machine of 64 bits can hold, and of the package-level tables as their texts lay them).
-/
import Derived.Test.YtneblkdkhlgmcaaDoorM8
import Derived.Shelf.Strconv.Itoa4
import Derived.Test.YtneblkdkhlgmcaaDoorProg
import Derived.WalkKit
import Derived.Test.YtneblkdkhlgmcaaDoorChecked
import GoSem.Claim
import GoSem.ClaimJoined
import GoSem.ClaimMapViews
import Derived.JoinedTies
import Derived.KernelRfl
import Derived.ProofKit
import Derived.Below
import Derived.Deep.OwnRows
import Derived.Deep.QuietTactic
import Derived.BigQuiet
import Derived.Deep.RegionWith
import Derived.Lib.AppendIntMem
import Derived.Lib.ConvBytes
import Derived.Lib.Builder
import Derived.Lib.AppendStr
import Derived.Lib.UnsafeStr
import Derived.Deep.LoopGhost
import Derived.Deep.RegionHeld3
import Derived.Lib.MakeNoZero
import Derived.Laws.MakeOwn
import Derived.Laws.BitsAllLaws
import Derived.Lib.Bits
import Derived.Deep.Cut
import Derived.Deep.MidRow
import Derived.OpenShut
import Derived.ChangeOld
import Derived.SizedLaws
import Derived.Deep.Slices
import Derived.Deep.Strs
import Derived.Deep.RegionLaw
import GoSem.ClaimSeven
import Derived.LaidByTextLater
import Derived.SevenTiedAt
import Derived.LaidSub
import Derived.LaidOnce
import Derived.Deep.DeepHandedRow
import Derived.Lib.LaidTab
import Derived.Lay
namespace Go.Proofs.YtneblkdkhlgmcaaDoor.spellWrites
open Go.ChangeShapes Go.WideShapes Go.ChangeAt Go.RowKit
set_option linter.unusedVariables false
set_option linter.unusedSimpArgs false
set_option maxRecDepth 100000
set_option maxHeartbeats 8000000 in
theorem walk (G : Gs) (LG : Lg G) (sl : (∃ a n c, G.s1 = .slice a n c) ∧ (∃ a n c, G.s2 = .slice a n c) ∧ ∃ a n c, G.s3 = .slice a n c) (m n : Nat) (x : Nd) (v : Value) (w : World) (GB : Glb w) (hx : NdIn m n 0 w x v) (h6 : ∀ k, i6N k x) :
    Calls Tryd.prog 4 #[gV G, v] w fun e w' => e = .returned (.bool true) ∧ Below w.heap.size w w' := by
  have hx0 := hx
  obtain ⟨v1, v2, v3, rfl, hv1⟩ := nd_form hx
  obtain ⟨⟨la1, ll1, lc1, rfl⟩, ⟨la2, ll2, lc2, rfl⟩, ⟨la3, ll3, lc3, rfl⟩⟩ := nd_slices hx0
  have HL8 := hide (fun W (hW : Below w.heap.size w W) => light8 (m := m) LG (hx.next hW))
  have HE9 := hide (fun W => empty9 G sl W)
  have HN10 := hide (fun W (hW : Below w.heap.size w W) => nameless10 m n x 0 _ W (hx.next hW))
  have HW7 : Hid (∀ W, Below w.heap.size w W → Calls Tryd.prog 7 #[] W fun e w' => e = .returned (.bool true) ∧ Below W.heap.size W w') := hide fun W h => works7 (GB.tab.below h GB.tab.1) (Lib.tabBelow_of_tabIs GB.pw _ h)
  have HWR : Hid (wN m x ≤ 1000 ∧ G.minus.size + G.quote.size + G.outer.size + G.power.size + G.opn.size + G.cls.size + G.left.size + G.right.size ≤ 100 ∧ nmN m x → ∀ W, Below w.heap.size w W →
      (Calls Tryd.prog 11 #[gV G, .agg (sv x.kind x.op x.name (.slice la1 ll1 lc1) (.slice la2 ll2 lc2) (.slice la3 ll3 lc3) x.pos)] W fun e w' => e = .returned (.tuple #[.string (str (wrS G m x)), .int .i64 (wrE G m x)]) ∧ Below W.heap.size W w') ∧
      Calls Tryd.prog 12 #[gV G, .agg (sv x.kind x.op x.name (.slice la1 ll1 lc1) (.slice la2 ll2 lc2) (.slice la3 ll3 lc3) x.pos)] W fun e w' => e = .returned (.tuple #[.string (str (wrS G m x)), .int .i64 (wrE G m x)]) ∧ Below W.heap.size W w') := hide (fun h W hW => by
    obtain ⟨hw, hg, hn⟩ := h
    have hG : Hg G := ⟨by omega, by omega, by omega, by omega, by omega, by omega, by omega, by omega⟩
    have hs := snd_of hx h6 (by omega)
    have hsz := size_le_w (m := m) (x := x)
    have hlen : okN m false x → ((TX G m).E G.right x).length ≤ 1000000 := fun hok => by
      have := ((tx_len hG m x false hok hs hn).2 rfl G.right hG.h8).1
      omega
    have hRm : Rm G := ⟨by have := hG.h1; omega, by have := hG.h2; omega, by
      obtain ⟨⟨a1, n1, c1, e1⟩, ⟨a2, n2, c2, e2⟩, ⟨a3, n3, c3, e3⟩⟩ := sl
      exact ⟨a1, n1, c1, a2, n2, c2, a3, n3, c3, e1, e2, e3⟩⟩
    refine ⟨?_, ?_⟩
    · exact write11 (hx.next hW) hs (GB.tab.below hW GB.tab.1) (Lib.tabBelow_of_tabIs GB.pw _ hW) hRm.hm hRm.hq (fun hb => by
        have := hlen (((wrB_iff G m x).1 hb).1.2)
        omega) sl.1 sl.2.1 sl.2.2
    · exact rwrite12 hRm (hx.next hW) hs (by omega) (fun hok => by have := hlen hok; omega))
  obtain ⟨LE, hLE⟩ : ∃ z, wrE G m x = z := ⟨_, rfl⟩
  obtain ⟨LS, hLS⟩ : ∃ z, str (wrS G m x) = z := ⟨_, rfl⟩
  obtain ⟨LT, hLT⟩ : ∃ z, (wN m x ≤ 1000 ∧ G.minus.size + G.quote.size + G.outer.size + G.power.size + G.opn.size + G.cls.size + G.left.size + G.right.size ≤ 100 ∧ nmN m x) = z := ⟨_, rfl⟩
  rw [hLE, hLS, hLT] at HWR
  rw [hLT] at HL8
  clear hx hx0 hLE hLS hLT hv1 GB h6 LG
  unfold gV at HL8 HE9 HWR ⊢
  generalize x.kind = k at *
  generalize x.op = o at *
  generalize x.name = nm at *
  generalize x.pos = ps at *
  generalize G.s1 = S1 at *
  generalize G.s2 = S2 at *
  generalize G.s3 = S3 at *
  obtain ⟨⟨a1, n1, c1, rfl⟩, ⟨a2, n2, c2, rfl⟩, ⟨a3, n3, c3, rfl⟩⟩ := sl
  obtain ⟨W2, hW2⟩ : ∃ W2, (w.alloc (.cells #[.slice a1 n1 c1, .slice a2 n2 c2, .slice a3 n3 c3, .string G.outer, .string G.power, .string G.opn, .string G.cls, .string G.left, .string G.right, .string G.minus, .string G.quote, .bool G.trains, .bool G.lone, .bool G.square] 27)).alloc (.cells (sv (k) (o) nm (.slice la1 ll1 lc1) (.slice la2 ll2 lc2) (.slice la3 ll3 lc3) (ps)) 34) = W2 := ⟨_, rfl⟩
  have hb2 : Below w.heap.size w W2 := by rw [← hW2]; exact two_allocs _ _ _
  have s2 : W2.heap.size = w.heap.size + 2 := by rw [← hW2]; simp
  have hA : W2.heap[w.heap.size]? = some (.cells #[.slice a1 n1 c1, .slice a2 n2 c2, .slice a3 n3 c3, .string G.outer, .string G.power, .string G.opn, .string G.cls, .string G.left, .string G.right, .string G.minus, .string G.quote, .bool G.trains, .bool G.lone, .bool G.square] 27 (0, 0)) := by
    rw [← hW2]; exact (Lib.alloc_old _ _ w.heap.size (by simp)).trans (heap_alloc_new w _)
  have hNb : W2.heap[w.heap.size + 1]? = some (.cells (sv (k) (o) nm (.slice la1 ll1 lc1) (.slice la2 ll2 lc2) (.slice la3 ll3 lc3) (ps)) 34 (0, 0)) := by
    have h := heap_alloc_new (w.alloc (.cells #[.slice a1 n1 c1, .slice a2 n2 c2, .slice a3 n3 c3, .string G.outer, .string G.power, .string G.opn, .string G.cls, .string G.left, .string G.right, .string G.minus, .string G.quote, .bool G.trains, .bool G.lone, .bool G.square] 27)) (.cells (sv (k) (o) nm (.slice la1 ll1 lc1) (.slice la2 ll2 lc2) (.slice la3 ll3 lc3) (ps)) 34)
    have e : (w.alloc (.cells #[.slice a1 n1 c1, .slice a2 n2 c2, .slice a3 n3 c3, .string G.outer, .string G.power, .string G.opn, .string G.cls, .string G.left, .string G.right, .string G.minus, .string G.quote, .bool G.trains, .bool G.lone, .bool G.square] 27)).heap.size = w.heap.size + 1 := by simp
    rw [e] at h
    rw [← hW2]; exact h
  have KS : Hid (∀ W, Below W2.heap.size W2 W → W.cell? ⟨w.heap.size, 0, none⟩ = some (.slice a1 n1 c1) ∧ W.cell? ⟨w.heap.size, 1, none⟩ = some (.slice a2 n2 c2) ∧ W.cell? ⟨w.heap.size, 2, none⟩ = some (.slice a3 n3 c3) ∧ W.cell? ⟨w.heap.size, 3, none⟩ = some (.string G.outer) ∧ W.cell? ⟨w.heap.size, 4, none⟩ = some (.string G.power) ∧ W.cell? ⟨w.heap.size, 5, none⟩ = some (.string G.opn) ∧ W.cell? ⟨w.heap.size, 6, none⟩ = some (.string G.cls) ∧ W.cell? ⟨w.heap.size, 7, none⟩ = some (.string G.left) ∧ W.cell? ⟨w.heap.size, 8, none⟩ = some (.string G.right) ∧ W.cell? ⟨w.heap.size, 9, none⟩ = some (.string G.minus) ∧ W.cell? ⟨w.heap.size, 10, none⟩ = some (.string G.quote) ∧ W.cell? ⟨w.heap.size, 11, none⟩ = some (.bool G.trains) ∧ W.cell? ⟨w.heap.size, 12, none⟩ = some (.bool G.lone) ∧ W.cell? ⟨w.heap.size, 13, none⟩ = some (.bool G.square) ∧ W.cell? ⟨w.heap.size + 1, 0, none⟩ = some (.int .i64 k) ∧ W.cell? ⟨w.heap.size + 1, 1, none⟩ = some (.int .i64 o) ∧ W.cell? ⟨w.heap.size + 1, 2, none⟩ = some (.string nm) ∧ W.cell? ⟨w.heap.size + 1, 3, none⟩ = some (.slice la1 ll1 lc1) ∧ W.cell? ⟨w.heap.size + 1, 4, none⟩ = some (.slice la2 ll2 lc2) ∧ W.cell? ⟨w.heap.size + 1, 5, none⟩ = some (.slice la3 ll3 lc3) ∧ W.cell? ⟨w.heap.size + 1, 6, none⟩ = some (.int .i64 ps)) := hide fun W h => by
    have hA2 := (h.block w.heap.size (by omega)).trans hA
    have hN2 := (h.block (w.heap.size + 1) (by omega)).trans hNb
    exact ⟨(Lib.cell_of_heap hA2 0).trans rfl, (Lib.cell_of_heap hA2 1).trans rfl, (Lib.cell_of_heap hA2 2).trans rfl, (Lib.cell_of_heap hA2 3).trans rfl, (Lib.cell_of_heap hA2 4).trans rfl, (Lib.cell_of_heap hA2 5).trans rfl, (Lib.cell_of_heap hA2 6).trans rfl, (Lib.cell_of_heap hA2 7).trans rfl, (Lib.cell_of_heap hA2 8).trans rfl, (Lib.cell_of_heap hA2 9).trans rfl, (Lib.cell_of_heap hA2 10).trans rfl, (Lib.cell_of_heap hA2 11).trans rfl, (Lib.cell_of_heap hA2 12).trans rfl, (Lib.cell_of_heap hA2 13).trans rfl, (Lib.cell_of_heap hN2 0).trans rfl, (Lib.cell_of_heap hN2 1).trans rfl, (Lib.cell_of_heap hN2 2).trans rfl, (Lib.cell_of_heap hN2 3).trans rfl, (Lib.cell_of_heap hN2 4).trans rfl, (Lib.cell_of_heap hN2 5).trans rfl, (Lib.cell_of_heap hN2 6).trans rfl⟩
  have HBW : Hid (∀ W, Below W2.heap.size W2 W → Below w.heap.size w W) := hide fun W h => hb2.trans (h.mono hb2.size)
  obtain ⟨g0, g1, g2, g3, g4, g5, g6, g7, g8, g9, g10, g11, g12, g13, u0, u1, u2, u3, u4, u5, u6⟩ := KS.out W2 (Below.refl _ _)
  have HC1 := hide (HL8.out W2 hb2)
  clear HL8
  go_enter Tryd.func4, Tryd.ntmps4
  go_upto_region 1 with fail
  try rw [hW2]
  clear hW2 hA hNb s2 hb2
  go_wp2_with fail
  refine HC1.out.mono ?_
  rintro e w3 ⟨⟨bl, rfl, hbl⟩, hb3⟩
  have HB3 := hide hb3
  have HBL := hide hbl
  clear HC1 hbl g0 g1 g2 g3 g4 g5 g6 g7 g8 g9 g10 g11 g12 g13 u0 u1 u2 u3 u4 u5 u6
  have HWK := hide (HW7.out w3 (HBW.out _ hb3))
  cases bl with
  | false =>
    clear HWR HE9 HN10 HBL KS
    go_wp2_with fail
    refine HWK.out.mono ?_
    rintro e w20 ⟨rfl, hb20⟩
    have HF := hide (HBW.out _ (HB3.out.trans (hb20.mono HB3.out.size)))
    clear hb20 HWK
    go_wp2
    go_ret
    exact ⟨rfl, HF.out⟩
  | true =>
    have HR := hide (HWR.out (HBL.out rfl))
    clear HWR HBL HWK
    obtain ⟨g0, g1, g2, g3, g4, g5, g6, g7, g8, g9, g10, g11, g12, g13, u0, u1, u2, u3, u4, u5, u6⟩ := KS.out w3 hb3
    clear hb3
    go_wp2_with fail
    refine (HE9.out w3).mono ?_
    rintro e w4 ⟨⟨be, rfl⟩, hb4⟩
    have hb5 := HB3.out.trans (hb4.mono HB3.out.size)
    have HB5 := hide hb5
    clear hb4 HE9 g0 g1 g2 g3 g4 g5 g6 g7 g8 g9 g10 g11 g12 g13 u0 u1 u2 u3 u4 u5 u6
    have HWK := hide (HW7.out w4 (HBW.out _ hb5))
    cases be with
    | true =>
      clear HR HN10 KS
      go_wp2_with fail
      refine HWK.out.mono ?_
      rintro e w20 ⟨rfl, hb20⟩
      have HF := hide (HBW.out _ (HB5.out.trans (hb20.mono HB5.out.size)))
      clear hb20 HWK
      go_wp2
      go_ret
      exact ⟨rfl, HF.out⟩
    | false =>
      clear HWK
      obtain ⟨g0, g1, g2, g3, g4, g5, g6, g7, g8, g9, g10, g11, g12, g13, u0, u1, u2, u3, u4, u5, u6⟩ := KS.out w4 hb5
      have HC := hide (HN10.out w4 (HBW.out _ hb5))
      clear hb5 HN10
      go_wp2_with fail
      refine HC.out.mono ?_
      rintro e w6 ⟨⟨bn, rfl⟩, hb6⟩
      have hb7 := HB5.out.trans (hb6.mono HB5.out.size)
      have HB7 := hide hb7
      clear hb6 HC g0 g1 g2 g3 g4 g5 g6 g7 g8 g9 g10 g11 g12 g13 u0 u1 u2 u3 u4 u5 u6
      cases bn with
      | true =>
        have HWK := hide (HW7.out w6 (HBW.out _ hb7))
        clear HR KS
        go_wp2_with fail
        refine HWK.out.mono ?_
        rintro e w20 ⟨rfl, hb20⟩
        have HF := hide (HBW.out _ (HB7.out.trans (hb20.mono HB7.out.size)))
        clear hb20 HWK
        go_wp2
        go_ret
        exact ⟨rfl, HF.out⟩
      | false =>
        obtain ⟨g0, g1, g2, g3, g4, g5, g6, g7, g8, g9, g10, g11, g12, g13, u0, u1, u2, u3, u4, u5, u6⟩ := KS.out w6 hb7
        have HC := hide (HR.out w6 (HBW.out _ hb7)).1
        clear hb7
        go_wp2_with fail
        refine HC.out.mono ?_
        rintro e w8 ⟨rfl, hb8⟩
        have hb9 := HB7.out.trans (hb8.mono HB7.out.size)
        have HB9 := hide hb9
        clear hb8 HC g0 g1 g2 g3 g4 g5 g6 g7 g8 g9 g10 g11 g12 g13 u0 u1 u2 u3 u4 u5 u6
        obtain ⟨g0, g1, g2, g3, g4, g5, g6, g7, g8, g9, g10, g11, g12, g13, u0, u1, u2, u3, u4, u5, u6⟩ := KS.out w8 hb9
        have HC := hide (HR.out w8 (HBW.out _ hb9)).2
        clear hb9 HR
        go_wp2_with fail
        refine HC.out.mono ?_
        rintro e w10 ⟨rfl, hb10⟩
        have hb11 := HB9.out.trans (hb10.mono HB9.out.size)
        have HB11 := hide hb11
        clear hb10 HC g0 g1 g2 g3 g4 g5 g6 g7 g8 g9 g10 g11 g12 g13 u0 u1 u2 u3 u4 u5 u6
        have HWK := hide (HW7.out w10 (HBW.out _ hb11))
        clear hb11 KS
        go_wp2_with fail
        refine HWK.out.mono ?_
        rintro e w20 ⟨rfl, hb20⟩
        have HF := hide (HBW.out _ (HB11.out.trans (hb20.mono HB11.out.size)))
        clear hb20 HWK
        go_wp2
        go_ret
        exact ⟨rfl, HF.out⟩
theorem laid_met (os : Os) : laidMet Tryd.prog Rows.spellWritesRow.laid ((laidWorld os).forCall (fun _ _ => 0) ⟨#[], #[.agg #[.slice none 0 0, .slice none 0 0, .slice none 0 0, .string { data := #[] }, .string { data := #[] }, .string { data := #[] }, .string { data := #[] }, .string { data := #[] }, .string { data := #[] }, .string { data := #[] }, .string { data := #[] }, .bool false, .bool false, .bool false], .agg #[.int .i64 0, .int .i64 0, .string { data := #[] }, .slice none 0 0, .slice none 0 0, .slice none 0 0, .int .i64 0]], []⟩).memory :=
  laidMet_laidAll _ (by kernel_rfl) (by kernel_rfl)
theorem reads (os : Os) {H : Type} (enc : TypeId × Value → H) : ∃ places, DataW.whole enc Tryd.prog ((laidWorld os).forCall (fun _ _ => 0) ⟨#[], #[.agg #[.slice none 0 0, .slice none 0 0, .slice none 0 0, .string { data := #[] }, .string { data := #[] }, .string { data := #[] }, .string { data := #[] }, .string { data := #[] }, .string { data := #[] }, .string { data := #[] }, .string { data := #[] }, .bool false, .bool false, .bool false], .agg #[.int .i64 0, .int .i64 0, .string { data := #[] }, .slice none 0 0, .slice none 0 0, .slice none 0 0, .int .i64 0]], []⟩).memory Tryd.f4.params.toList Rows.spellWritesSpec.vars false #[Value.agg #[.slice none 0 0, .slice none 0 0, .slice none 0 0, .string { data := #[] }, .string { data := #[] }, .string { data := #[] }, .string { data := #[] }, .string { data := #[] }, .string { data := #[] }, .string { data := #[] }, .string { data := #[] }, .bool false, .bool false, .bool false], Value.agg #[.int .i64 0, .int .i64 0, .string { data := #[] }, .slice none 0 0, .slice none 0 0, .slice none 0 0, .int .i64 0]].toList 8 = some ([.agg [.nil, .nil, .nil, .lit (.string []), .lit (.string []), .lit (.string []), .lit (.string []), .lit (.string []), .lit (.string []), .lit (.string []), .lit (.string []), .lit (.bool false), .lit (.bool false), .lit (.bool false)], .agg [.lit (.int .i64 0), .lit (.int .i64 0), .lit (.string []), .agg [.nil, .nil], .nil, .lit (.int .i64 0)]], [], places) :=
  ⟨[], by kernel_rfl⟩
set_option maxRecDepth 100000 in
theorem lifted (os : Os) (started : os.Started) (H : Type) (enc : TypeId × Value → H) (F : Stop.Interp) :
    ReturnsInHanded {} Tryd.checked os 4 .any ((OpenSpec.ofChange Rows.spellWritesSpec).preRow enc Tryd.prog Tryd.f4 Rows.spellWritesRow.domain false Rows.spellWritesRow.laid) (((OpenSpec.ofChange Rows.spellWritesSpec).at F).post enc Tryd.prog Tryd.f4 false true false false) := by
  obtain ⟨places, hx⟩ := reads os enc
  refine returnsInHanded_of_row (C := Tryd.checked) (s := OpenSpec.ofChange Rows.spellWritesSpec) own started (by kernel_rfl) Tryd.func4
    (witness_row_at (enc := enc) (C := Tryd.checked) false (laidWorld os) #[.agg #[.slice none 0 0, .slice none 0 0, .slice none 0 0, .string { data := #[] }, .string { data := #[] }, .string { data := #[] }, .string { data := #[] }, .string { data := #[] }, .string { data := #[] }, .string { data := #[] }, .string { data := #[] }, .bool false, .bool false, .bool false], .agg #[.int .i64 0, .int .i64 0, .string { data := #[] }, .slice none 0 0, .slice none 0 0, .slice none 0 0, .int .i64 0]] (World.laidAll_os _ _ _) (by kernel_rfl) (by kernel_rfl) (by kernel_rfl)
      (OpenSpec.preRow_of_cond 8 hx (by kernel_rfl) (fun k hk => by cases hk) (by kernel_rfl) (laid_met os))) ?_
  intro W base args ds gs before hval0 hW _ hcond hsz0 hL hsh _
  have hsz : (DataW.weightsEach Tryd.prog (Tryd.f4.params.toList ++ Rows.spellWritesSpec.plain.varTypes Tryd.prog) (ds ++ gs)).all (· ≤ reachBytes) = true := hsz0
  clear hsz0
  have hval : ∀ (j : Nat) t v, Tryd.f4.params[j]? = some t → args[j]? = some v → Value.okWide Tryd.prog W .any base t v := hval0
  have hW' := hW
  obtain ⟨p, q, hA0, hV, rfl, hfz, hnd⟩ := hW
  have hA : DataW.TrodAll enc Tryd.prog W 0 (fun _ => true) true Tryd.f4.params.toList args.toList ds p := hA0
  rw [Tryd.params4] at hA hval hsz
  obtain ⟨v0, vs0, d0, ds0, p0, q0, hargs, rfl, rfl, h0, r0⟩ := trodAll_cons hA
  obtain ⟨v1, vs1, d1, ds1, p1, q1, rfl, rfl, rfl, h1, r1⟩ := trodAll_cons r0
  obtain ⟨rfl, rfl, rfl⟩ := trodAll_nil r1
  obtain rfl : args = #[v0, v1] := by cases args; simp_all
  obtain ⟨rfl, rfl⟩ := trodVars_none hV
  have k0 := h0
  have lt0 : ∀ x ∈ p0, x.block < W.heap.size := by obtain ⟨m, hm⟩ := k0; exact DataW.trod_lt m _ _ _ hm
  have hft : Fit 27 d0 := fit_of hsz (j := 0) rfl rfl
  obtain ⟨fu0, hfu0⟩ := h0
  obtain ⟨G, hc0, LG, sl⟩ := open_gram hfu0 hft
  obtain rfl : v0 = gV G := agg_of hc0 (by simp [gV, Value.cells])
  have k1 := h1
  have lt1 : ∀ x ∈ p1, x.block < W.heap.size := by obtain ⟨m, hm⟩ := k1; exact DataW.trod_lt m _ _ _ hm
  obtain ⟨m1, n1, y1, c10, c11, c12, c13, c14, c15, c16, hc1, w1, i1⟩ := node_ofM hsz (j := 1) rfl rfl h1
  obtain rfl := agg_seven hc1
  clear hA0 hval0
  refine (walk G LG sl m1 n1 y1 _ W (glb_of hL) w1 i1).mono fun e W' ⟨he, bel⟩ => ?_
  subst he
  exact ⟨_, rfl, _, _, _, [], _, [], hW', trodAll_mk1 (shut_bool Tryd.underlying4 _), (trodAll_cons_mk (Below.trod laidOut (by kernel_rfl) (of_decide_eq_true (by kernel_rfl)) k0 bel lt0) (trodAll_cons_mk (Below.trod laidOut (by kernel_rfl) (of_decide_eq_true (by kernel_rfl)) k1 bel lt1) trodAll_mk0)), rfl, bel.frame _, fun h => by cases h⟩
theorem said : Rows.SpellWritesSaid :=
  OpenClaim.holds_of_cond 4 Tryd.f4 rfl rfl rfl rfl rfl rfl rfl ⟨rfl, rfl, rfl, rfl, rfl⟩ rfl rfl rfl rfl rfl (by kernel_rfl) Tryd.func4 (by kernel_rfl)
    (of_decide_eq_true (by kernel_rfl)) (by unfold Func.isWrapper; first | (rw [if_pos (by decide +kernel)]; kernel_rfl) | (rw [if_neg (by decide +kernel)]; exact ⟨rfl, rfl⟩))
    (fun os started H enc _ F => by rw [OpenClaim.pre_eq_preRow]; exact lifted os started H enc F)
theorem plain (f : FuncId) (fn : Func) (hf : Tryd.pinned.checked.prog.funcNamed "triglyph/triglyphlaw16.SpellWrites" = some f) (hfn : Tryd.pinned.checked.prog.funcs[f]? = some fn) :
    false = Tryd.pinned.checked.prog.looks [] ∧ ∀ (j : Nat) t, fn.params[j]? = some t → Tryd.pinned.checked.prog.wantsStandIn t = false := by
  obtain rfl : f = 4 := Option.some.inj ((show Tryd.prog.funcNamed "triglyph/triglyphlaw16.SpellWrites" = some 4 by kernel_rfl).symm.trans hf) |>.symm
  obtain rfl : fn = Tryd.f4 := (Option.some.inj (Tryd.func4.symm.trans hfn)).symm
  refine ⟨by kernel_rfl, fun j t ht => ?_⟩
  rw [Tryd.params4] at ht
  have hm : t = 27 ∨ t = 34 := by simpa using Array.mem_of_getElem? ht
  rcases hm with rfl | rfl
  · exact (show Tryd.prog.wantsStandIn 27 = false by kernel_rfl)
  · exact (show Tryd.prog.wantsStandIn 34 = false by kernel_rfl)
theorem proved : Rows.SpellWritesCardSaid :=
  Claim7.holds_tied_plain_at .later [] _ _ _ _ said (fun _ h => by cases h) (by kernel_rfl) (fun _ h => by cases h) spellWrites_row_tie rfl ⟨rfl, rfl⟩ (by kernel_rfl) rfl plain (by kernel_rfl)
end Go.Proofs.YtneblkdkhlgmcaaDoor.spellWrites
namespace Go.Proofs.YtneblkdkhlgmcaaDoor
theorem spellWrites_holds : Rows.SpellWritesCardSaid := spellWrites.proved
#print axioms spellWrites_holds
end Go.Proofs.YtneblkdkhlgmcaaDoor
