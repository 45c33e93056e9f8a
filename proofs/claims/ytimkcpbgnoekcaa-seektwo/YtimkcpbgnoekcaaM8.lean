/-
  The contract of layer 7's numbered, with both functions that it is handed.
  The contracts of layer 7's found and among.
  The contract of layer 7's inOrder where it says no.
  The contract of layer 7's Mo.
  The contract of the document's place of layer 7.
  The contract of the document's Dy of layer 7: where cells stand.
-/
import Derived.Test.YtimkcpbgnoekcaaM7
import Derived.Test.YtimkcpbgnoekcaaChecked
import GoSem.Claim
import GoSem.ClaimJoined
import GoSem.ClaimMapViews
import Derived.JoinedTies
import Derived.KernelRfl
import Derived.WalkKit
import Derived.ProofKit
import Derived.Below
import Derived.Deep.OwnRows
import Derived.Deep.QuietTactic
import Derived.BigQuiet
import Derived.Deep.RegionWith
import Derived.Laws.MakeOwn
import Derived.Deep.RegionHeld3
import Derived.Laws.IdiomCopy
import Derived.Deep.Cut
import Derived.Deep.LoopGhost
import Derived.OpenShut
import Derived.ChangeOld
import Derived.SizedLaws
import Derived.Deep.Slices
import Derived.Deep.Strs
import Derived.Laws.AppendOwn
import Derived.BigFrame
import Derived.Deep.CutRange
import Derived.Deep.RegionLaw
import Derived.Laws.OwnMore
import Derived.Lib.SliceRun
import Derived.Laws.CopyOwn
import Derived.Lib.Mul64
import Derived.Lib.Overlaps
import Derived.Laws.EntriesVeiled
namespace Go.Proofs.Ytimkcpbgnoekcaa
open Go.ChangeShapes Go.WideShapes Go.ChangeAt Go.RowKit
set_option linter.unusedVariables false
set_option maxRecDepth 100000
/-- All blocks from a number on, but one, are as they were. -/
def KeepsBut (lo o : Nat) (w w' : World) : Prop := w.heap.size ≤ w'.heap.size ∧ ∀ b, lo ≤ b → b < w.heap.size → b ≠ o → w'.heap[b]? = w.heap[b]?
/-- A new array whose cells are still noughts: its shape, its variable and its cells lie apart. -/
structure NewOut (W wx : World) (O C : Nat) (s : Option Addr) (k SA CA : Nat) (shape : List Int) : Prop where
  bel : Below W.heap.size W wx
  hO : W.heap.size ≤ O
  hC : W.heap.size ≤ C
  lO : O < wx.heap.size
  lC : C < wx.heap.size
  ne : O ≠ C
  c0 : wx.cell? ⟨O, 0, none⟩ = some (.slice s SA k)
  c1 : wx.cell? ⟨O, 1, none⟩ = some (.slice (some ⟨C, 0, none⟩) CA CA)
  row : wx.rowIs C 39 (CA * 3) zero3
  cap : SA ≤ k
  shp : ∀ V, KeepsBut W.heap.size C wx V → Row W.heap.size V s shape
theorem shp_of {W w5 wx : World} {lo5 C : Nat} {s : Option Addr} {shape : List Int} (hr : Row lo5 w5 s shape) (hlo : W.heap.size ≤ lo5) (hK : Keeps lo5 w5 wx) (hC5 : C < lo5 ∨ w5.heap.size ≤ C) : ∀ V, KeepsBut W.heap.size C wx V → Row W.heap.size V s shape := fun V hV =>
  (hr.keeps ⟨Nat.le_trans hK.1 hV.1, fun b h1 h2 => (hV.2 b (by omega) (Nat.lt_of_lt_of_le h2 hK.1) (by omega)).trans (hK.2 b h1 h2)⟩).low hlo
def zeroC (CA : Nat) : Obj := .cells (madeCells #[.int .i64 0, .int .i64 0, .slice none 0 0] (CA * 3)) 39
theorem row_zeroC (w : World) (CA : Nat) : (w.alloc (zeroC CA)).rowIs w.heap.size 39 (CA * 3) zero3 := rowIs_made3 w (CA * 3)
/-- Cells, then the variable, behind the clone. -/
theorem out1 {W Wc w5 : World} {s : Option Addr} {k SA CA : Nat} {shape : List Int} (g5 : Below W.heap.size W w5) (hc : W.heap.size ≤ Wc.heap.size) (hr : Row Wc.heap.size w5 s shape) (hk : SA ≤ k) : NewOut W ((w5.alloc (zeroC CA)).alloc (.cells #[.slice s SA k, .slice (some ⟨w5.heap.size, 0, none⟩) CA CA] 25)) (w5.heap.size + 1) w5.heap.size s k SA CA shape := by
  have e : (w5.alloc (zeroC CA)).heap.size = w5.heap.size + 1 := by simp
  have z0 := cell_new0 (w5.alloc (zeroC CA)) #[.slice s SA k, .slice (some ⟨w5.heap.size, 0, none⟩) CA CA] 25 0 _ rfl
  have z1 := cell_new0 (w5.alloc (zeroC CA)) #[.slice s SA k, .slice (some ⟨w5.heap.size, 0, none⟩) CA CA] 25 1 _ rfl
  rw [e] at z0 z1
  have hs := g5.size
  exact ⟨(g5.alloc g5.size _).alloc (by rw [e]; omega) _, by omega, hs, by simp, by simp; omega, by omega, z0, z1, (row_zeroC w5 CA).of_block ((one_alloc _ _).block _ (by rw [e]; omega)), hk, shp_of hr hc (keeps_of_below (two_allocs _ _ _)) (Or.inr (Nat.le_refl _))⟩
theorem out2 {W Wc w5 : World} {s : Option Addr} {k SA CA : Nat} {shape : List Int} (g5 : Below W.heap.size W w5) (hc : W.heap.size ≤ Wc.heap.size) (hr : Row Wc.heap.size w5 s shape) (hk : SA ≤ k) : NewOut W ((w5.alloc (.cells #[.slice s SA k, .slice (some ⟨w5.heap.size + 1, 0, none⟩) CA CA] 25)).alloc (zeroC CA)) w5.heap.size (w5.heap.size + 1) s k SA CA shape := by
  have e : (w5.alloc (.cells #[.slice s SA k, .slice (some ⟨w5.heap.size + 1, 0, none⟩) CA CA] 25)).heap.size = w5.heap.size + 1 := by simp
  have B := one_alloc (w5.alloc (.cells #[.slice s SA k, .slice (some ⟨w5.heap.size + 1, 0, none⟩) CA CA] 25)) (zeroC CA)
  have r := row_zeroC (w5.alloc (.cells #[.slice s SA k, .slice (some ⟨w5.heap.size + 1, 0, none⟩) CA CA] 25)) CA
  rw [e] at r
  have hs := g5.size
  exact ⟨(g5.alloc g5.size _).alloc (by rw [e]; omega) _, hs, by omega, by simp; omega, by simp, by omega, (B.cell (p := ⟨w5.heap.size, 0, none⟩) (by rw [e]; show w5.heap.size < _; omega)).trans (cell_new0 w5 _ 25 0 _ rfl), (B.cell (p := ⟨w5.heap.size, 1, none⟩) (by rw [e]; show w5.heap.size < _; omega)).trans (cell_new0 w5 _ 25 1 _ rfl), r, hk, shp_of hr hc (keeps_of_below (two_allocs _ _ _)) (Or.inr (by omega))⟩
theorem out3 {W Wc w5 : World} {C : Nat} {s : Option Addr} {k SA CA : Nat} {shape : List Int} (g5 : Below W.heap.size W w5) (hb5 : Below Wc.heap.size Wc w5) (hC : W.heap.size ≤ C) (lC : C < Wc.heap.size) (rz : Wc.rowIs C 39 (CA * 3) zero3) (hr : Row Wc.heap.size w5 s shape) (hk : SA ≤ k) : NewOut W (w5.alloc (.cells #[.slice s SA k, .slice (some ⟨C, 0, none⟩) CA CA] 25)) w5.heap.size C s k SA CA shape := by
  have hs := g5.size
  have hs5 := hb5.size
  exact ⟨g5.alloc g5.size _, hs, hC, by simp, by simp; omega, by omega, cell_new0 w5 _ 25 0 _ rfl, cell_new0 w5 _ 25 1 _ rfl, (rz.of_block (hb5.block _ lC)).of_block ((one_alloc _ _).block _ (by omega)), hk, shp_of hr (by omega) (keeps_of_below (one_alloc _ _)) (Or.inl lC)⟩
theorem out4 {W Wc w5 : World} {O C : Nat} {s : Option Addr} {k SA CA : Nat} {shape : List Int} (g5 : Below W.heap.size W w5) (hb5 : Below Wc.heap.size Wc w5) (z : Zb Wc O) (hO : W.heap.size ≤ O) (hC : W.heap.size ≤ C) (lC : C < Wc.heap.size) (ne : O ≠ C) (rz : Wc.rowIs C 39 (CA * 3) zero3) (hr : Row Wc.heap.size w5 s shape) (hk : SA ≤ k) : NewOut W ((w5.setCell ⟨O, 0, none⟩ (.slice s SA k)).setCell ⟨O, 1, none⟩ (.slice (some ⟨C, 0, none⟩) CA CA)) O C s k SA CA shape := by
  have hs5 := hb5.size
  obtain ⟨k0, k1, k2, k3, k4⟩ := z.next hb5
  have st := set_two k0 k1 (.slice s SA k) (.slice (some ⟨C, 0, none⟩) CA CA)
  have lz := z.2.2.2.2
  refine ⟨(g5.setCell (p := ⟨O, 0, none⟩) hO _).setCell (p := ⟨O, 1, none⟩) hO _, hO, hC, by simpa using k4, by simp; omega, ne, by rw [World.cell?_setCell_other _ _ _ _ (by simp)]; exact st.1, st.2, ?_, hk, shp_of hr (by omega) (((Keeps.refl _ _).setCell (p := ⟨O, 0, none⟩) lz _).setCell (p := ⟨O, 1, none⟩) lz _) (Or.inl lC)⟩
  exact (rz.of_block (hb5.block _ lC)).of_block (by rw [Below.heap_setCell _ _ _ _ (by show C ≠ O; omega), Below.heap_setCell _ _ _ _ (by show C ≠ O; omega)])
theorem out5 {W Wc w5 : World} {O : Nat} {s : Option Addr} {k SA CA : Nat} {shape : List Int} (g5 : Below W.heap.size W w5) (hb5 : Below Wc.heap.size Wc w5) (z : Zb Wc O) (hO : W.heap.size ≤ O) (hr : Row Wc.heap.size w5 s shape) (hk : SA ≤ k) : NewOut W (((w5.alloc (zeroC CA)).setCell ⟨O, 0, none⟩ (.slice s SA k)).setCell ⟨O, 1, none⟩ (.slice (some ⟨w5.heap.size, 0, none⟩) CA CA)) O w5.heap.size s k SA CA shape := by
  have hs := g5.size
  have hs5 := hb5.size
  have lz := z.2.2.2.2
  obtain ⟨k0, k1, k2, k3, k4⟩ := (z.next hb5).next (one_alloc w5 (zeroC CA))
  have st := set_two k0 k1 (.slice s SA k) (.slice (some ⟨w5.heap.size, 0, none⟩) CA CA)
  have e : (w5.alloc (zeroC CA)).heap.size = w5.heap.size + 1 := by simp
  refine ⟨((g5.alloc g5.size _).setCell (p := ⟨O, 0, none⟩) hO _).setCell (p := ⟨O, 1, none⟩) hO _, hO, hs, by simpa using k4, by simp, by omega, by rw [World.cell?_setCell_other _ _ _ _ (by simp)]; exact st.1, st.2, ?_, hk, shp_of hr (by omega) (((keeps_of_below (one_alloc _ _)).setCell (p := ⟨O, 0, none⟩) lz _).setCell (p := ⟨O, 1, none⟩) lz _) (Or.inr (Nat.le_refl _))⟩
  exact (row_zeroC w5 CA).of_block (by rw [Below.heap_setCell _ _ _ _ (by show w5.heap.size ≠ O; omega), Below.heap_setCell _ _ _ _ (by show w5.heap.size ≠ O; omega)])
theorem row_zeroC1 (w : World) (CA : Nat) : ((w.alloc (.cells #[.slice none 0 0, .slice none 0 0] 25)).alloc (zeroC CA)).rowIs (w.heap.size + 1) 39 (CA * 3) zero3 := by
  have r := row_zeroC (w.alloc (.cells #[.slice none 0 0, .slice none 0 0] 25)) CA
  have e : (w.alloc (.cells #[.slice none 0 0, .slice none 0 0] 25)).heap.size = w.heap.size + 1 := by simp
  rw [e] at r
  exact r
theorem zb_pair (w : World) (Z : Obj) : Zb ((w.alloc (.cells #[.slice none 0 0, .slice none 0 0] 25)).alloc Z) w.heap.size ∧ Zb ((w.alloc Z).alloc (.cells #[.slice none 0 0, .slice none 0 0] 25)) (w.heap.size + 1) := by
  refine ⟨(Zb.new w).next (one_alloc _ Z), ?_⟩
  have := Zb.new (w.alloc Z)
  have e : (w.alloc Z).heap.size = w.heap.size + 1 := by simp
  rw [e] at this
  exact this
set_option maxHeartbeats 8000000 in
theorem numbered_49 {n m lo lo' SA CA c1 c2 : Nat} {x : Ar} {a1 a2 : Option Addr} {ab : Nat → Option Addr} {cb : Nat → Nat} {p : Value} {V : Nat → Int} {w : World} (R : Row lo' w a1 x.shape) (hcf : CellsFn n lo w x.cells a2 ab cb) (hSA : x.shape.length = SA) (hCA : x.cells.length = CA) (h8 : SA ≤ 8) (h16 : CA ≤ 16384)
    (K : ∀ W, Below w.heap.size w W → ∀ i, i < CA → Calls Try.prog 49 #[.agg #[.int .i64 (cAt x.cells i).1, .int .i64 (cAt x.cells i).2.1, .slice (ab i) (cAt x.cells i).2.2.length (cb i)], p] W fun e w' => e = .returned (.int .i64 (V i)) ∧ Below W.heap.size W w') :
    Calls Try.prog 48 #[.agg #[.slice a1 SA c1, .slice a2 CA c2], .func (.func 49) #[] #[p]] w fun e w' => (∃ v, e = .returned v ∧ Caps v ∧ ArIn (m + 1) w.heap.size w' (.mk x.shape (numCs 0 ((List.range CA).map V))) v) ∧ Below w.heap.size w w' := by
  have I := in2_new w (.slice a1 SA c1) (.slice a2 CA c2)
  obtain ⟨W2, e2⟩ : ∃ W2, (w.alloc (.cells #[.slice a1 SA c1, .slice a2 CA c2] 25)).alloc (.cells #[.slice none 0 0, .slice none 0 0] 25) = W2 := ⟨_, rfl⟩
  rw [e2] at I
  have q0 := I.q0
  have q1 := I.q1
  have mk : ∀ w : World, (Instr.makeSlice 23 (.int .i64 (CA : Int)) (.int .i64 (CA : Int))).run Try.prog w = .ok (.slice (some ⟨w.heap.size, 0, none⟩) CA CA) (w.alloc (zeroC CA)) := make_cells CA (by omega)
  have HI := hide I
  have CC : Hid (∀ W, Below W2.heap.size W2 W → Calls Try.prog 57 #[.slice a1 SA c1] W fun e w' => (∃ a' cap', e = .returned (.slice a' SA cap') ∧ SA ≤ cap' ∧ Row W.heap.size w' a' x.shape) ∧ Below W2.heap.size W2 w' ∧ Below W.heap.size W w') := fun W hW => by
    have C := clone_any x.shape a1 c1 W ((R.next I.bel).next hW) (by omega)
    rw [hSA] at C
    refine C.mono ?_
    rintro e w' ⟨⟨a', cap', rfl, hO⟩, hb⟩
    rw [← hSA]
    exact ⟨⟨a', cap', rfl, hO.1, hO.2.2⟩, hW.trans (hb.mono hW.size), hb⟩
  obtain ⟨Z, hZ⟩ : ∃ Z : Obj, Z = zeroC CA := ⟨_, rfl⟩
  rw [← hZ] at mk
  have HZ := hide hZ
  clear hZ
  have HK := hide K
  have HCF : Hid (CellsFn n lo w x.cells a2 ab cb) := hcf
  have HLEN := hide (And.intro hSA hCA)
  have HBE := hide I.bel
  clear I K hcf R hSA hCA
  go_enter Try.func48, Try.ntmps48
  go_upto_region 1 with fail

  go_cut [5] from 8 to 15 (fun s5 wx => ∃ O C s k, s5 = .pointer (some ⟨O, 0, none⟩) ∧ NewOut W2 wx O C s k SA CA x.shape)
  case first =>
    have HD0 : Hid (Below W2.heap.size W2 W2.drew) := (Below.refl _ _).drew
    have HD1 : Hid (Below W2.heap.size W2 (W2.alloc (.cells #[.slice none 0 0, .slice none 0 0] 25)).drew) := (one_alloc _ _).drew
    have HD2 : Hid (Below W2.heap.size W2 (W2.drew.alloc (.cells #[.slice none 0 0, .slice none 0 0] 25))) := (Below.refl _ _).drew.alloc (Nat.le_refl _) _
    have HD3 : Hid (Below W2.heap.size W2 (W2.alloc Z).drew) := (one_alloc _ _).drew
    have HD4 : Hid (Below W2.heap.size W2 (W2.drew.alloc Z)) := (Below.refl _ _).drew.alloc (Nat.le_refl _) _
    have HD5 : Hid (Below W2.heap.size W2 ((W2.alloc (.cells #[.slice none 0 0, .slice none 0 0] 25)).alloc Z).drew) := (two_allocs _ _ _).drew
    have HD6 : Hid (Below W2.heap.size W2 ((W2.alloc (.cells #[.slice none 0 0, .slice none 0 0] 25)).drew.alloc Z)) := ((one_alloc _ _).drew.alloc (by simp) _)
    have HD7 : Hid (Below W2.heap.size W2 ((W2.drew.alloc (.cells #[.slice none 0 0, .slice none 0 0] 25)).alloc Z)) := (((Below.refl _ _).drew.alloc (Nat.le_refl _) _).alloc (by simp) _)
    have HD8 : Hid (Below W2.heap.size W2 ((W2.alloc Z).alloc (.cells #[.slice none 0 0, .slice none 0 0] 25)).drew) := (two_allocs _ _ _).drew
    have HD9 : Hid (Below W2.heap.size W2 ((W2.alloc Z).drew.alloc (.cells #[.slice none 0 0, .slice none 0 0] 25))) := ((one_alloc _ _).drew.alloc (by simp) _)
    have HD10 : Hid (Below W2.heap.size W2 ((W2.drew.alloc Z).alloc (.cells #[.slice none 0 0, .slice none 0 0] 25))) := (((Below.refl _ _).drew.alloc (Nat.le_refl _) _).alloc (by simp) _)
    have HAL : Hid (∀ W o, Below W2.heap.size W2 W → Below W2.heap.size W2 (W.alloc o)) := fun W o h => h.alloc h.size o
    have HSET : Hid (∀ W b u v, Below W2.heap.size W2 W → W2.heap.size ≤ b → Below W2.heap.size W2 ((W.setCell ⟨b, 0, none⟩ u).setCell ⟨b, 1, none⟩ v)) := fun W b u v h hb => (h.setCell (p := ⟨b, 0, none⟩) hb u).setCell (p := ⟨b, 1, none⟩) hb v
    have HLE : Hid (W2.heap.size ≤ W2.heap.size) := Nat.le_refl _
    have HLE1 : Hid (W2.heap.size ≤ W2.heap.size + 1) := Nat.le_succ _
    have KS : Hid (∀ W, Below W2.heap.size W2 W → (Below W2.heap.size W2 W ∧ W.cell? ⟨w.heap.size, 0, none⟩ = some (.slice a1 SA c1) ∧ W.cell? ⟨w.heap.size, 1, none⟩ = some (.slice a2 CA c2))) := fun W h => ⟨h, (HI.out.next h).q0, (HI.out.next h).q1⟩
    go_region_held3 (fun W => Below W2.heap.size W2 W ∧ W.cell? ⟨w.heap.size, 0, none⟩ = some (.slice a1 SA c1) ∧ W.cell? ⟨w.heap.size, 1, none⟩ = some (.slice a2 CA c2))
      (first | with_reducible exact KS.out _ HD0.out | with_reducible exact KS.out _ HD1.out | with_reducible exact KS.out _ HD2.out | with_reducible exact KS.out _ HD3.out | with_reducible exact KS.out _ HD4.out | with_reducible exact KS.out _ HD5.out | with_reducible exact KS.out _ HD6.out | with_reducible exact KS.out _ HD7.out | with_reducible exact KS.out _ HD8.out | with_reducible exact KS.out _ HD9.out | with_reducible exact KS.out _ HD10.out | with_reducible exact KS.out _ (by with_reducible assumption) | with_reducible exact KS.out _ (HAL.out _ _ (by with_reducible assumption)) | with_reducible exact KS.out _ (HAL.out _ _ (HAL.out _ _ (by with_reducible assumption))) | with_reducible exact KS.out _ (HSET.out _ _ _ _ (by with_reducible assumption) HLE.out) | with_reducible exact KS.out _ (HSET.out _ _ _ _ (by with_reducible assumption) HLE1.out) | with_reducible exact KS.out _ (HSET.out _ _ _ _ (HAL.out _ _ (by with_reducible assumption)) HLE.out))
      (first | (go_at_call 57; first | ((with_reducible refine (CC.out _ HD0.out).mono ?_); rintro e w5 ⟨⟨s, k, rfl, hk, hr⟩, g5, hb5⟩; have q05 := (HI.out.next g5).q0; have q15 := (HI.out.next g5).q1; obtain ⟨⟨n0, n1, n2, n3, -⟩, ⟨t0, t1, t2, t3, -⟩⟩ := zb_pair w5 Z) | ((with_reducible refine (CC.out _ HD1.out).mono ?_); rintro e w5 ⟨⟨s, k, rfl, hk, hr⟩, g5, hb5⟩; have q05 := (HI.out.next g5).q0; have q15 := (HI.out.next g5).q1; obtain ⟨⟨n0, n1, n2, n3, -⟩, ⟨t0, t1, t2, t3, -⟩⟩ := zb_pair w5 Z; obtain ⟨k0, k1, k2, k3, -⟩ := (Zb.new W2).drew.next hb5; obtain ⟨m0, m1, m2, m3, -⟩ := ((Zb.new W2).drew.next hb5).next (one_alloc _ Z)) | ((with_reducible refine (CC.out _ HD2.out).mono ?_); rintro e w5 ⟨⟨s, k, rfl, hk, hr⟩, g5, hb5⟩; have q05 := (HI.out.next g5).q0; have q15 := (HI.out.next g5).q1; obtain ⟨⟨n0, n1, n2, n3, -⟩, ⟨t0, t1, t2, t3, -⟩⟩ := zb_pair w5 Z; obtain ⟨k0, k1, k2, k3, -⟩ := (show Zb (W2.drew.alloc (.cells #[.slice none 0 0, .slice none 0 0] 25)) W2.heap.size from Zb.new W2).next hb5; obtain ⟨m0, m1, m2, m3, -⟩ := ((show Zb (W2.drew.alloc (.cells #[.slice none 0 0, .slice none 0 0] 25)) W2.heap.size from Zb.new W2).next hb5).next (one_alloc _ Z)) | ((with_reducible refine (CC.out _ HD3.out).mono ?_); rintro e w5 ⟨⟨s, k, rfl, hk, hr⟩, g5, hb5⟩; have q05 := (HI.out.next g5).q0; have q15 := (HI.out.next g5).q1; obtain ⟨⟨n0, n1, n2, n3, -⟩, ⟨t0, t1, t2, t3, -⟩⟩ := zb_pair w5 Z) | ((with_reducible refine (CC.out _ HD4.out).mono ?_); rintro e w5 ⟨⟨s, k, rfl, hk, hr⟩, g5, hb5⟩; have q05 := (HI.out.next g5).q0; have q15 := (HI.out.next g5).q1; obtain ⟨⟨n0, n1, n2, n3, -⟩, ⟨t0, t1, t2, t3, -⟩⟩ := zb_pair w5 Z) | ((with_reducible refine (CC.out _ HD5.out).mono ?_); rintro e w5 ⟨⟨s, k, rfl, hk, hr⟩, g5, hb5⟩; have q05 := (HI.out.next g5).q0; have q15 := (HI.out.next g5).q1; obtain ⟨⟨n0, n1, n2, n3, -⟩, ⟨t0, t1, t2, t3, -⟩⟩ := zb_pair w5 Z; obtain ⟨k0, k1, k2, k3, -⟩ := ((Zb.new W2).next (one_alloc _ _)).drew.next hb5; obtain ⟨m0, m1, m2, m3, -⟩ := (((Zb.new W2).next (one_alloc _ _)).drew.next hb5).next (one_alloc _ Z)) | ((with_reducible refine (CC.out _ HD6.out).mono ?_); rintro e w5 ⟨⟨s, k, rfl, hk, hr⟩, g5, hb5⟩; have q05 := (HI.out.next g5).q0; have q15 := (HI.out.next g5).q1; obtain ⟨⟨n0, n1, n2, n3, -⟩, ⟨t0, t1, t2, t3, -⟩⟩ := zb_pair w5 Z; obtain ⟨k0, k1, k2, k3, -⟩ := ((Zb.new W2).drew.next (one_alloc _ _)).next hb5; obtain ⟨m0, m1, m2, m3, -⟩ := (((Zb.new W2).drew.next (one_alloc _ _)).next hb5).next (one_alloc _ Z)) | ((with_reducible refine (CC.out _ HD7.out).mono ?_); rintro e w5 ⟨⟨s, k, rfl, hk, hr⟩, g5, hb5⟩; have q05 := (HI.out.next g5).q0; have q15 := (HI.out.next g5).q1; obtain ⟨⟨n0, n1, n2, n3, -⟩, ⟨t0, t1, t2, t3, -⟩⟩ := zb_pair w5 Z; obtain ⟨k0, k1, k2, k3, -⟩ := ((show Zb (W2.drew.alloc (.cells #[.slice none 0 0, .slice none 0 0] 25)) W2.heap.size from Zb.new W2).next (one_alloc _ _)).next hb5; obtain ⟨m0, m1, m2, m3, -⟩ := (((show Zb (W2.drew.alloc (.cells #[.slice none 0 0, .slice none 0 0] 25)) W2.heap.size from Zb.new W2).next (one_alloc _ _)).next hb5).next (one_alloc _ Z)) | ((with_reducible refine (CC.out _ HD8.out).mono ?_); rintro e w5 ⟨⟨s, k, rfl, hk, hr⟩, g5, hb5⟩; have q05 := (HI.out.next g5).q0; have q15 := (HI.out.next g5).q1; obtain ⟨⟨n0, n1, n2, n3, -⟩, ⟨t0, t1, t2, t3, -⟩⟩ := zb_pair w5 Z; obtain ⟨k0, k1, k2, k3, -⟩ := (zb_pair W2 Z).2.drew.next hb5; obtain ⟨m0, m1, m2, m3, -⟩ := ((zb_pair W2 Z).2.drew.next hb5).next (one_alloc _ Z)) | ((with_reducible refine (CC.out _ HD9.out).mono ?_); rintro e w5 ⟨⟨s, k, rfl, hk, hr⟩, g5, hb5⟩; have q05 := (HI.out.next g5).q0; have q15 := (HI.out.next g5).q1; obtain ⟨⟨n0, n1, n2, n3, -⟩, ⟨t0, t1, t2, t3, -⟩⟩ := zb_pair w5 Z; obtain ⟨k0, k1, k2, k3, -⟩ := (show Zb ((W2.alloc Z).drew.alloc (.cells #[.slice none 0 0, .slice none 0 0] 25)) (W2.heap.size + 1) from (zb_pair W2 Z).2).next hb5; obtain ⟨m0, m1, m2, m3, -⟩ := ((show Zb ((W2.alloc Z).drew.alloc (.cells #[.slice none 0 0, .slice none 0 0] 25)) (W2.heap.size + 1) from (zb_pair W2 Z).2).next hb5).next (one_alloc _ Z)) | ((with_reducible refine (CC.out _ HD10.out).mono ?_); rintro e w5 ⟨⟨s, k, rfl, hk, hr⟩, g5, hb5⟩; have q05 := (HI.out.next g5).q0; have q15 := (HI.out.next g5).q1; obtain ⟨⟨n0, n1, n2, n3, -⟩, ⟨t0, t1, t2, t3, -⟩⟩ := zb_pair w5 Z; obtain ⟨k0, k1, k2, k3, -⟩ := (show Zb ((W2.drew.alloc Z).alloc (.cells #[.slice none 0 0, .slice none 0 0] 25)) (W2.heap.size + 1) from (zb_pair W2 Z).2).next hb5; obtain ⟨m0, m1, m2, m3, -⟩ := ((show Zb ((W2.drew.alloc Z).alloc (.cells #[.slice none 0 0, .slice none 0 0] 25)) (W2.heap.size + 1) from (zb_pair W2 Z).2).next hb5).next (one_alloc _ Z))))
    all_goals
      have HR5 := hide (And.intro g5 (And.intro hb5 (And.intro hr hk)))
      clear hr hb5 g5
      go_wp2
      go_meet
    all_goals
      case rel =>
        obtain rfl := HZ.out
        obtain ⟨g5, hb5, hr, hk⟩ := HR5.out
        first
          | exact ⟨_, _, s, k, rfl, out1 g5 (Nat.le_refl _) hr hk⟩
          | exact ⟨_, _, s, k, rfl, out2 g5 (Nat.le_refl _) hr hk⟩
          | exact ⟨_, _, s, k, rfl, out3 g5 hb5 (Nat.le_refl _) (by simp) (row_zeroC W2 CA) hr hk⟩
          | exact ⟨_, _, s, k, rfl, out5 g5 hb5 (Zb.new W2) (Nat.le_refl _) hr hk⟩
          | exact ⟨_, _, s, k, rfl, out4 g5 hb5 (zb_pair W2 (zeroC CA)).2 (Nat.le_succ _) (Nat.le_refl _) (by simp; omega) (by omega) ((row_zeroC W2 CA).of_block ((one_alloc _ _).block _ (by simp))) hr hk⟩
          | exact ⟨_, _, s, k, rfl, out4 g5 hb5 (zb_pair W2 (zeroC CA)).1 (Nat.le_refl _) (Nat.le_succ _) (by simp) (by omega) (row_zeroC1 W2 CA) hr hk⟩
  case rest =>
  obtain ⟨O, C, s, k, rfl, NO⟩ := hcut
  obtain ⟨W3, hW3⟩ : ∃ W3, W3 = wc := ⟨_, rfl⟩
  subst hW3
  obtain ⟨L, hL⟩ : ∃ L, (List.range CA).map V = L := ⟨_, rfl⟩
  have hLl : L.length = CA := by rw [← hL]; simp
  have hLv : ∀ i, i < CA → L[i]?.getD 0 = V i := fun i hi => by rw [← hL]; simp [hi]
  have R0 : W3.rowIs C 39 (CA * 3) (numF 0 L 0) := NO.row.congr fun i hi => by simp [numF]
  have HNO := hide NO
  have HLL := hide (And.intro hL (And.intro hLl hLv))
  have HR0 := hide R0
  have I3 := HI.out.next NO.bel
  have q1' := I3.q1
  have hz2 := HI.out.size
  have HSZ := hide hz2
  clear NO R0 hL hLl hLv q0 q1 mk CC I3 hz2
  go_wp2
  clear q1'
  go_loopg [6, 7, 19] CA (fun M _a _b i wr => ∃ j : Nat, M + j = CA ∧ i = .int .i64 (j : Int) ∧ Below W2.heap.size W2 wr ∧ KeepsBut W2.heap.size C W3 wr ∧ wr.rowIs C 39 (CA * 3) (numF 0 L j))
  case atStart => exact ⟨0, rfl, rfl, HNO.out.bel, ⟨Nat.le_refl _, fun _ _ _ _ => rfl⟩, HR0.out⟩
  case round =>
    clear HR0
    obtain ⟨j, hM, rfl, hbw, hkb, hrow⟩ := hrel
    have no := HNO.out
    have hks := hkb.1
    have cellO : ∀ (i : Nat) (v : Value), W3.cell? ⟨O, i, none⟩ = some v → wr.cell? ⟨O, i, none⟩ = some v := fun i v h => by
      have hb := hkb.2 O no.hO no.lO no.ne
      unfold World.cell? at h ⊢
      simp only [hb]
      exact h
    have o0 := cellO 0 _ no.c0
    have o1 := cellO 1 _ no.c1
    have I4 := HI.out.next hbw
    by_cases hlt : j < CA
    · have hltz : (j : Int) < (CA : Int) := by omega
      have hww : Below w.heap.size w wr := HBE.out.trans (hbw.mono HBE.out.size)
      obtain ⟨bb, off, rfl, -, hbb, hcells⟩ := HCF.out (by rw [HLEN.out.2]; omega)
      obtain ⟨g0, g1, g2, -⟩ := hcells j (by rw [HLEN.out.2]; exact hlt)
      have u0 := (hww.cell (p := ⟨bb, off + j * 3, none⟩) hbb).trans g0
      have u1 := (hww.cell (p := ⟨bb, off + j * 3 + 1, none⟩) hbb).trans g1
      have u2 := (hww.cell (p := ⟨bb, off + j * 3 + 2, none⟩) hbb).trans g2
      have KJ := fun W hW => HK.out W hW j hlt
      have hVj := HLL.out.2.2 j hlt
      generalize (cAt x.cells j).1 = x0 at *
      generalize (cAt x.cells j).2.1 = x1 at *
      generalize (cAt x.cells j).2.2.length = x2 at *
      generalize ab j = x3 at *
      generalize cb j = x4 at *
      obtain ⟨cv, hcv⟩ : ∃ cv, wr.heap.size = cv := ⟨_, rfl⟩
      obtain ⟨Wa, ea⟩ : ∃ Wa, wr.alloc (.cells #[.int .i64 x0, .int .i64 x1, .slice x3 x2 x4] 39) = Wa := ⟨_, rfl⟩
      have Ba : Below wr.heap.size wr Wa := by rw [← ea]; exact one_alloc _ _
      have za : Wa.heap.size = cv + 1 := by rw [← ea]; simp [hcv]
      have v0 : Wa.cell? ⟨cv, 0, none⟩ = some (.int .i64 x0) := by rw [← ea, ← hcv]; exact cell_new0 wr _ 39 0 _ rfl
      have v1 : Wa.cell? ⟨cv, 1, none⟩ = some (.int .i64 x1) := by rw [← ea, ← hcv]; exact cell_new0 wr _ 39 1 _ rfl
      have v2 : Wa.cell? ⟨cv, 2, none⟩ = some (.slice x3 x2 x4) := by rw [← ea, ← hcv]; exact cell_new0 wr _ 39 2 _ rfl
      have hlO := no.lO
      have hlC := no.lC
      have o1a := (Ba.cell (p := ⟨O, 1, none⟩) (by show O < _; omega)).trans o1
      have HC : Hid (Calls Try.prog 49 #[.agg #[.int .i64 x0, .int .i64 x1, .slice x3 x2 x4], p] Wa.drew fun e w' => e = .returned (.int .i64 (V j)) ∧ Below Wa.heap.size Wa w') := by
        refine (KJ Wa.drew ((hww.trans (Ba.mono hww.size)).drew)).mono ?_
        rintro e w' ⟨rfl, hb'⟩
        exact ⟨rfl, (Below.refl _ _).drew.trans hb'⟩
      have HRC : Hid (∀ W, Below Wa.heap.size Wa W → (W.cell? ⟨O, 1, none⟩ = some (.slice (some ⟨C, 0, none⟩) CA CA)) ∧ (∃ z0, W.cell? ⟨C, j * 3, none⟩ = some z0) ∧ (∃ z1, W.cell? ⟨C, j * 3 + 1, none⟩ = some z1) ∧ (∃ z2, W.cell? ⟨C, j * 3 + 2, none⟩ = some z2) ∧ W.frozen? ⟨C, j * 3, none⟩ = false ∧ W.frozen? ⟨C, j * 3 + 1, none⟩ = false ∧ W.frozen? ⟨C, j * 3 + 2, none⟩ = false) := fun W hW => by
        have r : W.rowIs C 39 (CA * 3) (numF 0 L j) := (hrow.of_block (Ba.block _ (by omega))).of_block (hW.block _ (by omega))
        exact ⟨(hW.cell (p := ⟨O, 1, none⟩) (by show O < _; omega)).trans o1a, ⟨_, r.cell (i := j * 3) (by omega)⟩, ⟨_, r.cell (i := j * 3 + 1) (by omega)⟩, ⟨_, r.cell (i := j * 3 + 2) (by omega)⟩, r.frozen _, r.frozen _, r.frozen _⟩
      have HNX : Hid (∀ W, Below Wa.heap.size Wa W → Below W2.heap.size W2 (((W.setCell ⟨C, j * 3, none⟩ (.int .i64 0)).setCell ⟨C, j * 3 + 1, none⟩ (.int .i64 (V j))).setCell ⟨C, j * 3 + 2, none⟩ (.slice none 0 0)) ∧ KeepsBut W2.heap.size C W3 (((W.setCell ⟨C, j * 3, none⟩ (.int .i64 0)).setCell ⟨C, j * 3 + 1, none⟩ (.int .i64 (V j))).setCell ⟨C, j * 3 + 2, none⟩ (.slice none 0 0)) ∧ (((W.setCell ⟨C, j * 3, none⟩ (.int .i64 0)).setCell ⟨C, j * 3 + 1, none⟩ (.int .i64 (V j))).setCell ⟨C, j * 3 + 2, none⟩ (.slice none 0 0)).rowIs C 39 (CA * 3) (numF 0 L (j + 1))) := fun W hW => by
        have r : W.rowIs C 39 (CA * 3) (numF 0 L j) := (hrow.of_block (Ba.block _ (by omega))).of_block (hW.block _ (by omega))
        have hC := no.hC
        have hbW : Below W2.heap.size W2 W := hbw.trans ((Ba.trans (hW.mono Ba.size)).mono hbw.size)
        have hsz := hW.size
        refine ⟨((hbW.setCell (p := ⟨C, j * 3, none⟩) hC _).setCell (p := ⟨C, j * 3 + 1, none⟩) hC _).setCell (p := ⟨C, j * 3 + 2, none⟩) hC _, ⟨by simp; omega, fun b h1 h2 h3 => ?_⟩, ?_⟩
        · rw [Below.heap_setCell _ _ _ _ (by show b ≠ C; exact h3), Below.heap_setCell _ _ _ _ (by show b ≠ C; exact h3), Below.heap_setCell _ _ _ _ (by show b ≠ C; exact h3), hW.block b (by omega), Ba.block b (by omega)]
          exact hkb.2 b h1 h2 h3
        · have := ((r.set (j * 3) (.int .i64 0)).set (j * 3 + 1) (.int .i64 (V j))).set (j * 3 + 2) (.slice none 0 0)
          refine this.congr fun i hi => ?_
          rw [numF_step, hVj]
      obtain ⟨Vj, hVV⟩ : ∃ z, V j = z := ⟨_, rfl⟩
      rw [hVV] at HC HNX
      have HEA := hide (And.intro ea hcv)
      clear hcells g0 g1 g2 KJ hVj hVV hrow hkb hbw Ba za ea hcv no hww o0 o1 cellO I4 hks hbb
      go_upto_region 5 with fail
      rw [HEA.out.1, HEA.out.2]
      clear u0 u1 u2
      go_region_with (go_at_call 49; refine HC.out.mono ?_; rintro e w5 ⟨rfl, hb5⟩; obtain ⟨n0, ⟨z0, n1⟩, ⟨z1, n2⟩, ⟨z2, n3⟩, n4, n5, n6⟩ := HRC.out _ hb5)
      all_goals
        have HN5 := hide (HNX.out _ hb5)
        clear hb5 n0 n1 n2 n3 n4 n5 n6
        go_wp2
        go_roundg (CA - (j + 1))
        case rel => exact ⟨j + 1, by omega, by go_num, HN5.out⟩
        case measure => omega
    · have hje : j = CA := by omega
      subst hje
      have p0 := I4.p0
      have p1 := I4.p1
      have f0 := I4.f0
      have f1 := I4.f1
      have HT := hide (I4.put (.slice s SA k) (.slice (some ⟨C, 0, none⟩) j j))
      have HFIN : Hid (∀ u t, (∃ v, Ending.returned (.agg #[.slice s SA k, .slice (some ⟨C, 0, none⟩) j j]) = .returned v ∧ Caps v ∧ ArIn (m + 1) w.heap.size ((wr.setCell ⟨w.heap.size + 1, 0, none⟩ u).setCell ⟨w.heap.size + 1, 1, none⟩ t) (.mk x.shape (numCs 0 ((List.range j).map V))) v) ∧ Below w.heap.size w ((wr.setCell ⟨w.heap.size + 1, 0, none⟩ u).setCell ⟨w.heap.size + 1, 1, none⟩ t)) := by
        intro u t
        have hz := HSZ.out
        have hC := no.hC
        obtain ⟨hL, hLl, -⟩ := HLL.out
        have hb : ∀ b, W2.heap.size ≤ b → ((wr.setCell ⟨w.heap.size + 1, 0, none⟩ u).setCell ⟨w.heap.size + 1, 1, none⟩ t).heap[b]? = wr.heap[b]? := fun b h1 => by
          rw [Below.heap_setCell _ _ _ _ (by show b ≠ w.heap.size + 1; omega), Below.heap_setCell _ _ _ _ (by show b ≠ w.heap.size + 1; omega)]
        have RS := no.shp ((wr.setCell ⟨w.heap.size + 1, 0, none⟩ u).setCell ⟨w.heap.size + 1, 1, none⟩ t) ⟨by simp; omega, fun b h1 h2 h3 => (hb b h1).trans (hkb.2 b h1 h2 h3)⟩
        have RC : ((wr.setCell ⟨w.heap.size + 1, 0, none⟩ u).setCell ⟨w.heap.size + 1, 1, none⟩ t).rowIs C 39 (L.length * 3) (numF 0 L L.length) := by rw [hLl]; exact hrow.of_block (hb C hC)
        refine ⟨⟨_, rfl, ⟨_, _, _, _, _, _, rfl, no.cap, Nat.le_refl _⟩, ?_⟩, I4.fin u t⟩
        rw [hL]
        exact arIn_mk (n := m) (RS.low (by omega)) (by show (numCs 0 L).length ≤ _; rw [numCs_len, hLl]; omega) (cellsIn_num 0 L RC (by omega)) HLEN.out.1 (by show (numCs 0 L).length = j; rw [numCs_len, hLl])
      clear hrow hkb hbw I4 no cellO
      go_wp2
      exact bodyPost_ret (v := .agg #[.slice s SA k, .slice (some ⟨C, 0, none⟩) j j]) (by simp [results, Try.results48, go_sem, HT.out.1, HT.out.2]) rfl (HFIN.out _ _)
set_option maxHeartbeats 8000000 in
theorem numbered_50 {n m lo lo' SA CA c1 c2 : Nat} {x : Ar} {a1 a2 : Option Addr} {ab : Nat → Option Addr} {cb : Nat → Nat} {p q : Value} {V : Nat → Int} {w : World} (R : Row lo' w a1 x.shape) (hcf : CellsFn n lo w x.cells a2 ab cb) (hSA : x.shape.length = SA) (hCA : x.cells.length = CA) (h8 : SA ≤ 8) (h16 : CA ≤ 16384)
    (K : ∀ W, Below w.heap.size w W → ∀ i, i < CA → Calls Try.prog 50 #[.agg #[.int .i64 (cAt x.cells i).1, .int .i64 (cAt x.cells i).2.1, .slice (ab i) (cAt x.cells i).2.2.length (cb i)], p, q] W fun e w' => e = .returned (.int .i64 (V i)) ∧ Below W.heap.size W w') :
    Calls Try.prog 48 #[.agg #[.slice a1 SA c1, .slice a2 CA c2], .func (.func 50) #[] #[p, q]] w fun e w' => (∃ v, e = .returned v ∧ Caps v ∧ ArIn (m + 1) w.heap.size w' (.mk x.shape (numCs 0 ((List.range CA).map V))) v) ∧ Below w.heap.size w w' := by
  have I := in2_new w (.slice a1 SA c1) (.slice a2 CA c2)
  obtain ⟨W2, e2⟩ : ∃ W2, (w.alloc (.cells #[.slice a1 SA c1, .slice a2 CA c2] 25)).alloc (.cells #[.slice none 0 0, .slice none 0 0] 25) = W2 := ⟨_, rfl⟩
  rw [e2] at I
  have q0 := I.q0
  have q1 := I.q1
  have mk : ∀ w : World, (Instr.makeSlice 23 (.int .i64 (CA : Int)) (.int .i64 (CA : Int))).run Try.prog w = .ok (.slice (some ⟨w.heap.size, 0, none⟩) CA CA) (w.alloc (zeroC CA)) := make_cells CA (by omega)
  have HI := hide I
  have CC : Hid (∀ W, Below W2.heap.size W2 W → Calls Try.prog 57 #[.slice a1 SA c1] W fun e w' => (∃ a' cap', e = .returned (.slice a' SA cap') ∧ SA ≤ cap' ∧ Row W.heap.size w' a' x.shape) ∧ Below W2.heap.size W2 w' ∧ Below W.heap.size W w') := fun W hW => by
    have C := clone_any x.shape a1 c1 W ((R.next I.bel).next hW) (by omega)
    rw [hSA] at C
    refine C.mono ?_
    rintro e w' ⟨⟨a', cap', rfl, hO⟩, hb⟩
    rw [← hSA]
    exact ⟨⟨a', cap', rfl, hO.1, hO.2.2⟩, hW.trans (hb.mono hW.size), hb⟩
  obtain ⟨Z, hZ⟩ : ∃ Z : Obj, Z = zeroC CA := ⟨_, rfl⟩
  rw [← hZ] at mk
  have HZ := hide hZ
  clear hZ
  have HK := hide K
  have HCF : Hid (CellsFn n lo w x.cells a2 ab cb) := hcf
  have HLEN := hide (And.intro hSA hCA)
  have HBE := hide I.bel
  clear I K hcf R hSA hCA
  go_enter Try.func48, Try.ntmps48
  go_upto_region 1 with fail

  go_cut [5] from 8 to 15 (fun s5 wx => ∃ O C s k, s5 = .pointer (some ⟨O, 0, none⟩) ∧ NewOut W2 wx O C s k SA CA x.shape)
  case first =>
    have HD0 : Hid (Below W2.heap.size W2 W2.drew) := (Below.refl _ _).drew
    have HD1 : Hid (Below W2.heap.size W2 (W2.alloc (.cells #[.slice none 0 0, .slice none 0 0] 25)).drew) := (one_alloc _ _).drew
    have HD2 : Hid (Below W2.heap.size W2 (W2.drew.alloc (.cells #[.slice none 0 0, .slice none 0 0] 25))) := (Below.refl _ _).drew.alloc (Nat.le_refl _) _
    have HD3 : Hid (Below W2.heap.size W2 (W2.alloc Z).drew) := (one_alloc _ _).drew
    have HD4 : Hid (Below W2.heap.size W2 (W2.drew.alloc Z)) := (Below.refl _ _).drew.alloc (Nat.le_refl _) _
    have HD5 : Hid (Below W2.heap.size W2 ((W2.alloc (.cells #[.slice none 0 0, .slice none 0 0] 25)).alloc Z).drew) := (two_allocs _ _ _).drew
    have HD6 : Hid (Below W2.heap.size W2 ((W2.alloc (.cells #[.slice none 0 0, .slice none 0 0] 25)).drew.alloc Z)) := ((one_alloc _ _).drew.alloc (by simp) _)
    have HD7 : Hid (Below W2.heap.size W2 ((W2.drew.alloc (.cells #[.slice none 0 0, .slice none 0 0] 25)).alloc Z)) := (((Below.refl _ _).drew.alloc (Nat.le_refl _) _).alloc (by simp) _)
    have HD8 : Hid (Below W2.heap.size W2 ((W2.alloc Z).alloc (.cells #[.slice none 0 0, .slice none 0 0] 25)).drew) := (two_allocs _ _ _).drew
    have HD9 : Hid (Below W2.heap.size W2 ((W2.alloc Z).drew.alloc (.cells #[.slice none 0 0, .slice none 0 0] 25))) := ((one_alloc _ _).drew.alloc (by simp) _)
    have HD10 : Hid (Below W2.heap.size W2 ((W2.drew.alloc Z).alloc (.cells #[.slice none 0 0, .slice none 0 0] 25))) := (((Below.refl _ _).drew.alloc (Nat.le_refl _) _).alloc (by simp) _)
    have HAL : Hid (∀ W o, Below W2.heap.size W2 W → Below W2.heap.size W2 (W.alloc o)) := fun W o h => h.alloc h.size o
    have HSET : Hid (∀ W b u v, Below W2.heap.size W2 W → W2.heap.size ≤ b → Below W2.heap.size W2 ((W.setCell ⟨b, 0, none⟩ u).setCell ⟨b, 1, none⟩ v)) := fun W b u v h hb => (h.setCell (p := ⟨b, 0, none⟩) hb u).setCell (p := ⟨b, 1, none⟩) hb v
    have HLE : Hid (W2.heap.size ≤ W2.heap.size) := Nat.le_refl _
    have HLE1 : Hid (W2.heap.size ≤ W2.heap.size + 1) := Nat.le_succ _
    have KS : Hid (∀ W, Below W2.heap.size W2 W → (Below W2.heap.size W2 W ∧ W.cell? ⟨w.heap.size, 0, none⟩ = some (.slice a1 SA c1) ∧ W.cell? ⟨w.heap.size, 1, none⟩ = some (.slice a2 CA c2))) := fun W h => ⟨h, (HI.out.next h).q0, (HI.out.next h).q1⟩
    go_region_held3 (fun W => Below W2.heap.size W2 W ∧ W.cell? ⟨w.heap.size, 0, none⟩ = some (.slice a1 SA c1) ∧ W.cell? ⟨w.heap.size, 1, none⟩ = some (.slice a2 CA c2))
      (first | with_reducible exact KS.out _ HD0.out | with_reducible exact KS.out _ HD1.out | with_reducible exact KS.out _ HD2.out | with_reducible exact KS.out _ HD3.out | with_reducible exact KS.out _ HD4.out | with_reducible exact KS.out _ HD5.out | with_reducible exact KS.out _ HD6.out | with_reducible exact KS.out _ HD7.out | with_reducible exact KS.out _ HD8.out | with_reducible exact KS.out _ HD9.out | with_reducible exact KS.out _ HD10.out | with_reducible exact KS.out _ (by with_reducible assumption) | with_reducible exact KS.out _ (HAL.out _ _ (by with_reducible assumption)) | with_reducible exact KS.out _ (HAL.out _ _ (HAL.out _ _ (by with_reducible assumption))) | with_reducible exact KS.out _ (HSET.out _ _ _ _ (by with_reducible assumption) HLE.out) | with_reducible exact KS.out _ (HSET.out _ _ _ _ (by with_reducible assumption) HLE1.out) | with_reducible exact KS.out _ (HSET.out _ _ _ _ (HAL.out _ _ (by with_reducible assumption)) HLE.out))
      (first | (go_at_call 57; first | ((with_reducible refine (CC.out _ HD0.out).mono ?_); rintro e w5 ⟨⟨s, k, rfl, hk, hr⟩, g5, hb5⟩; have q05 := (HI.out.next g5).q0; have q15 := (HI.out.next g5).q1; obtain ⟨⟨n0, n1, n2, n3, -⟩, ⟨t0, t1, t2, t3, -⟩⟩ := zb_pair w5 Z) | ((with_reducible refine (CC.out _ HD1.out).mono ?_); rintro e w5 ⟨⟨s, k, rfl, hk, hr⟩, g5, hb5⟩; have q05 := (HI.out.next g5).q0; have q15 := (HI.out.next g5).q1; obtain ⟨⟨n0, n1, n2, n3, -⟩, ⟨t0, t1, t2, t3, -⟩⟩ := zb_pair w5 Z; obtain ⟨k0, k1, k2, k3, -⟩ := (Zb.new W2).drew.next hb5; obtain ⟨m0, m1, m2, m3, -⟩ := ((Zb.new W2).drew.next hb5).next (one_alloc _ Z)) | ((with_reducible refine (CC.out _ HD2.out).mono ?_); rintro e w5 ⟨⟨s, k, rfl, hk, hr⟩, g5, hb5⟩; have q05 := (HI.out.next g5).q0; have q15 := (HI.out.next g5).q1; obtain ⟨⟨n0, n1, n2, n3, -⟩, ⟨t0, t1, t2, t3, -⟩⟩ := zb_pair w5 Z; obtain ⟨k0, k1, k2, k3, -⟩ := (show Zb (W2.drew.alloc (.cells #[.slice none 0 0, .slice none 0 0] 25)) W2.heap.size from Zb.new W2).next hb5; obtain ⟨m0, m1, m2, m3, -⟩ := ((show Zb (W2.drew.alloc (.cells #[.slice none 0 0, .slice none 0 0] 25)) W2.heap.size from Zb.new W2).next hb5).next (one_alloc _ Z)) | ((with_reducible refine (CC.out _ HD3.out).mono ?_); rintro e w5 ⟨⟨s, k, rfl, hk, hr⟩, g5, hb5⟩; have q05 := (HI.out.next g5).q0; have q15 := (HI.out.next g5).q1; obtain ⟨⟨n0, n1, n2, n3, -⟩, ⟨t0, t1, t2, t3, -⟩⟩ := zb_pair w5 Z) | ((with_reducible refine (CC.out _ HD4.out).mono ?_); rintro e w5 ⟨⟨s, k, rfl, hk, hr⟩, g5, hb5⟩; have q05 := (HI.out.next g5).q0; have q15 := (HI.out.next g5).q1; obtain ⟨⟨n0, n1, n2, n3, -⟩, ⟨t0, t1, t2, t3, -⟩⟩ := zb_pair w5 Z) | ((with_reducible refine (CC.out _ HD5.out).mono ?_); rintro e w5 ⟨⟨s, k, rfl, hk, hr⟩, g5, hb5⟩; have q05 := (HI.out.next g5).q0; have q15 := (HI.out.next g5).q1; obtain ⟨⟨n0, n1, n2, n3, -⟩, ⟨t0, t1, t2, t3, -⟩⟩ := zb_pair w5 Z; obtain ⟨k0, k1, k2, k3, -⟩ := ((Zb.new W2).next (one_alloc _ _)).drew.next hb5; obtain ⟨m0, m1, m2, m3, -⟩ := (((Zb.new W2).next (one_alloc _ _)).drew.next hb5).next (one_alloc _ Z)) | ((with_reducible refine (CC.out _ HD6.out).mono ?_); rintro e w5 ⟨⟨s, k, rfl, hk, hr⟩, g5, hb5⟩; have q05 := (HI.out.next g5).q0; have q15 := (HI.out.next g5).q1; obtain ⟨⟨n0, n1, n2, n3, -⟩, ⟨t0, t1, t2, t3, -⟩⟩ := zb_pair w5 Z; obtain ⟨k0, k1, k2, k3, -⟩ := ((Zb.new W2).drew.next (one_alloc _ _)).next hb5; obtain ⟨m0, m1, m2, m3, -⟩ := (((Zb.new W2).drew.next (one_alloc _ _)).next hb5).next (one_alloc _ Z)) | ((with_reducible refine (CC.out _ HD7.out).mono ?_); rintro e w5 ⟨⟨s, k, rfl, hk, hr⟩, g5, hb5⟩; have q05 := (HI.out.next g5).q0; have q15 := (HI.out.next g5).q1; obtain ⟨⟨n0, n1, n2, n3, -⟩, ⟨t0, t1, t2, t3, -⟩⟩ := zb_pair w5 Z; obtain ⟨k0, k1, k2, k3, -⟩ := ((show Zb (W2.drew.alloc (.cells #[.slice none 0 0, .slice none 0 0] 25)) W2.heap.size from Zb.new W2).next (one_alloc _ _)).next hb5; obtain ⟨m0, m1, m2, m3, -⟩ := (((show Zb (W2.drew.alloc (.cells #[.slice none 0 0, .slice none 0 0] 25)) W2.heap.size from Zb.new W2).next (one_alloc _ _)).next hb5).next (one_alloc _ Z)) | ((with_reducible refine (CC.out _ HD8.out).mono ?_); rintro e w5 ⟨⟨s, k, rfl, hk, hr⟩, g5, hb5⟩; have q05 := (HI.out.next g5).q0; have q15 := (HI.out.next g5).q1; obtain ⟨⟨n0, n1, n2, n3, -⟩, ⟨t0, t1, t2, t3, -⟩⟩ := zb_pair w5 Z; obtain ⟨k0, k1, k2, k3, -⟩ := (zb_pair W2 Z).2.drew.next hb5; obtain ⟨m0, m1, m2, m3, -⟩ := ((zb_pair W2 Z).2.drew.next hb5).next (one_alloc _ Z)) | ((with_reducible refine (CC.out _ HD9.out).mono ?_); rintro e w5 ⟨⟨s, k, rfl, hk, hr⟩, g5, hb5⟩; have q05 := (HI.out.next g5).q0; have q15 := (HI.out.next g5).q1; obtain ⟨⟨n0, n1, n2, n3, -⟩, ⟨t0, t1, t2, t3, -⟩⟩ := zb_pair w5 Z; obtain ⟨k0, k1, k2, k3, -⟩ := (show Zb ((W2.alloc Z).drew.alloc (.cells #[.slice none 0 0, .slice none 0 0] 25)) (W2.heap.size + 1) from (zb_pair W2 Z).2).next hb5; obtain ⟨m0, m1, m2, m3, -⟩ := ((show Zb ((W2.alloc Z).drew.alloc (.cells #[.slice none 0 0, .slice none 0 0] 25)) (W2.heap.size + 1) from (zb_pair W2 Z).2).next hb5).next (one_alloc _ Z)) | ((with_reducible refine (CC.out _ HD10.out).mono ?_); rintro e w5 ⟨⟨s, k, rfl, hk, hr⟩, g5, hb5⟩; have q05 := (HI.out.next g5).q0; have q15 := (HI.out.next g5).q1; obtain ⟨⟨n0, n1, n2, n3, -⟩, ⟨t0, t1, t2, t3, -⟩⟩ := zb_pair w5 Z; obtain ⟨k0, k1, k2, k3, -⟩ := (show Zb ((W2.drew.alloc Z).alloc (.cells #[.slice none 0 0, .slice none 0 0] 25)) (W2.heap.size + 1) from (zb_pair W2 Z).2).next hb5; obtain ⟨m0, m1, m2, m3, -⟩ := ((show Zb ((W2.drew.alloc Z).alloc (.cells #[.slice none 0 0, .slice none 0 0] 25)) (W2.heap.size + 1) from (zb_pair W2 Z).2).next hb5).next (one_alloc _ Z))))
    all_goals
      have HR5 := hide (And.intro g5 (And.intro hb5 (And.intro hr hk)))
      clear hr hb5 g5
      go_wp2
      go_meet
    all_goals
      case rel =>
        obtain rfl := HZ.out
        obtain ⟨g5, hb5, hr, hk⟩ := HR5.out
        first
          | exact ⟨_, _, s, k, rfl, out1 g5 (Nat.le_refl _) hr hk⟩
          | exact ⟨_, _, s, k, rfl, out2 g5 (Nat.le_refl _) hr hk⟩
          | exact ⟨_, _, s, k, rfl, out3 g5 hb5 (Nat.le_refl _) (by simp) (row_zeroC W2 CA) hr hk⟩
          | exact ⟨_, _, s, k, rfl, out5 g5 hb5 (Zb.new W2) (Nat.le_refl _) hr hk⟩
          | exact ⟨_, _, s, k, rfl, out4 g5 hb5 (zb_pair W2 (zeroC CA)).2 (Nat.le_succ _) (Nat.le_refl _) (by simp; omega) (by omega) ((row_zeroC W2 CA).of_block ((one_alloc _ _).block _ (by simp))) hr hk⟩
          | exact ⟨_, _, s, k, rfl, out4 g5 hb5 (zb_pair W2 (zeroC CA)).1 (Nat.le_refl _) (Nat.le_succ _) (by simp) (by omega) (row_zeroC1 W2 CA) hr hk⟩
  case rest =>
  obtain ⟨O, C, s, k, rfl, NO⟩ := hcut
  obtain ⟨W3, hW3⟩ : ∃ W3, W3 = wc := ⟨_, rfl⟩
  subst hW3
  obtain ⟨L, hL⟩ : ∃ L, (List.range CA).map V = L := ⟨_, rfl⟩
  have hLl : L.length = CA := by rw [← hL]; simp
  have hLv : ∀ i, i < CA → L[i]?.getD 0 = V i := fun i hi => by rw [← hL]; simp [hi]
  have R0 : W3.rowIs C 39 (CA * 3) (numF 0 L 0) := NO.row.congr fun i hi => by simp [numF]
  have HNO := hide NO
  have HLL := hide (And.intro hL (And.intro hLl hLv))
  have HR0 := hide R0
  have I3 := HI.out.next NO.bel
  have q1' := I3.q1
  have hz2 := HI.out.size
  have HSZ := hide hz2
  clear NO R0 hL hLl hLv q0 q1 mk CC I3 hz2
  go_wp2
  clear q1'
  go_loopg [6, 7, 19] CA (fun M _a _b i wr => ∃ j : Nat, M + j = CA ∧ i = .int .i64 (j : Int) ∧ Below W2.heap.size W2 wr ∧ KeepsBut W2.heap.size C W3 wr ∧ wr.rowIs C 39 (CA * 3) (numF 0 L j))
  case atStart => exact ⟨0, rfl, rfl, HNO.out.bel, ⟨Nat.le_refl _, fun _ _ _ _ => rfl⟩, HR0.out⟩
  case round =>
    clear HR0
    obtain ⟨j, hM, rfl, hbw, hkb, hrow⟩ := hrel
    have no := HNO.out
    have hks := hkb.1
    have cellO : ∀ (i : Nat) (v : Value), W3.cell? ⟨O, i, none⟩ = some v → wr.cell? ⟨O, i, none⟩ = some v := fun i v h => by
      have hb := hkb.2 O no.hO no.lO no.ne
      unfold World.cell? at h ⊢
      simp only [hb]
      exact h
    have o0 := cellO 0 _ no.c0
    have o1 := cellO 1 _ no.c1
    have I4 := HI.out.next hbw
    by_cases hlt : j < CA
    · have hltz : (j : Int) < (CA : Int) := by omega
      have hww : Below w.heap.size w wr := HBE.out.trans (hbw.mono HBE.out.size)
      obtain ⟨bb, off, rfl, -, hbb, hcells⟩ := HCF.out (by rw [HLEN.out.2]; omega)
      obtain ⟨g0, g1, g2, -⟩ := hcells j (by rw [HLEN.out.2]; exact hlt)
      have u0 := (hww.cell (p := ⟨bb, off + j * 3, none⟩) hbb).trans g0
      have u1 := (hww.cell (p := ⟨bb, off + j * 3 + 1, none⟩) hbb).trans g1
      have u2 := (hww.cell (p := ⟨bb, off + j * 3 + 2, none⟩) hbb).trans g2
      have KJ := fun W hW => HK.out W hW j hlt
      have hVj := HLL.out.2.2 j hlt
      generalize (cAt x.cells j).1 = x0 at *
      generalize (cAt x.cells j).2.1 = x1 at *
      generalize (cAt x.cells j).2.2.length = x2 at *
      generalize ab j = x3 at *
      generalize cb j = x4 at *
      obtain ⟨cv, hcv⟩ : ∃ cv, wr.heap.size = cv := ⟨_, rfl⟩
      obtain ⟨Wa, ea⟩ : ∃ Wa, wr.alloc (.cells #[.int .i64 x0, .int .i64 x1, .slice x3 x2 x4] 39) = Wa := ⟨_, rfl⟩
      have Ba : Below wr.heap.size wr Wa := by rw [← ea]; exact one_alloc _ _
      have za : Wa.heap.size = cv + 1 := by rw [← ea]; simp [hcv]
      have v0 : Wa.cell? ⟨cv, 0, none⟩ = some (.int .i64 x0) := by rw [← ea, ← hcv]; exact cell_new0 wr _ 39 0 _ rfl
      have v1 : Wa.cell? ⟨cv, 1, none⟩ = some (.int .i64 x1) := by rw [← ea, ← hcv]; exact cell_new0 wr _ 39 1 _ rfl
      have v2 : Wa.cell? ⟨cv, 2, none⟩ = some (.slice x3 x2 x4) := by rw [← ea, ← hcv]; exact cell_new0 wr _ 39 2 _ rfl
      have hlO := no.lO
      have hlC := no.lC
      have o1a := (Ba.cell (p := ⟨O, 1, none⟩) (by show O < _; omega)).trans o1
      have HC : Hid (Calls Try.prog 50 #[.agg #[.int .i64 x0, .int .i64 x1, .slice x3 x2 x4], p, q] Wa.drew fun e w' => e = .returned (.int .i64 (V j)) ∧ Below Wa.heap.size Wa w') := by
        refine (KJ Wa.drew ((hww.trans (Ba.mono hww.size)).drew)).mono ?_
        rintro e w' ⟨rfl, hb'⟩
        exact ⟨rfl, (Below.refl _ _).drew.trans hb'⟩
      have HRC : Hid (∀ W, Below Wa.heap.size Wa W → (W.cell? ⟨O, 1, none⟩ = some (.slice (some ⟨C, 0, none⟩) CA CA)) ∧ (∃ z0, W.cell? ⟨C, j * 3, none⟩ = some z0) ∧ (∃ z1, W.cell? ⟨C, j * 3 + 1, none⟩ = some z1) ∧ (∃ z2, W.cell? ⟨C, j * 3 + 2, none⟩ = some z2) ∧ W.frozen? ⟨C, j * 3, none⟩ = false ∧ W.frozen? ⟨C, j * 3 + 1, none⟩ = false ∧ W.frozen? ⟨C, j * 3 + 2, none⟩ = false) := fun W hW => by
        have r : W.rowIs C 39 (CA * 3) (numF 0 L j) := (hrow.of_block (Ba.block _ (by omega))).of_block (hW.block _ (by omega))
        exact ⟨(hW.cell (p := ⟨O, 1, none⟩) (by show O < _; omega)).trans o1a, ⟨_, r.cell (i := j * 3) (by omega)⟩, ⟨_, r.cell (i := j * 3 + 1) (by omega)⟩, ⟨_, r.cell (i := j * 3 + 2) (by omega)⟩, r.frozen _, r.frozen _, r.frozen _⟩
      have HNX : Hid (∀ W, Below Wa.heap.size Wa W → Below W2.heap.size W2 (((W.setCell ⟨C, j * 3, none⟩ (.int .i64 0)).setCell ⟨C, j * 3 + 1, none⟩ (.int .i64 (V j))).setCell ⟨C, j * 3 + 2, none⟩ (.slice none 0 0)) ∧ KeepsBut W2.heap.size C W3 (((W.setCell ⟨C, j * 3, none⟩ (.int .i64 0)).setCell ⟨C, j * 3 + 1, none⟩ (.int .i64 (V j))).setCell ⟨C, j * 3 + 2, none⟩ (.slice none 0 0)) ∧ (((W.setCell ⟨C, j * 3, none⟩ (.int .i64 0)).setCell ⟨C, j * 3 + 1, none⟩ (.int .i64 (V j))).setCell ⟨C, j * 3 + 2, none⟩ (.slice none 0 0)).rowIs C 39 (CA * 3) (numF 0 L (j + 1))) := fun W hW => by
        have r : W.rowIs C 39 (CA * 3) (numF 0 L j) := (hrow.of_block (Ba.block _ (by omega))).of_block (hW.block _ (by omega))
        have hC := no.hC
        have hbW : Below W2.heap.size W2 W := hbw.trans ((Ba.trans (hW.mono Ba.size)).mono hbw.size)
        have hsz := hW.size
        refine ⟨((hbW.setCell (p := ⟨C, j * 3, none⟩) hC _).setCell (p := ⟨C, j * 3 + 1, none⟩) hC _).setCell (p := ⟨C, j * 3 + 2, none⟩) hC _, ⟨by simp; omega, fun b h1 h2 h3 => ?_⟩, ?_⟩
        · rw [Below.heap_setCell _ _ _ _ (by show b ≠ C; exact h3), Below.heap_setCell _ _ _ _ (by show b ≠ C; exact h3), Below.heap_setCell _ _ _ _ (by show b ≠ C; exact h3), hW.block b (by omega), Ba.block b (by omega)]
          exact hkb.2 b h1 h2 h3
        · have := ((r.set (j * 3) (.int .i64 0)).set (j * 3 + 1) (.int .i64 (V j))).set (j * 3 + 2) (.slice none 0 0)
          refine this.congr fun i hi => ?_
          rw [numF_step, hVj]
      obtain ⟨Vj, hVV⟩ : ∃ z, V j = z := ⟨_, rfl⟩
      rw [hVV] at HC HNX
      have HEA := hide (And.intro ea hcv)
      clear hcells g0 g1 g2 KJ hVj hVV hrow hkb hbw Ba za ea hcv no hww o0 o1 cellO I4 hks hbb
      go_upto_region 5 with fail
      rw [HEA.out.1, HEA.out.2]
      clear u0 u1 u2
      go_region_with (go_at_call 50; refine HC.out.mono ?_; rintro e w5 ⟨rfl, hb5⟩; obtain ⟨n0, ⟨z0, n1⟩, ⟨z1, n2⟩, ⟨z2, n3⟩, n4, n5, n6⟩ := HRC.out _ hb5)
      all_goals
        have HN5 := hide (HNX.out _ hb5)
        clear hb5 n0 n1 n2 n3 n4 n5 n6
        go_wp2
        go_roundg (CA - (j + 1))
        case rel => exact ⟨j + 1, by omega, by go_num, HN5.out⟩
        case measure => omega
    · have hje : j = CA := by omega
      subst hje
      have p0 := I4.p0
      have p1 := I4.p1
      have f0 := I4.f0
      have f1 := I4.f1
      have HT := hide (I4.put (.slice s SA k) (.slice (some ⟨C, 0, none⟩) j j))
      have HFIN : Hid (∀ u t, (∃ v, Ending.returned (.agg #[.slice s SA k, .slice (some ⟨C, 0, none⟩) j j]) = .returned v ∧ Caps v ∧ ArIn (m + 1) w.heap.size ((wr.setCell ⟨w.heap.size + 1, 0, none⟩ u).setCell ⟨w.heap.size + 1, 1, none⟩ t) (.mk x.shape (numCs 0 ((List.range j).map V))) v) ∧ Below w.heap.size w ((wr.setCell ⟨w.heap.size + 1, 0, none⟩ u).setCell ⟨w.heap.size + 1, 1, none⟩ t)) := by
        intro u t
        have hz := HSZ.out
        have hC := no.hC
        obtain ⟨hL, hLl, -⟩ := HLL.out
        have hb : ∀ b, W2.heap.size ≤ b → ((wr.setCell ⟨w.heap.size + 1, 0, none⟩ u).setCell ⟨w.heap.size + 1, 1, none⟩ t).heap[b]? = wr.heap[b]? := fun b h1 => by
          rw [Below.heap_setCell _ _ _ _ (by show b ≠ w.heap.size + 1; omega), Below.heap_setCell _ _ _ _ (by show b ≠ w.heap.size + 1; omega)]
        have RS := no.shp ((wr.setCell ⟨w.heap.size + 1, 0, none⟩ u).setCell ⟨w.heap.size + 1, 1, none⟩ t) ⟨by simp; omega, fun b h1 h2 h3 => (hb b h1).trans (hkb.2 b h1 h2 h3)⟩
        have RC : ((wr.setCell ⟨w.heap.size + 1, 0, none⟩ u).setCell ⟨w.heap.size + 1, 1, none⟩ t).rowIs C 39 (L.length * 3) (numF 0 L L.length) := by rw [hLl]; exact hrow.of_block (hb C hC)
        refine ⟨⟨_, rfl, ⟨_, _, _, _, _, _, rfl, no.cap, Nat.le_refl _⟩, ?_⟩, I4.fin u t⟩
        rw [hL]
        exact arIn_mk (n := m) (RS.low (by omega)) (by show (numCs 0 L).length ≤ _; rw [numCs_len, hLl]; omega) (cellsIn_num 0 L RC (by omega)) HLEN.out.1 (by show (numCs 0 L).length = j; rw [numCs_len, hLl])
      clear hrow hkb hbw I4 no cellO
      go_wp2
      exact bodyPost_ret (v := .agg #[.slice s SA k, .slice (some ⟨C, 0, none⟩) j j]) (by simp [results, Try.results48, go_sem, HT.out.1, HT.out.2]) rfl (HFIN.out _ _)
end Go.Proofs.Ytimkcpbgnoekcaa
namespace Go.Proofs.Ytimkcpbgnoekcaa
open Go.ChangeShapes Go.WideShapes Go.ChangeAt Go.RowKit
set_option linter.unusedVariables false
set_option maxRecDepth 100000
/-- IndexOf of arrays that may be. -/
def fndR (n : Nat) (x y : Ar) : Ar × Int := if ¬ x.shape.length = 1 then (zeroA, 6) else (.mk y.shape (numCs 0 ((List.range y.cells.length).map fun i => (plcC n x.cells (cAt y.cells i) : Int))), 0)
/-- Member of arrays that may be. -/
def amgR (n : Nat) (x y : Ar) : Ar := .mk x.shape (numCs 0 ((List.range x.cells.length).map fun i => memC n y.cells (cAt x.cells i)))
set_option maxHeartbeats 4000000 in
theorem found_any {n lo lo' : Nat} {x y : Ar} {va vb : Value} {w : World} (hx : ArIn (n + 1) lo w x va) (hy : ArIn (n + 1) lo' w y vb) (hcx : chkA 8 x = 0) (hcy : chkA 8 y = 0) :
    Calls Try.prog 26 #[va, vb] w fun e w' => GivesD (n + 1) (fndR n x y).1 (fndR n x y).2 w e w' := by
  obtain ⟨a1, c1, a2, c2, rfl, R, hc⟩ := hx.form
  obtain ⟨b1, d1, b2, d2, rfl, R', hc'⟩ := hy.form
  obtain ⟨lx8, cx16⟩ := chk_len hcx
  obtain ⟨ly8, cy16⟩ := chk_len hcy
  obtain ⟨ab, cb, hcf⟩ := cells_fn hc
  obtain ⟨ab', cb', hcf'⟩ := cells_fn hc'
  have hcf1 : CellsFn n lo w x.cells a2 ab cb := hcf
  have hcf2 : CellsFn n lo' w y.cells b2 ab' cb' := hcf'
  have I := in3_new w (.slice a1 x.shape.length c1) (.slice a2 x.cells.length c2) (.slice b1 y.shape.length d1) (.slice b2 y.cells.length d2)
  obtain ⟨W3, e3⟩ : ∃ W3, ((w.alloc (.cells #[.slice a1 x.shape.length c1, .slice a2 x.cells.length c2] 25)).alloc (.cells #[.slice b1 y.shape.length d1, .slice b2 y.cells.length d2] 25)).alloc (.cells #[.slice none 0 0, .slice none 0 0] 25) = W3 := ⟨_, rfl⟩
  rw [e3] at I
  have q0 := I.q0
  have q1 := I.q1
  have r0 := I.r0
  have r1 := I.r1
  have HI := hide I
  have p0 := I.p0
  have p1 := I.p1
  have f0 := I.f0
  have f1 := I.f1
  have hb3 := I.bel
  obtain ⟨SX, hSX⟩ : ∃ SX, x.shape.length = SX := ⟨_, rfl⟩
  obtain ⟨CX, hCX⟩ : ∃ CX, x.cells.length = CX := ⟨_, rfl⟩
  obtain ⟨SY, hSY⟩ : ∃ SY, y.shape.length = SY := ⟨_, rfl⟩
  obtain ⟨CY, hCY⟩ : ∃ CY, y.cells.length = CY := ⟨_, rfl⟩
  by_cases h1 : SX = 1
  case neg =>
    have HE5 : Hid (fndR n x y = (zeroA, 6)) := by unfold Hid fndR; rw [if_pos (by rw [hSX]; exact h1)]
    have HT := hide (I.put (.slice none 0 0) (.slice none 0 0))
    have HF : Hid (∀ u v, GivesD (n + 1) (fndR n x y).1 (fndR n x y).2 w (.returned (.tuple #[.agg #[.slice none 0 0, .slice none 0 0], .int .i64 6])) ((W3.setCell ⟨w.heap.size + 2, 0, none⟩ u).setCell ⟨w.heap.size + 2, 1, none⟩ v)) := fun u v => by
      rw [HE5.out]
      exact ⟨⟨_, rfl, ⟨_, _, _, _, _, _, rfl, Nat.le_refl _, Nat.le_refl _⟩, zeroA_in _ _ _⟩, I.fin u v⟩
    have hb1 : ((SX : Int) != 1) = true := by simp; omega
    have hSX8 : SX ≤ 8 := by omega
    simp only [hSX, hCX, hSY, hCY] at e3 q0 q1 r0 r1 ⊢
    clear hx hy R hc R' hc' hcf hcf' hcf1 hcf2 I HI hb3
    go_enter Try.func26, Try.ntmps26
    go_wp2
    exact bodyPost_ret (v := .tuple #[.agg #[.slice none 0 0, .slice none 0 0], .int .i64 6]) (by simp [results, Try.results26, go_sem, HT.out.1, HT.out.2]) rfl (HF.out _ _)
  have HE5 : Hid (fndR n x y = (.mk y.shape (numCs 0 ((List.range CY).map fun i => (plcC n x.cells (cAt y.cells i) : Int))), 0)) := by unfold Hid fndR; rw [if_neg (by rw [hSX]; simpa using h1), hCY]
  have CF := finder_any (c2 := c2) (hcf1.next hb3) hCX (by omega)
  have HNUM : Hid (∀ W bp, Below w.heap.size w W → Num49 n lo x.cells bp W → Calls Try.prog 48 #[.agg #[.slice b1 SY d1, .slice b2 CY d2], .func (.func 49) #[] #[.pointer (some ⟨bp, 0, none⟩)]] W fun e w' => (∃ v, e = .returned v ∧ Caps v ∧ ArIn (n + 1) W.heap.size w' (.mk y.shape (numCs 0 ((List.range CY).map fun i => (plcC n x.cells (cAt y.cells i) : Int)))) v) ∧ Below W.heap.size W w') := fun W bp hW hN =>
    numbered_49 (m := n) (R'.next hW) (hcf2.next hW) hSY hCY (by omega) (by omega) (fun V hV i hi => by
      have hcW := (hcf2.next hW).next hV
      obtain ⟨b, off, -, -, -, hcells⟩ := hcW (by omega)
      exact clo49 (hN.next hV) (hcells i (by omega)).2.2.2)
  have HC16 : Hid (CX ≤ 16384) := by unfold Hid; omega
  subst h1
  simp only [hSX, hCX, hSY, hCY] at e3 q0 q1 r0 r1 HI ⊢
  clear hx hy R hc R' hc' hcf hcf' hcf1 hcf2 I p0 p1 f0 f1
  go_enter Try.func26, Try.ntmps26
  go_wp2_with fail
  clear e3 q0 q1 r0 r1
  refine CF.mono ?_
  clear CF
  rintro e w5 ⟨⟨bo, bc, b, g, rfl, -, -, -, FW⟩, hb5⟩
  obtain ⟨W6, e6⟩ : ∃ W6, w5.alloc (.cells #[.func (.func 73) #[] #[.pointer (some ⟨bo, 0, none⟩), .pointer (some ⟨bc, 0, none⟩)]] 67) = W6 := ⟨_, rfl⟩
  have B6 : Below w5.heap.size w5 W6 := by rw [← e6]; exact one_alloc _ _
  have z6 : W6.heap.size = w5.heap.size + 1 := by rw [← e6]; simp
  have B36 : Below W3.heap.size W3 W6 := hb5.trans (B6.mono hb5.size)
  have hN : Num49 n lo x.cells w5.heap.size W6 := ⟨a2, CX, c2, bo, bc, ab, cb, b, g, HC16.out, by omega, by rw [← e6]; exact cell_new0 w5 _ 67 0 _ rfl, FW.next B6⟩
  have C := HNUM.out W6 w5.heap.size (hb3.trans (B36.mono hb3.size)) hN
  have I6 := HI.out.next B36
  have r0 := I6.r0
  have r1 := I6.r1
  have HI6 := hide I6
  have HE6 := hide e6
  clear FW hb5 B6 z6 B36 hN I6 HNUM e6
  go_upto_region 4 with fail
  rw [HE6.out]
  go_wp2_with fail
  refine C.mono ?_
  clear C r0 r1
  rintro e w7 ⟨⟨v, rfl, kv, hv⟩, hb7⟩
  obtain ⟨z1, m1, z2, m2, rfl, -, -⟩ := hv.form
  have I7 := HI6.out.next hb7
  have p0 := I7.p0
  have p1 := I7.p1
  have f0 := I7.f0
  have f1 := I7.f1
  obtain ⟨Y, hY⟩ : ∃ Y, Ar.mk y.shape (numCs 0 ((List.range CY).map fun i => (plcC n x.cells (cAt y.cells i) : Int))) = Y := ⟨_, rfl⟩
  rw [hY] at hv kv HE5 ⊢
  have HT := hide (I7.put (.slice z1 Y.shape.length m1) (.slice z2 Y.cells.length m2))
  have HF : Hid (∀ u v, GivesD (n + 1) (fndR n x y).1 (fndR n x y).2 w (.returned (.tuple #[.agg #[.slice z1 Y.shape.length m1, .slice z2 Y.cells.length m2], .int .i64 0])) ((w7.setCell ⟨w.heap.size + 2, 0, none⟩ u).setCell ⟨w.heap.size + 2, 1, none⟩ v)) := fun u v => by
    rw [HE5.out]
    exact ⟨⟨_, rfl, kv, I7.give hv HI6.out.size u v⟩, I7.fin u v⟩
  clear hv kv I7 hb7 hY
  generalize Y.shape.length = YS at *
  generalize Y.cells.length = YC at *
  go_wp2
  exact bodyPost_ret (v := .tuple #[.agg #[.slice z1 YS m1, .slice z2 YC m2], .int .i64 0]) (by simp [results, Try.results26, go_sem, HT.out.1, HT.out.2]) rfl (HF.out _ _)
set_option maxHeartbeats 4000000 in
theorem among_any {n lo lo' : Nat} {x y : Ar} {va vb : Value} {w : World} (hx : ArIn (n + 1) lo w x va) (hy : ArIn (n + 1) lo' w y vb) (hcx : chkA 8 x = 0) (hcy : chkA 8 y = 0) :
    Calls Try.prog 27 #[va, vb] w fun e w' => (∃ v, e = .returned v ∧ Caps v ∧ ArIn (n + 1) w.heap.size w' (amgR n x y) v) ∧ Below w.heap.size w w' := by
  obtain ⟨a1, c1, a2, c2, rfl, R, hc⟩ := hx.form
  obtain ⟨b1, d1, b2, d2, rfl, R', hc'⟩ := hy.form
  obtain ⟨lx8, cx16⟩ := chk_len hcx
  obtain ⟨ly8, cy16⟩ := chk_len hcy
  obtain ⟨ab, cb, hcf⟩ := cells_fn hc
  obtain ⟨ab', cb', hcf'⟩ := cells_fn hc'
  have hcf1 : CellsFn n lo w x.cells a2 ab cb := hcf
  have hcf2 : CellsFn n lo' w y.cells b2 ab' cb' := hcf'
  have I := in3_new w (.slice a1 x.shape.length c1) (.slice a2 x.cells.length c2) (.slice b1 y.shape.length d1) (.slice b2 y.cells.length d2)
  obtain ⟨W3, e3⟩ : ∃ W3, ((w.alloc (.cells #[.slice a1 x.shape.length c1, .slice a2 x.cells.length c2] 25)).alloc (.cells #[.slice b1 y.shape.length d1, .slice b2 y.cells.length d2] 25)).alloc (.cells #[.slice none 0 0, .slice none 0 0] 25) = W3 := ⟨_, rfl⟩
  rw [e3] at I
  have q0 := I.q0
  have q1 := I.q1
  have r0 := I.r0
  have r1 := I.r1
  have HI := hide I
  have hb3 := I.bel
  obtain ⟨SX, hSX⟩ : ∃ SX, x.shape.length = SX := ⟨_, rfl⟩
  obtain ⟨CX, hCX⟩ : ∃ CX, x.cells.length = CX := ⟨_, rfl⟩
  obtain ⟨SY, hSY⟩ : ∃ SY, y.shape.length = SY := ⟨_, rfl⟩
  obtain ⟨CY, hCY⟩ : ∃ CY, y.cells.length = CY := ⟨_, rfl⟩
  have HE5 : Hid (amgR n x y = .mk x.shape (numCs 0 ((List.range CX).map fun i => memC n y.cells (cAt x.cells i)))) := by unfold Hid amgR; rw [hCX]
  have CF := finder_any (c2 := d2) (hcf2.next hb3) hCY (by omega)
  have HNUM : Hid (∀ W bp bb, Below w.heap.size w W → Num50 n lo' y.cells bp bb W → Calls Try.prog 48 #[.agg #[.slice a1 SX c1, .slice a2 CX c2], .func (.func 50) #[] #[.pointer (some ⟨bp, 0, none⟩), .pointer (some ⟨bb, 0, none⟩)]] W fun e w' => (∃ v, e = .returned v ∧ Caps v ∧ ArIn (n + 1) W.heap.size w' (.mk x.shape (numCs 0 ((List.range CX).map fun i => memC n y.cells (cAt x.cells i)))) v) ∧ Below W.heap.size W w') := fun W bp bb hW hN =>
    numbered_50 (m := n) (R.next hW) (hcf1.next hW) hSX hCX (by omega) (by omega) (fun V hV i hi => by
      have hcW := (hcf1.next hW).next hV
      obtain ⟨b, off, -, -, -, hcells⟩ := hcW (by omega)
      exact clo50 (hN.next hV) (hcells i (by omega)).2.2.2)
  have HC16 : Hid (CY ≤ 16384) := by unfold Hid; omega
  simp only [hSX, hCX, hSY, hCY] at e3 q0 q1 r0 r1 HI ⊢
  clear hx hy R hc R' hc' hcf hcf' hcf1 hcf2 I
  go_enter Try.func27, Try.ntmps27
  go_wp2_with fail
  clear e3 q0 q1 r0 r1
  refine CF.mono ?_
  clear CF
  rintro e w5 ⟨⟨bo, bc, b, g, rfl, -, -, -, FW⟩, hb5⟩
  obtain ⟨W6, e6⟩ : ∃ W6, w5.alloc (.cells #[.func (.func 73) #[] #[.pointer (some ⟨bo, 0, none⟩), .pointer (some ⟨bc, 0, none⟩)]] 67) = W6 := ⟨_, rfl⟩
  have B6 : Below w5.heap.size w5 W6 := by rw [← e6]; exact one_alloc _ _
  have z6 : W6.heap.size = w5.heap.size + 1 := by rw [← e6]; simp
  have B36 : Below W3.heap.size W3 W6 := hb5.trans (B6.mono hb5.size)
  have I6 := HI.out.next B36
  have hs6 := I6.size
  have hN : Num50 n lo' y.cells w5.heap.size (w.heap.size + 1) W6 := ⟨b2, CY, d2, bo, bc, ab', cb', b, g, HC16.out, by omega, by rw [← e6]; exact cell_new0 w5 _ 67 0 _ rfl, by omega, I6.r1, FW.next B6⟩
  have C := HNUM.out W6 w5.heap.size (w.heap.size + 1) (hb3.trans (B36.mono hb3.size)) hN
  have q0 := I6.q0
  have q1 := I6.q1
  have HI6 := hide I6
  have HE6 := hide e6
  clear FW hb5 B6 z6 B36 hN I6 HNUM e6 hs6
  go_upto_region 2 with fail
  rw [HE6.out]
  go_wp2_with fail
  refine C.mono ?_
  clear C q0 q1
  rintro e w7 ⟨⟨v, rfl, kv, hv⟩, hb7⟩
  obtain ⟨z1, m1, z2, m2, rfl, -, -⟩ := hv.form
  have I7 := HI6.out.next hb7
  have p0 := I7.p0
  have p1 := I7.p1
  have f0 := I7.f0
  have f1 := I7.f1
  rw [← HE5.out] at hv kv ⊢
  obtain ⟨Y, hY⟩ : ∃ Y, amgR n x y = Y := ⟨_, rfl⟩
  rw [hY] at hv kv ⊢
  have HT := hide (I7.put (.slice z1 Y.shape.length m1) (.slice z2 Y.cells.length m2))
  have HF : Hid (∀ u t, (∃ v, Ending.returned (.agg #[.slice z1 Y.shape.length m1, .slice z2 Y.cells.length m2]) = .returned v ∧ Caps v ∧ ArIn (n + 1) w.heap.size ((w7.setCell ⟨w.heap.size + 2, 0, none⟩ u).setCell ⟨w.heap.size + 2, 1, none⟩ t) (amgR n x y) v) ∧ Below w.heap.size w ((w7.setCell ⟨w.heap.size + 2, 0, none⟩ u).setCell ⟨w.heap.size + 2, 1, none⟩ t)) := fun u t => by
    rw [hY]
    exact ⟨⟨_, rfl, kv, I7.give hv HI6.out.size u t⟩, I7.fin u t⟩
  clear hv kv I7 hb7 hY
  generalize Y.shape.length = YS at *
  generalize Y.cells.length = YC at *
  go_wp2
  exact bodyPost_ret (v := .agg #[.slice z1 YS m1, .slice z2 YC m2]) (by simp [results, Try.results27, go_sem, HT.out.1, HT.out.2]) rfl (HF.out _ _)
/-- Dy's answer of arrays that may be. -/
def seekR (n : Nat) (op : Int) (x y : Ar) : Ar × Int := if op = 48 then fndR n x y else if op = 49 then (amgR n x y, 0) else (zeroA, 1)
def seekD (n : Nat) (op : Int) (x y : Ar) : Ar × Int := if ¬ chkA 8 x = 0 then (zeroA, chkA 8 x) else if ¬ chkA 8 y = 0 then (zeroA, chkA 8 y) else seekR n op x y
set_option maxHeartbeats 4000000 in
theorem sdy_bad1 {n lo lo' : Nat} {op : Int} {x y : Ar} {va vb : Value} {w : World} (hx : ArIn (n + 1) lo w x va) (hy : ArIn (n + 1) lo' w y vb) (hcx : ¬ chkA 8 x = 0) :
    Calls Try.prog 10 #[.int .i64 op, va, vb] w fun e w' => GivesD (n + 1) zeroA (chkA 8 x) w e w' := by
  obtain ⟨a1, c1, a2, c2, rfl, -, -⟩ := hx.form
  obtain ⟨b1, d1, b2, d2, rfl, -, -⟩ := hy.form
  have I := in3_new w (.slice a1 x.shape.length c1) (.slice a2 x.cells.length c2) (.slice b1 y.shape.length d1) (.slice b2 y.cells.length d2)
  obtain ⟨W3, e3⟩ : ∃ W3, ((w.alloc (.cells #[.slice a1 x.shape.length c1, .slice a2 x.cells.length c2] 25)).alloc (.cells #[.slice b1 y.shape.length d1, .slice b2 y.cells.length d2] 25)).alloc (.cells #[.slice none 0 0, .slice none 0 0] 25) = W3 := ⟨_, rfl⟩
  rw [e3] at I
  have hb3 := I.bel
  have q0 := I.q0
  have q1 := I.q1
  have r0 := I.r0
  have r1 := I.r1
  have HI := hide I
  have CK := check_any (n + 1) x _ _ W3 (hx.next hb3)
  have HCK2 : Hid (∀ W, Below w.heap.size w W → Calls Try.prog 25 #[.agg #[.slice b1 y.shape.length d1, .slice b2 y.cells.length d2]] W fun e w' => e = .returned (.int .i64 (chkA 8 y)) ∧ Below W.heap.size W w') := fun W h => check_any (n + 1) y _ _ W (hy.next h)
  obtain ⟨E, hE⟩ : ∃ E, chkA 8 x = E := ⟨_, rfl⟩
  rw [hE] at CK hcx ⊢
  have hEb : (E == 0) = false := by simp [hcx]
  clear hx hy I hE HCK2
  generalize x.shape.length = SX at *
  generalize x.cells.length = CX at *
  generalize y.shape.length = SY at *
  generalize y.cells.length = CY at *
  go_enter Try.func10, Try.ntmps10
  go_wp2_with fail
  clear e3
  refine CK.mono ?_
  clear CK q0 q1 r0 r1
  rintro e w1 ⟨rfl, hb1⟩
  have I1 := HI.out.next hb1
  have HI1 := hide I1
  clear hb1 HI I1
  have HT := hide (HI1.out.put (.slice none 0 0) (.slice none 0 0))
  have p0 := HI1.out.p0
  have p1 := HI1.out.p1
  have f0 := HI1.out.f0
  have f1 := HI1.out.f1
  have HF : Hid (∀ u v, GivesD (n + 1) zeroA E w (.returned (.tuple #[.agg #[.slice none 0 0, .slice none 0 0], .int .i64 E])) ((w1.setCell ⟨w.heap.size + 2, 0, none⟩ u).setCell ⟨w.heap.size + 2, 1, none⟩ v)) := fun u v => ⟨⟨_, rfl, ⟨_, _, _, _, _, _, rfl, Nat.le_refl _, Nat.le_refl _⟩, zeroA_in _ _ _⟩, HI1.out.fin u v⟩
  go_wp2
  exact bodyPost_ret (v := .tuple #[.agg #[.slice none 0 0, .slice none 0 0], .int .i64 E]) (by simp [results, Try.results10, go_sem, HT.out.1, HT.out.2]) rfl (HF.out _ _)
set_option maxHeartbeats 4000000 in
theorem sdy_bad2 {n lo lo' : Nat} {op : Int} {x y : Ar} {va vb : Value} {w : World} (hx : ArIn (n + 1) lo w x va) (hy : ArIn (n + 1) lo' w y vb) (hcx : chkA 8 x = 0) (hcy : ¬ chkA 8 y = 0) :
    Calls Try.prog 10 #[.int .i64 op, va, vb] w fun e w' => GivesD (n + 1) zeroA (chkA 8 y) w e w' := by
  obtain ⟨a1, c1, a2, c2, rfl, -, -⟩ := hx.form
  obtain ⟨b1, d1, b2, d2, rfl, -, -⟩ := hy.form
  have I := in3_new w (.slice a1 x.shape.length c1) (.slice a2 x.cells.length c2) (.slice b1 y.shape.length d1) (.slice b2 y.cells.length d2)
  obtain ⟨W3, e3⟩ : ∃ W3, ((w.alloc (.cells #[.slice a1 x.shape.length c1, .slice a2 x.cells.length c2] 25)).alloc (.cells #[.slice b1 y.shape.length d1, .slice b2 y.cells.length d2] 25)).alloc (.cells #[.slice none 0 0, .slice none 0 0] 25) = W3 := ⟨_, rfl⟩
  rw [e3] at I
  have hb3 := I.bel
  have q0 := I.q0
  have q1 := I.q1
  have r0 := I.r0
  have r1 := I.r1
  have HI := hide I
  have CK := check_any (n + 1) x _ _ W3 (hx.next hb3)
  have HCK2 : Hid (∀ W, Below w.heap.size w W → Calls Try.prog 25 #[.agg #[.slice b1 y.shape.length d1, .slice b2 y.cells.length d2]] W fun e w' => e = .returned (.int .i64 (chkA 8 y)) ∧ Below W.heap.size W w') := fun W h => check_any (n + 1) y _ _ W (hy.next h)
  rw [hcx] at CK
  obtain ⟨E, hE⟩ : ∃ E, chkA 8 y = E := ⟨_, rfl⟩
  rw [hE] at HCK2 hcy ⊢
  have hEb : (E == 0) = false := by simp [hcy]
  clear hx hy I hE
  generalize x.shape.length = SX at *
  generalize x.cells.length = CX at *
  generalize y.shape.length = SY at *
  generalize y.cells.length = CY at *
  go_enter Try.func10, Try.ntmps10
  go_wp2_with fail
  clear e3
  refine CK.mono ?_
  clear CK q0 q1 r0 r1
  rintro e w1 ⟨rfl, hb1⟩
  have I1 := HI.out.next hb1
  have HI1 := hide I1
  have C2 := HCK2.out w1 I1.bel
  have r0 := I1.r0
  have r1 := I1.r1
  clear hb1 HI I1 HCK2
  go_wp2_with fail
  refine C2.mono ?_
  clear C2 r0 r1
  rintro e w2 ⟨rfl, hb2⟩
  have I2 := HI1.out.next hb2
  have HI2 := hide I2
  clear hb2 HI1 I2
  have HT := hide (HI2.out.put (.slice none 0 0) (.slice none 0 0))
  have p0 := HI2.out.p0
  have p1 := HI2.out.p1
  have f0 := HI2.out.f0
  have f1 := HI2.out.f1
  have HF : Hid (∀ u v, GivesD (n + 1) zeroA E w (.returned (.tuple #[.agg #[.slice none 0 0, .slice none 0 0], .int .i64 E])) ((w2.setCell ⟨w.heap.size + 2, 0, none⟩ u).setCell ⟨w.heap.size + 2, 1, none⟩ v)) := fun u v => ⟨⟨_, rfl, ⟨_, _, _, _, _, _, rfl, Nat.le_refl _, Nat.le_refl _⟩, zeroA_in _ _ _⟩, HI2.out.fin u v⟩
  go_wp2
  exact bodyPost_ret (v := .tuple #[.agg #[.slice none 0 0, .slice none 0 0], .int .i64 E]) (by simp [results, Try.results10, go_sem, HT.out.1, HT.out.2]) rfl (HF.out _ _)
set_option maxHeartbeats 4000000 in
theorem sdy_none {n lo lo' : Nat} {op : Int} {x y : Ar} {va vb : Value} {w : World} (h48 : ¬ op = 48) (h49 : ¬ op = 49) (hx : ArIn (n + 1) lo w x va) (hy : ArIn (n + 1) lo' w y vb) (hcx : chkA 8 x = 0) (hcy : chkA 8 y = 0) :
    Calls Try.prog 10 #[.int .i64 op, va, vb] w fun e w' => GivesD (n + 1) zeroA 1 w e w' := by
  obtain ⟨a1, c1, a2, c2, rfl, -, -⟩ := hx.form
  obtain ⟨b1, d1, b2, d2, rfl, -, -⟩ := hy.form
  have I := in3_new w (.slice a1 x.shape.length c1) (.slice a2 x.cells.length c2) (.slice b1 y.shape.length d1) (.slice b2 y.cells.length d2)
  obtain ⟨W3, e3⟩ : ∃ W3, ((w.alloc (.cells #[.slice a1 x.shape.length c1, .slice a2 x.cells.length c2] 25)).alloc (.cells #[.slice b1 y.shape.length d1, .slice b2 y.cells.length d2] 25)).alloc (.cells #[.slice none 0 0, .slice none 0 0] 25) = W3 := ⟨_, rfl⟩
  rw [e3] at I
  have hb3 := I.bel
  have q0 := I.q0
  have q1 := I.q1
  have r0 := I.r0
  have r1 := I.r1
  have HI := hide I
  have CK := check_any (n + 1) x _ _ W3 (hx.next hb3)
  have HCK2 : Hid (∀ W, Below w.heap.size w W → Calls Try.prog 25 #[.agg #[.slice b1 y.shape.length d1, .slice b2 y.cells.length d2]] W fun e w' => e = .returned (.int .i64 (chkA 8 y)) ∧ Below W.heap.size W w') := fun W h => check_any (n + 1) y _ _ W (hy.next h)
  rw [hcx] at CK
  rw [hcy] at HCK2
  have o48 : (op == 48) = false := beq_eq_false_iff_ne.2 h48
  have o49 : (op == 49) = false := beq_eq_false_iff_ne.2 h49
  clear hx hy I h48 h49
  generalize x.shape.length = SX at *
  generalize x.cells.length = CX at *
  generalize y.shape.length = SY at *
  generalize y.cells.length = CY at *
  go_enter Try.func10, Try.ntmps10
  go_wp2_with fail
  clear e3
  refine CK.mono ?_
  clear CK q0 q1 r0 r1
  rintro e w1 ⟨rfl, hb1⟩
  have I1 := HI.out.next hb1
  have HI1 := hide I1
  have C2 := HCK2.out w1 I1.bel
  have r0 := I1.r0
  have r1 := I1.r1
  clear hb1 HI I1 HCK2
  go_wp2_with fail
  refine C2.mono ?_
  clear C2 r0 r1
  rintro e w2 ⟨rfl, hb2⟩
  have I2 := HI1.out.next hb2
  have HI2 := hide I2
  clear hb2 HI1 I2
  have HT := hide (HI2.out.put (.slice none 0 0) (.slice none 0 0))
  have p0 := HI2.out.p0
  have p1 := HI2.out.p1
  have f0 := HI2.out.f0
  have f1 := HI2.out.f1
  have HF : Hid (∀ u v, GivesD (n + 1) zeroA 1 w (.returned (.tuple #[.agg #[.slice none 0 0, .slice none 0 0], .int .i64 1])) ((w2.setCell ⟨w.heap.size + 2, 0, none⟩ u).setCell ⟨w.heap.size + 2, 1, none⟩ v)) := fun u v => ⟨⟨_, rfl, ⟨_, _, _, _, _, _, rfl, Nat.le_refl _, Nat.le_refl _⟩, zeroA_in _ _ _⟩, HI2.out.fin u v⟩
  go_wp2
  exact bodyPost_ret (v := .tuple #[.agg #[.slice none 0 0, .slice none 0 0], .int .i64 1]) (by simp [results, Try.results10, go_sem, HT.out.1, HT.out.2]) rfl (HF.out _ _)
set_option maxHeartbeats 4000000 in
theorem sdy_48 {n lo lo' : Nat} {x y : Ar} {va vb : Value} {w : World} (hx : ArIn (n + 1) lo w x va) (hy : ArIn (n + 1) lo' w y vb) (hcx : chkA 8 x = 0) (hcy : chkA 8 y = 0) :
    Calls Try.prog 10 #[.int .i64 48, va, vb] w fun e w' => GivesD (n + 1) (fndR n x y).1 (fndR n x y).2 w e w' := by
  obtain ⟨a1, c1, a2, c2, rfl, -, -⟩ := hx.form
  obtain ⟨b1, d1, b2, d2, rfl, -, -⟩ := hy.form
  have I := in3_new w (.slice a1 x.shape.length c1) (.slice a2 x.cells.length c2) (.slice b1 y.shape.length d1) (.slice b2 y.cells.length d2)
  obtain ⟨W3, e3⟩ : ∃ W3, ((w.alloc (.cells #[.slice a1 x.shape.length c1, .slice a2 x.cells.length c2] 25)).alloc (.cells #[.slice b1 y.shape.length d1, .slice b2 y.cells.length d2] 25)).alloc (.cells #[.slice none 0 0, .slice none 0 0] 25) = W3 := ⟨_, rfl⟩
  rw [e3] at I
  have hb3 := I.bel
  have q0 := I.q0
  have q1 := I.q1
  have r0 := I.r0
  have r1 := I.r1
  have HI := hide I
  have CK := check_any (n + 1) x _ _ W3 (hx.next hb3)
  have HCK2 : Hid (∀ W, Below w.heap.size w W → Calls Try.prog 25 #[.agg #[.slice b1 y.shape.length d1, .slice b2 y.cells.length d2]] W fun e w' => e = .returned (.int .i64 (chkA 8 y)) ∧ Below W.heap.size W w') := fun W h => check_any (n + 1) y _ _ W (hy.next h)
  rw [hcx] at CK
  rw [hcy] at HCK2
  have HC : Hid (∀ W, Below w.heap.size w W → Calls Try.prog 26 #[.agg #[.slice a1 x.shape.length c1, .slice a2 x.cells.length c2], .agg #[.slice b1 y.shape.length d1, .slice b2 y.cells.length d2]] W fun e w' => GivesD (n + 1) (fndR n x y).1 (fndR n x y).2 W e w') := fun W h => found_any (hx.next h) (hy.next h) hcx hcy
  obtain ⟨⟨Y, EY⟩, hR⟩ : ∃ p, fndR n x y = p := ⟨_, rfl⟩
  rw [hR] at HC ⊢
  simp only at HC ⊢
  clear hx hy I hR
  generalize x.shape.length = SX at *
  generalize x.cells.length = CX at *
  generalize y.shape.length = SY at *
  generalize y.cells.length = CY at *
  go_enter Try.func10, Try.ntmps10
  go_wp2_with fail
  clear e3
  refine CK.mono ?_
  clear CK q0 q1 r0 r1
  rintro e w1 ⟨rfl, hb1⟩
  have I1 := HI.out.next hb1
  have HI1 := hide I1
  have C2 := HCK2.out w1 I1.bel
  have r0 := I1.r0
  have r1 := I1.r1
  clear hb1 HI I1 HCK2
  go_wp2_with fail
  refine C2.mono ?_
  clear C2 r0 r1
  rintro e w2 ⟨rfl, hb2⟩
  have I2 := HI1.out.next hb2
  have HI2 := hide I2
  have C := HC.out w2 I2.bel
  have q0 := I2.q0
  have q1 := I2.q1
  have r0 := I2.r0
  have r1 := I2.r1
  clear hb2 HI1 I2 HC hcx hcy
  go_wp2_with fail
  refine C.mono ?_
  clear C q0 q1 r0 r1
  rintro e w4 ⟨⟨v, rfl, kv, hv⟩, hb4⟩
  obtain ⟨z1, m1, z2, m2, rfl, -, -⟩ := hv.form
  have I4 := HI2.out.next hb4
  have p0 := I4.p0
  have p1 := I4.p1
  have f0 := I4.f0
  have f1 := I4.f1
  have HT := hide (I4.put (.slice z1 Y.shape.length m1) (.slice z2 Y.cells.length m2))
  have HF : Hid (∀ u v, GivesD (n + 1) Y EY w (.returned (.tuple #[.agg #[.slice z1 Y.shape.length m1, .slice z2 Y.cells.length m2], .int .i64 EY])) ((w4.setCell ⟨w.heap.size + 2, 0, none⟩ u).setCell ⟨w.heap.size + 2, 1, none⟩ v)) := fun u v => ⟨⟨_, rfl, kv, I4.give hv HI2.out.size u v⟩, I4.fin u v⟩
  clear I4 hv kv hb4 HI2
  generalize Y.shape.length = YS at *
  generalize Y.cells.length = YC at *
  go_wp2
  exact bodyPost_ret (v := .tuple #[.agg #[.slice z1 YS m1, .slice z2 YC m2], .int .i64 EY]) (by simp [results, Try.results10, go_sem, HT.out.1, HT.out.2]) rfl (HF.out _ _)
set_option maxHeartbeats 4000000 in
theorem sdy_49 {n lo lo' : Nat} {x y : Ar} {va vb : Value} {w : World} (hx : ArIn (n + 1) lo w x va) (hy : ArIn (n + 1) lo' w y vb) (hcx : chkA 8 x = 0) (hcy : chkA 8 y = 0) :
    Calls Try.prog 10 #[.int .i64 49, va, vb] w fun e w' => GivesD (n + 1) ((amgR n x y, (0 : Int))).1 ((amgR n x y, (0 : Int))).2 w e w' := by
  obtain ⟨a1, c1, a2, c2, rfl, -, -⟩ := hx.form
  obtain ⟨b1, d1, b2, d2, rfl, -, -⟩ := hy.form
  have I := in3_new w (.slice a1 x.shape.length c1) (.slice a2 x.cells.length c2) (.slice b1 y.shape.length d1) (.slice b2 y.cells.length d2)
  obtain ⟨W3, e3⟩ : ∃ W3, ((w.alloc (.cells #[.slice a1 x.shape.length c1, .slice a2 x.cells.length c2] 25)).alloc (.cells #[.slice b1 y.shape.length d1, .slice b2 y.cells.length d2] 25)).alloc (.cells #[.slice none 0 0, .slice none 0 0] 25) = W3 := ⟨_, rfl⟩
  rw [e3] at I
  have hb3 := I.bel
  have q0 := I.q0
  have q1 := I.q1
  have r0 := I.r0
  have r1 := I.r1
  have HI := hide I
  have CK := check_any (n + 1) x _ _ W3 (hx.next hb3)
  have HCK2 : Hid (∀ W, Below w.heap.size w W → Calls Try.prog 25 #[.agg #[.slice b1 y.shape.length d1, .slice b2 y.cells.length d2]] W fun e w' => e = .returned (.int .i64 (chkA 8 y)) ∧ Below W.heap.size W w') := fun W h => check_any (n + 1) y _ _ W (hy.next h)
  rw [hcx] at CK
  rw [hcy] at HCK2
  have HC : Hid (∀ W, Below w.heap.size w W → Calls Try.prog 27 #[.agg #[.slice a1 x.shape.length c1, .slice a2 x.cells.length c2], .agg #[.slice b1 y.shape.length d1, .slice b2 y.cells.length d2]] W fun e w' => (∃ v, e = .returned v ∧ Caps v ∧ ArIn (n + 1) W.heap.size w' (amgR n x y) v) ∧ Below W.heap.size W w') := fun W h => among_any (hx.next h) (hy.next h) hcx hcy
  obtain ⟨⟨Y, EY⟩, hR⟩ : ∃ p, (amgR n x y, (0 : Int)) = p := ⟨_, rfl⟩
  have hRY : amgR n x y = Y ∧ EY = 0 := by simp only [Prod.mk.injEq] at hR; exact ⟨hR.1, hR.2.symm⟩
  rw [hR]
  rw [hRY.1] at HC
  obtain ⟨-, rfl⟩ := hRY
  simp only
  clear hx hy I hR
  generalize x.shape.length = SX at *
  generalize x.cells.length = CX at *
  generalize y.shape.length = SY at *
  generalize y.cells.length = CY at *
  go_enter Try.func10, Try.ntmps10
  go_wp2_with fail
  clear e3
  refine CK.mono ?_
  clear CK q0 q1 r0 r1
  rintro e w1 ⟨rfl, hb1⟩
  have I1 := HI.out.next hb1
  have HI1 := hide I1
  have C2 := HCK2.out w1 I1.bel
  have r0 := I1.r0
  have r1 := I1.r1
  clear hb1 HI I1 HCK2
  go_wp2_with fail
  refine C2.mono ?_
  clear C2 r0 r1
  rintro e w2 ⟨rfl, hb2⟩
  have I2 := HI1.out.next hb2
  have HI2 := hide I2
  have C := HC.out w2 I2.bel
  have q0 := I2.q0
  have q1 := I2.q1
  have r0 := I2.r0
  have r1 := I2.r1
  clear hb2 HI1 I2 HC hcx hcy
  go_wp2_with fail
  refine C.mono ?_
  clear C q0 q1 r0 r1
  rintro e w4 ⟨⟨v, rfl, kv, hv⟩, hb4⟩
  obtain ⟨z1, m1, z2, m2, rfl, -, -⟩ := hv.form
  have I4 := HI2.out.next hb4
  have p0 := I4.p0
  have p1 := I4.p1
  have f0 := I4.f0
  have f1 := I4.f1
  have HT := hide (I4.put (.slice z1 Y.shape.length m1) (.slice z2 Y.cells.length m2))
  have HF : Hid (∀ u v, GivesD (n + 1) Y 0 w (.returned (.tuple #[.agg #[.slice z1 Y.shape.length m1, .slice z2 Y.cells.length m2], .int .i64 0])) ((w4.setCell ⟨w.heap.size + 2, 0, none⟩ u).setCell ⟨w.heap.size + 2, 1, none⟩ v)) := fun u v => ⟨⟨_, rfl, kv, I4.give hv HI2.out.size u v⟩, I4.fin u v⟩
  clear I4 hv kv hb4 HI2
  generalize Y.shape.length = YS at *
  generalize Y.cells.length = YC at *
  go_wp2
  exact bodyPost_ret (v := .tuple #[.agg #[.slice z1 YS m1, .slice z2 YC m2], .int .i64 0]) (by simp [results, Try.results10, go_sem, HT.out.1, HT.out.2]) rfl (HF.out _ _)
theorem sdy_any {n lo lo' : Nat} {op : Int} {x y : Ar} {va vb : Value} {w : World} (hx : ArIn (n + 1) lo w x va) (hy : ArIn (n + 1) lo' w y vb) :
    Calls Try.prog 10 #[.int .i64 op, va, vb] w fun e w' => GivesD (n + 1) (seekD n op x y).1 (seekD n op x y).2 w e w' := by
  unfold seekD
  by_cases h1 : chkA 8 x = 0
  case neg => rw [if_pos h1]; exact sdy_bad1 hx hy h1
  by_cases h2 : chkA 8 y = 0
  case neg => rw [if_neg (by simpa using h1), if_pos h2]; exact sdy_bad2 hx hy h1 h2
  rw [if_neg (by simpa using h1), if_neg (by simpa using h2)]
  unfold seekR
  by_cases h : op = 48
  · subst h; rw [if_pos rfl]; exact sdy_48 hx hy h1 h2
  rw [if_neg h]
  by_cases h' : op = 49
  · subst h'; rw [if_pos rfl]; exact sdy_49 hx hy h1 h2
  rw [if_neg h']
  exact sdy_none h h' hx hy h1 h2
end Go.Proofs.Ytimkcpbgnoekcaa
namespace Go.Proofs.Ytimkcpbgnoekcaa
open Go.ChangeShapes Go.WideShapes Go.ChangeAt Go.RowKit
set_option linter.unusedVariables false
set_option maxRecDepth 100000
set_option maxHeartbeats 4000000 in
theorem inOrder_rank {n c1 CA c2 : Nat} {a1 a2 : Option Addr} {fv : Value} {w : World} :
    Calls Try.prog 29 #[.agg #[.slice a1 0 c1, .slice a2 CA c2], fv] w fun e w' => GivesD (n + 1) zeroA 6 w e w' := by
  have I := in2_new w (.slice a1 0 c1) (.slice a2 CA c2)
  obtain ⟨W2, e2⟩ : ∃ W2, (w.alloc (.cells #[.slice a1 0 c1, .slice a2 CA c2] 25)).alloc (.cells #[.slice none 0 0, .slice none 0 0] 25) = W2 := ⟨_, rfl⟩
  rw [e2] at I
  have q0 := I.q0
  have p0 := I.p0
  have p1 := I.p1
  have f0 := I.f0
  have f1 := I.f1
  have HT := hide (I.put (.slice none 0 0) (.slice none 0 0))
  have HF : Hid (∀ u v, GivesD (n + 1) zeroA 6 w (.returned (.tuple #[.agg #[.slice none 0 0, .slice none 0 0], .int .i64 6])) ((W2.setCell ⟨w.heap.size + 1, 0, none⟩ u).setCell ⟨w.heap.size + 1, 1, none⟩ v)) := fun u v => ⟨⟨_, rfl, ⟨_, _, _, _, _, _, rfl, Nat.le_refl _, Nat.le_refl _⟩, zeroA_in _ _ _⟩, I.fin u v⟩
  clear I
  go_enter Try.func29, Try.ntmps29
  go_wp2
  exact bodyPost_ret (v := .tuple #[.agg #[.slice none 0 0, .slice none 0 0], .int .i64 6]) (by simp [results, Try.results29, go_sem, HT.out.1, HT.out.2]) rfl (HF.out _ _)
set_option maxHeartbeats 4000000 in
theorem inOrder_dom {n lo SX c1 CA c2 : Nat} {cs : List Ce} {a1 a2 : Option Addr} {ab : Nat → Option Addr} {cb : Nat → Nat} {fv : Value} {w : World} (hcf : CellsFn n lo w cs a2 ab cb) (hSX : 0 < SX) (hSX8 : SX ≤ 16384) (hCA : cs.length = CA) (h16 : CA ≤ 16384) (hA0 : allK 0 cs = false) (hA1 : allK 1 cs = false) :
    Calls Try.prog 29 #[.agg #[.slice a1 SX c1, .slice a2 CA c2], fv] w fun e w' => GivesD (n + 1) zeroA 5 w e w' := by
  have I := in2_new w (.slice a1 SX c1) (.slice a2 CA c2)
  obtain ⟨W2, e2⟩ : ∃ W2, (w.alloc (.cells #[.slice a1 SX c1, .slice a2 CA c2] 25)).alloc (.cells #[.slice none 0 0, .slice none 0 0] 25) = W2 := ⟨_, rfl⟩
  rw [e2] at I
  have q0 := I.q0
  have q1 := I.q1
  have HI := hide I
  have C0 := allOf_any (c2 := c2) (K := 0) (hcf.next I.bel) hCA h16
  rw [hA0] at C0
  have HC1 : Hid (∀ W, Below w.heap.size w W → Calls Try.prog 51 #[.slice a2 CA c2, .int .i64 1] W fun e w' => e = .returned (.bool false) ∧ Below W.heap.size W w') := fun W h => by rw [← hA1]; exact allOf_any (hcf.next h) hCA h16
  have hSXb : ((SX : Int) == 0) = false := by simp; omega
  clear hcf hA0 hA1 I
  go_enter Try.func29, Try.ntmps29
  go_wp2_with fail
  clear e2
  refine C0.mono ?_
  clear C0 q0 q1
  rintro e w3 ⟨rfl, hb3⟩
  have I3 := HI.out.next hb3
  have q1 := I3.q1
  have C1 := HC1.out w3 I3.bel
  have HI3 := hide I3
  clear I3 HC1 hb3 HI
  go_wp2_with fail
  refine C1.mono ?_
  clear C1 q1
  rintro e w4 ⟨rfl, hb4⟩
  have I4 := HI3.out.next hb4
  clear hb4 HI3
  have p0 := I4.p0
  have p1 := I4.p1
  have f0 := I4.f0
  have f1 := I4.f1
  have HT := hide (I4.put (.slice none 0 0) (.slice none 0 0))
  have HF : Hid (∀ u v, GivesD (n + 1) zeroA 5 w (.returned (.tuple #[.agg #[.slice none 0 0, .slice none 0 0], .int .i64 5])) ((w4.setCell ⟨w.heap.size + 1, 0, none⟩ u).setCell ⟨w.heap.size + 1, 1, none⟩ v)) := fun u v => ⟨⟨_, rfl, ⟨_, _, _, _, _, _, rfl, Nat.le_refl _, Nat.le_refl _⟩, zeroA_in _ _ _⟩, I4.fin u v⟩
  clear I4
  go_wp2
  exact bodyPost_ret (v := .tuple #[.agg #[.slice none 0 0, .slice none 0 0], .int .i64 5]) (by simp [results, Try.results29, go_sem, HT.out.1, HT.out.2]) rfl (HF.out _ _)
end Go.Proofs.Ytimkcpbgnoekcaa
namespace Go.Proofs.Ytimkcpbgnoekcaa
open Go.ChangeShapes Go.WideShapes Go.ChangeAt Go.RowKit
set_option linter.unusedVariables false
set_option maxRecDepth 100000
theorem GivesD.two {n : Nat} {x : Ar} {E : Int} {w w' : World} {e : Ending} (h : GivesD n x E w e w') : Gives2 n w.heap.size x E w e w' := by
  obtain ⟨⟨v, he, -, hv⟩, hb⟩ := h
  exact ⟨⟨v, he, hv⟩, hb⟩
theorem grad_30 {n lo : Nat} {x : Ar} {va : Value} {w : World} (hx : ArIn (n + 1) lo w x va) (hcx : chkA 8 x = 0) (hcap : Caps va) :
    Calls Try.prog 29 #[va, .func (.func 30) #[] #[]] w fun e w' => Gives2 (n + 1) w.heap.size (gradR false n x).1 (gradR false n x).2 w e w' := by
  obtain ⟨a1, c1, a2, c2, rfl, R, hc⟩ := hx.form
  obtain ⟨hc1, hc2⟩ := caps_form hcap
  obtain ⟨lx8, cx16⟩ := chk_len hcx
  obtain ⟨ab, cb, hcf⟩ := cells_fn hc
  have hcf1 : CellsFn n lo w x.cells a2 ab cb := hcf
  unfold gradR
  by_cases h0 : x.shape.length = 0
  · rw [if_pos h0]
    simp only [h0]
    exact inOrder_rank.mono fun e w' h => h.two
  · rw [if_neg h0]
    have hS : 0 < x.shape.length := by omega
    obtain ⟨wdA, wdB, wdC, wdD, wdE⟩ := wid hcx hS
    by_cases hk : allK 0 x.cells = false ∧ allK 1 x.cells = false
    · rw [if_pos hk]
      exact (inOrder_dom hcf1 hS (by omega) rfl cx16 hk.1 hk.2).mono fun e w' h => h.two
    · rw [if_neg hk]
      obtain ⟨b1, o1, rfl, hb1, hcl⟩ := row_at R (j := 0) hS
      have hcl' : w.cell? ⟨b1, o1, none⟩ = some (.int .i64 (nW x : Int)) := by rw [← wdA]; exact hcl
      have hall : allK 0 x.cells = true ∨ allK 1 x.cells = true := by
        cases h1 : allK 0 x.cells
        · right
          cases h2 : allK 1 x.cells
          · exact absurd ⟨h1, h2⟩ hk
          · rfl
        · left; rfl
      refine (inOrder_30 hcf1 hcl' hb1 hS (by omega) wdD rfl wdC cx16 hc2 hall).mono ?_
      rintro e w' ⟨g, hblk, ⟨v, rfl, hv⟩, hb⟩
      refine ⟨⟨v, rfl, ?_⟩, hb⟩
      rw [sortL_is (byI_ord n x.cells (mW x) (nW x)) (byI_full n x.cells (mW x)).self hblk] at hv
      exact hv
theorem grad_31 {n lo : Nat} {x : Ar} {va : Value} {w : World} (hx : ArIn (n + 1) lo w x va) (hcx : chkA 8 x = 0) (hcap : Caps va) :
    Calls Try.prog 29 #[va, .func (.func 31) #[] #[]] w fun e w' => Gives2 (n + 1) w.heap.size (gradR true n x).1 (gradR true n x).2 w e w' := by
  obtain ⟨a1, c1, a2, c2, rfl, R, hc⟩ := hx.form
  obtain ⟨hc1, hc2⟩ := caps_form hcap
  obtain ⟨lx8, cx16⟩ := chk_len hcx
  obtain ⟨ab, cb, hcf⟩ := cells_fn hc
  have hcf1 : CellsFn n lo w x.cells a2 ab cb := hcf
  unfold gradR
  by_cases h0 : x.shape.length = 0
  · rw [if_pos h0]
    simp only [h0]
    exact inOrder_rank.mono fun e w' h => h.two
  · rw [if_neg h0]
    have hS : 0 < x.shape.length := by omega
    obtain ⟨wdA, wdB, wdC, wdD, wdE⟩ := wid hcx hS
    by_cases hk : allK 0 x.cells = false ∧ allK 1 x.cells = false
    · rw [if_pos hk]
      exact (inOrder_dom hcf1 hS (by omega) rfl cx16 hk.1 hk.2).mono fun e w' h => h.two
    · rw [if_neg hk]
      obtain ⟨b1, o1, rfl, hb1, hcl⟩ := row_at R (j := 0) hS
      have hcl' : w.cell? ⟨b1, o1, none⟩ = some (.int .i64 (nW x : Int)) := by rw [← wdA]; exact hcl
      have hall : allK 0 x.cells = true ∨ allK 1 x.cells = true := by
        cases h1 : allK 0 x.cells
        · right
          cases h2 : allK 1 x.cells
          · exact absurd ⟨h1, h2⟩ hk
          · rfl
        · left; rfl
      refine (inOrder_31 hcf1 hcl' hb1 hS (by omega) wdD rfl wdC cx16 hc2 hall).mono ?_
      rintro e w' ⟨g, hblk, ⟨v, rfl, hv⟩, hb⟩
      refine ⟨⟨v, rfl, ?_⟩, hb⟩
      rw [sortL_is (byJ_ord n x.cells (mW x) (nW x)) (byJ_full n x.cells (mW x)).self hblk] at hv
      exact hv
set_option maxHeartbeats 4000000 in
theorem smo_bad {n lo : Nat} {op : Int} {x : Ar} {va : Value} {w : World} (hx : ArIn (n + 1) lo w x va) (hcx : ¬ chkA 8 x = 0) :
    Calls Try.prog 14 #[.int .i64 op, va] w fun e w' => GivesD (n + 1) zeroA (chkA 8 x) w e w' := by
  obtain ⟨a1, c1, a2, c2, rfl, -, -⟩ := hx.form
  have I := in2_new w (.slice a1 x.shape.length c1) (.slice a2 x.cells.length c2)
  obtain ⟨W2, e2⟩ : ∃ W2, (w.alloc (.cells #[.slice a1 x.shape.length c1, .slice a2 x.cells.length c2] 25)).alloc (.cells #[.slice none 0 0, .slice none 0 0] 25) = W2 := ⟨_, rfl⟩
  rw [e2] at I
  have q0 := I.q0
  have q1 := I.q1
  have HI := hide I
  have CK := check_any (n + 1) x _ _ W2 (hx.next I.bel)
  obtain ⟨E, hE⟩ : ∃ E, chkA 8 x = E := ⟨_, rfl⟩
  rw [hE] at CK hcx ⊢
  have hEb : (E != 0) = true := by simp; exact hcx
  generalize x.shape.length = SX at *
  generalize x.cells.length = CX at *
  clear hx I hE
  go_enter Try.func14, Try.ntmps14
  go_wp2_with fail
  clear e2
  refine CK.mono ?_
  clear CK q0 q1
  rintro e w1 ⟨rfl, hb1⟩
  have I1 := HI.out.next hb1
  have p0 := I1.p0
  have p1 := I1.p1
  have f0 := I1.f0
  have f1 := I1.f1
  have HT := hide (I1.put (.slice none 0 0) (.slice none 0 0))
  have HF : Hid (∀ u v, GivesD (n + 1) zeroA E w (.returned (.tuple #[.agg #[.slice none 0 0, .slice none 0 0], .int .i64 E])) ((w1.setCell ⟨w.heap.size + 1, 0, none⟩ u).setCell ⟨w.heap.size + 1, 1, none⟩ v)) := fun u v => ⟨⟨_, rfl, ⟨_, _, _, _, _, _, rfl, Nat.le_refl _, Nat.le_refl _⟩, zeroA_in _ _ _⟩, I1.fin u v⟩
  clear hb1 HI I1
  go_wp2
  exact bodyPost_ret (v := .tuple #[.agg #[.slice none 0 0, .slice none 0 0], .int .i64 E]) (by simp [results, Try.results14, go_sem, HT.out.1, HT.out.2]) rfl (HF.out _ _)
set_option maxHeartbeats 4000000 in
theorem smo_none {n lo : Nat} {op : Int} {x : Ar} {va : Value} {w : World} (hx : ArIn (n + 1) lo w x va) (hcx : chkA 8 x = 0) (h12 : ¬ op = 12) (h13 : ¬ op = 13) (h14 : ¬ op = 14) :
    Calls Try.prog 14 #[.int .i64 op, va] w fun e w' => GivesD (n + 1) zeroA 1 w e w' := by
  obtain ⟨a1, c1, a2, c2, rfl, -, -⟩ := hx.form
  have I := in2_new w (.slice a1 x.shape.length c1) (.slice a2 x.cells.length c2)
  obtain ⟨W2, e2⟩ : ∃ W2, (w.alloc (.cells #[.slice a1 x.shape.length c1, .slice a2 x.cells.length c2] 25)).alloc (.cells #[.slice none 0 0, .slice none 0 0] 25) = W2 := ⟨_, rfl⟩
  rw [e2] at I
  have q0 := I.q0
  have q1 := I.q1
  have HI := hide I
  have CK := check_any (n + 1) x _ _ W2 (hx.next I.bel)
  rw [hcx] at CK
  have hb12 : (op == 12) = false := by simp; exact h12
  have hb13 : (op == 13) = false := by simp; exact h13
  have hb14 : (op == 14) = false := by simp; exact h14
  generalize x.shape.length = SX at *
  generalize x.cells.length = CX at *
  clear hx I hcx
  go_enter Try.func14, Try.ntmps14
  go_wp2_with fail
  clear e2
  refine CK.mono ?_
  clear CK q0 q1
  rintro e w1 ⟨rfl, hb1⟩
  have I1 := HI.out.next hb1
  have p0 := I1.p0
  have p1 := I1.p1
  have f0 := I1.f0
  have f1 := I1.f1
  have HT := hide (I1.put (.slice none 0 0) (.slice none 0 0))
  have HF : Hid (∀ u v, GivesD (n + 1) zeroA 1 w (.returned (.tuple #[.agg #[.slice none 0 0, .slice none 0 0], .int .i64 1])) ((w1.setCell ⟨w.heap.size + 1, 0, none⟩ u).setCell ⟨w.heap.size + 1, 1, none⟩ v)) := fun u v => ⟨⟨_, rfl, ⟨_, _, _, _, _, _, rfl, Nat.le_refl _, Nat.le_refl _⟩, zeroA_in _ _ _⟩, I1.fin u v⟩
  clear hb1 HI I1
  go_wp2
  exact bodyPost_ret (v := .tuple #[.agg #[.slice none 0 0, .slice none 0 0], .int .i64 1]) (by simp [results, Try.results14, go_sem, HT.out.1, HT.out.2]) rfl (HF.out _ _)
set_option maxHeartbeats 4000000 in
theorem smo_12 {n lo : Nat} {op : Int} {x : Ar} {va : Value} {w : World} (hx : ArIn (n + 1) lo w x va) (hcx : chkA 8 x = 0) (hcap : Caps va) :
    Calls Try.prog 14 #[.int .i64 12, va] w fun e w' => Gives2 (n + 1) w.heap.size (gradR false n x).1 (gradR false n x).2 w e w' := by
  obtain ⟨a1, c1, a2, c2, rfl, -, -⟩ := hx.form
  have I := in2_new w (.slice a1 x.shape.length c1) (.slice a2 x.cells.length c2)
  obtain ⟨W2, e2⟩ : ∃ W2, (w.alloc (.cells #[.slice a1 x.shape.length c1, .slice a2 x.cells.length c2] 25)).alloc (.cells #[.slice none 0 0, .slice none 0 0] 25) = W2 := ⟨_, rfl⟩
  rw [e2] at I
  have q0 := I.q0
  have q1 := I.q1
  have HI := hide I
  have CK := check_any (n + 1) x _ _ W2 (hx.next I.bel)
  rw [hcx] at CK
  have HC : Hid (∀ W, Below w.heap.size w W → Calls Try.prog 29 #[.agg #[.slice a1 x.shape.length c1, .slice a2 x.cells.length c2], .func (.func 30) #[] #[]] W fun e w' => Gives2 (n + 1) W.heap.size (gradR false n x).1 (gradR false n x).2 W e w') := fun W h => grad_30 (hx.next h) hcx hcap
  obtain ⟨⟨Y, EY⟩, hR⟩ : ∃ p, gradR false n x = p := ⟨_, rfl⟩
  rw [hR] at HC ⊢
  simp only at HC ⊢
  clear hx I hR hcap
  generalize x.shape.length = SX at *
  generalize x.cells.length = CX at *
  go_enter Try.func14, Try.ntmps14
  go_wp2_with fail
  clear e2
  refine CK.mono ?_
  clear CK q0 q1
  rintro e w1 ⟨rfl, hb1⟩
  have I1 := HI.out.next hb1
  have HI1 := hide I1
  have C := HC.out w1 I1.bel
  have q0 := I1.q0
  have q1 := I1.q1
  clear hb1 HI I1 HC hcx
  go_wp2_with fail
  refine C.mono ?_
  clear C q0 q1
  rintro e w4 ⟨⟨v, rfl, hv⟩, hb4⟩
  obtain ⟨z1, m1, z2, m2, rfl, -, -⟩ := hv.form
  have I4 := HI1.out.next hb4
  have p0 := I4.p0
  have p1 := I4.p1
  have f0 := I4.f0
  have f1 := I4.f1
  have HT := hide (I4.put (.slice z1 Y.shape.length m1) (.slice z2 Y.cells.length m2))
  have HF : Hid (∀ u v, Gives2 (n + 1) w.heap.size Y EY w (.returned (.tuple #[.agg #[.slice z1 Y.shape.length m1, .slice z2 Y.cells.length m2], .int .i64 EY])) ((w4.setCell ⟨w.heap.size + 1, 0, none⟩ u).setCell ⟨w.heap.size + 1, 1, none⟩ v)) := fun u v => ⟨⟨_, rfl, I4.give hv HI1.out.size u v⟩, I4.fin u v⟩
  generalize Y.shape.length = SY at *
  generalize Y.cells.length = CY at *
  clear hv hb4 HI1 I4
  go_wp2
  exact bodyPost_ret (v := .tuple #[.agg #[.slice z1 SY m1, .slice z2 CY m2], .int .i64 EY]) (by simp [results, Try.results14, go_sem, HT.out.1, HT.out.2]) rfl (HF.out _ _)
set_option maxHeartbeats 4000000 in
theorem smo_13 {n lo : Nat} {op : Int} {x : Ar} {va : Value} {w : World} (hx : ArIn (n + 1) lo w x va) (hcx : chkA 8 x = 0) (hcap : Caps va) :
    Calls Try.prog 14 #[.int .i64 13, va] w fun e w' => Gives2 (n + 1) w.heap.size (gradR true n x).1 (gradR true n x).2 w e w' := by
  obtain ⟨a1, c1, a2, c2, rfl, -, -⟩ := hx.form
  have I := in2_new w (.slice a1 x.shape.length c1) (.slice a2 x.cells.length c2)
  obtain ⟨W2, e2⟩ : ∃ W2, (w.alloc (.cells #[.slice a1 x.shape.length c1, .slice a2 x.cells.length c2] 25)).alloc (.cells #[.slice none 0 0, .slice none 0 0] 25) = W2 := ⟨_, rfl⟩
  rw [e2] at I
  have q0 := I.q0
  have q1 := I.q1
  have HI := hide I
  have CK := check_any (n + 1) x _ _ W2 (hx.next I.bel)
  rw [hcx] at CK
  have HC : Hid (∀ W, Below w.heap.size w W → Calls Try.prog 29 #[.agg #[.slice a1 x.shape.length c1, .slice a2 x.cells.length c2], .func (.func 31) #[] #[]] W fun e w' => Gives2 (n + 1) W.heap.size (gradR true n x).1 (gradR true n x).2 W e w') := fun W h => grad_31 (hx.next h) hcx hcap
  obtain ⟨⟨Y, EY⟩, hR⟩ : ∃ p, gradR true n x = p := ⟨_, rfl⟩
  rw [hR] at HC ⊢
  simp only at HC ⊢
  clear hx I hR hcap
  generalize x.shape.length = SX at *
  generalize x.cells.length = CX at *
  go_enter Try.func14, Try.ntmps14
  go_wp2_with fail
  clear e2
  refine CK.mono ?_
  clear CK q0 q1
  rintro e w1 ⟨rfl, hb1⟩
  have I1 := HI.out.next hb1
  have HI1 := hide I1
  have C := HC.out w1 I1.bel
  have q0 := I1.q0
  have q1 := I1.q1
  clear hb1 HI I1 HC hcx
  go_wp2_with fail
  refine C.mono ?_
  clear C q0 q1
  rintro e w4 ⟨⟨v, rfl, hv⟩, hb4⟩
  obtain ⟨z1, m1, z2, m2, rfl, -, -⟩ := hv.form
  have I4 := HI1.out.next hb4
  have p0 := I4.p0
  have p1 := I4.p1
  have f0 := I4.f0
  have f1 := I4.f1
  have HT := hide (I4.put (.slice z1 Y.shape.length m1) (.slice z2 Y.cells.length m2))
  have HF : Hid (∀ u v, Gives2 (n + 1) w.heap.size Y EY w (.returned (.tuple #[.agg #[.slice z1 Y.shape.length m1, .slice z2 Y.cells.length m2], .int .i64 EY])) ((w4.setCell ⟨w.heap.size + 1, 0, none⟩ u).setCell ⟨w.heap.size + 1, 1, none⟩ v)) := fun u v => ⟨⟨_, rfl, I4.give hv HI1.out.size u v⟩, I4.fin u v⟩
  generalize Y.shape.length = SY at *
  generalize Y.cells.length = CY at *
  clear hv hb4 HI1 I4
  go_wp2
  exact bodyPost_ret (v := .tuple #[.agg #[.slice z1 SY m1, .slice z2 CY m2], .int .i64 EY]) (by simp [results, Try.results14, go_sem, HT.out.1, HT.out.2]) rfl (HF.out _ _)
set_option maxHeartbeats 4000000 in
theorem smo_14 {n lo : Nat} {op : Int} {x : Ar} {va : Value} {w : World} (hx : ArIn (n + 1) lo w x va) (hcx : chkA 8 x = 0) (hcap : Caps va) :
    Calls Try.prog 14 #[.int .i64 14, va] w fun e w' => GivesD (n + 1) (onceR n x) 0 w e w' := by
  obtain ⟨a1, c1, a2, c2, rfl, -, -⟩ := hx.form
  have I := in2_new w (.slice a1 x.shape.length c1) (.slice a2 x.cells.length c2)
  obtain ⟨W2, e2⟩ : ∃ W2, (w.alloc (.cells #[.slice a1 x.shape.length c1, .slice a2 x.cells.length c2] 25)).alloc (.cells #[.slice none 0 0, .slice none 0 0] 25) = W2 := ⟨_, rfl⟩
  rw [e2] at I
  have q0 := I.q0
  have q1 := I.q1
  have HI := hide I
  have CK := check_any (n + 1) x _ _ W2 (hx.next I.bel)
  rw [hcx] at CK
  have HC : Hid (∀ W, Below w.heap.size w W → Calls Try.prog 32 #[.agg #[.slice a1 x.shape.length c1, .slice a2 x.cells.length c2]] W fun e w' => (∃ v, e = .returned v ∧ Caps v ∧ ArIn (n + 1) W.heap.size w' (onceR n x) v) ∧ Below W.heap.size W w') := fun W h => once32_any (hx.next h) hcx hcap
  obtain ⟨Y, hR⟩ : ∃ p, onceR n x = p := ⟨_, rfl⟩
  rw [hR] at HC ⊢
  clear hx I hR hcap
  generalize x.shape.length = SX at *
  generalize x.cells.length = CX at *
  go_enter Try.func14, Try.ntmps14
  go_wp2_with fail
  clear e2
  refine CK.mono ?_
  clear CK q0 q1
  rintro e w1 ⟨rfl, hb1⟩
  have I1 := HI.out.next hb1
  have HI1 := hide I1
  have C := HC.out w1 I1.bel
  have q0 := I1.q0
  have q1 := I1.q1
  clear hb1 HI I1 HC hcx
  go_wp2_with fail
  refine C.mono ?_
  clear C q0 q1
  rintro e w4 ⟨⟨v, rfl, kv, hv⟩, hb4⟩
  obtain ⟨z1, m1, z2, m2, rfl, -, -⟩ := hv.form
  have I4 := HI1.out.next hb4
  have p0 := I4.p0
  have p1 := I4.p1
  have f0 := I4.f0
  have f1 := I4.f1
  have HT := hide (I4.put (.slice z1 Y.shape.length m1) (.slice z2 Y.cells.length m2))
  have HF : Hid (∀ u v, GivesD (n + 1) Y 0 w (.returned (.tuple #[.agg #[.slice z1 Y.shape.length m1, .slice z2 Y.cells.length m2], .int .i64 0])) ((w4.setCell ⟨w.heap.size + 1, 0, none⟩ u).setCell ⟨w.heap.size + 1, 1, none⟩ v)) := fun u v => ⟨⟨_, rfl, kv, I4.give hv HI1.out.size u v⟩, I4.fin u v⟩
  generalize Y.shape.length = SY at *
  generalize Y.cells.length = CY at *
  clear hv hb4 HI1 I4 kv
  go_wp2
  exact bodyPost_ret (v := .tuple #[.agg #[.slice z1 SY m1, .slice z2 CY m2], .int .i64 0]) (by simp [results, Try.results14, go_sem, HT.out.1, HT.out.2]) rfl (HF.out _ _)
theorem smo_any {n lo : Nat} {op : Int} {x : Ar} {va : Value} {w : World} (hx : ArIn (n + 1) lo w x va) (hcap : Caps va) :
    Calls Try.prog 14 #[.int .i64 op, va] w fun e w' => Gives2 (n + 1) w.heap.size (seekM n op x).1 (seekM n op x).2 w e w' := by
  unfold seekM
  by_cases hcx : chkA 8 x = 0
  · rw [if_neg (by simpa using hcx)]
    by_cases h12 : op = 12
    · rw [if_pos h12, h12]; exact smo_12 (op := 0) hx hcx hcap
    · rw [if_neg h12]
      by_cases h13 : op = 13
      · rw [if_pos h13, h13]; exact smo_13 (op := 0) hx hcx hcap
      · rw [if_neg h13]
        by_cases h14 : op = 14
        · rw [if_pos h14, h14]; exact (smo_14 (op := 0) hx hcx hcap).mono fun e w' h => h.two
        · rw [if_neg h14]; exact (smo_none hx hcx h12 h13 h14).mono fun e w' h => h.two
  · rw [if_pos hcx]; exact (smo_bad hx hcx).mono fun e w' h => h.two
end Go.Proofs.Ytimkcpbgnoekcaa
namespace Go.Proofs.Ytimkcpbgnoekcaa
open Go.ChangeShapes Go.WideShapes Go.ChangeAt Go.RowKit
set_option linter.unusedVariables false
set_option maxRecDepth 100000
set_option maxHeartbeats 4000000 in
theorem rplaceC_any {n lo lo' : Nat} {cs : List Ce} {a2 ad : Option Addr} {c2 CA cd : Nat} {d : Ce} {ab : Nat → Option Addr} {cb : Nat → Nat} {w : World} (hcf : CellsFn n lo w cs a2 ab cb) (hCA : cs.length = CA) (h16 : CA ≤ 16384) (hd : CeIn (ArIn n lo' w) lo' w d (.int .i64 d.1) (.int .i64 d.2.1) (.slice ad d.2.2.length cd)) :
    Calls Try.prog 28 #[.slice a2 CA c2, .agg #[.int .i64 d.1, .int .i64 d.2.1, .slice ad d.2.2.length cd]] w fun e w' => e = .returned (.int .i64 (plcC n cs d : Int)) ∧ Below w.heap.size w w' := by
  obtain ⟨W1, e1⟩ : ∃ W1, w.alloc (.cells #[.int .i64 d.1, .int .i64 d.2.1, .slice ad d.2.2.length cd] 39) = W1 := ⟨_, rfl⟩
  have B1 : Below w.heap.size w W1 := by rw [← e1]; exact one_alloc _ _
  obtain ⟨bd, hbd⟩ : ∃ bd, w.heap.size = bd := ⟨_, rfl⟩
  have z1 : W1.heap.size = bd + 1 := by rw [← e1]; simp [hbd]
  have k0 : W1.cell? ⟨bd, 0, none⟩ = some (.int .i64 d.1) := by rw [← e1, ← hbd]; exact cell_new0 w _ 39 0 _ rfl
  have k1 : W1.cell? ⟨bd, 1, none⟩ = some (.int .i64 d.2.1) := by rw [← e1, ← hbd]; exact cell_new0 w _ 39 1 _ rfl
  have k2 : W1.cell? ⟨bd, 2, none⟩ = some (.slice ad d.2.2.length cd) := by rw [← e1, ← hbd]; exact cell_new0 w _ 39 2 _ rfl
  have HCG : Hid (∀ (W0 : World), Below W1.heap.size W1 W0 → ∀ i, i < CA → ∀ W, Below W0.heap.size W0 W → Calls Try.prog 21 #[.agg #[.int .i64 (cAt cs i).1, .int .i64 (cAt cs i).2.1, .slice (ab i) (cAt cs i).2.2.length (cb i)], .agg #[.int .i64 d.1, .int .i64 d.2.1, .slice ad d.2.2.length cd]] W fun e w' => e = .returned (.int .i64 (cmpC (cmpA n) (cAt cs i) d)) ∧ Below W0.heap.size W0 w') := fun W0 h0 i hi W hW => by
    have h1 : Below W1.heap.size W1 W := h0.trans (hW.mono h0.size)
    have h2 : Below w.heap.size w W := B1.trans (h1.mono B1.size)
    obtain ⟨b, off, -, -, -, hcells⟩ := (hcf.next h2) (by omega)
    refine (rcell_any n (rcmp_any n) (cAt cs i) d lo lo' W _ _ _ _ _ _ (hcells i (by omega)).2.2.2 (hd.mono (Nat.le_refl _) h2 fun x v g => g.mono (Nat.le_refl _) h2)).mono ?_
    rintro e w' ⟨rfl, hb'⟩
    exact ⟨rfl, hW.trans (hb'.mono hW.size)⟩
  have HCE : Hid (∀ i, i < CA → ∃ b off, a2 = some ⟨b, off, none⟩ ∧ ∀ (W0 : World), Below W1.heap.size W1 W0 → ∀ W, Below W0.heap.size W0 W → (Below W0.heap.size W0 W ∧ W.cell? ⟨b, off + i * 3, none⟩ = some (.int .i64 (cAt cs i).1) ∧ W.cell? ⟨b, off + i * 3 + 1, none⟩ = some (.int .i64 (cAt cs i).2.1) ∧ W.cell? ⟨b, off + i * 3 + 2, none⟩ = some (.slice (ab i) (cAt cs i).2.2.length (cb i)) ∧ W.cell? ⟨bd, 0, none⟩ = some (.int .i64 d.1) ∧ W.cell? ⟨bd, 1, none⟩ = some (.int .i64 d.2.1) ∧ W.cell? ⟨bd, 2, none⟩ = some (.slice ad d.2.2.length cd))) := fun i hi => by
    obtain ⟨b, off, ha, -, hb, hcells⟩ := hcf (by omega)
    obtain ⟨g0, g1, g2, -⟩ := hcells i (by omega)
    refine ⟨b, off, ha, fun W0 h0 W hW => ?_⟩
    have h1 : Below W1.heap.size W1 W := h0.trans (hW.mono h0.size)
    have h2 : Below w.heap.size w W := B1.trans (h1.mono B1.size)
    exact ⟨hW, (h2.cell (p := ⟨b, off + i * 3, none⟩) hb).trans g0, (h2.cell (p := ⟨b, off + i * 3 + 1, none⟩) hb).trans g1, (h2.cell (p := ⟨b, off + i * 3 + 2, none⟩) hb).trans g2, (h1.cell (p := ⟨bd, 0, none⟩) (by show bd < _; omega)).trans k0, (h1.cell (p := ⟨bd, 1, none⟩) (by show bd < _; omega)).trans k1, (h1.cell (p := ⟨bd, 2, none⟩) (by show bd < _; omega)).trans k2⟩
  have HPL : Hid (∀ p, p ≤ CA → (∀ x, x < p → cmpC (cmpA n) (cAt cs x) d ≠ 0) → (p < CA → cmpC (cmpA n) (cAt cs p) d = 0) → plcC n cs d = p) := fun p h1 h2 h3 => by
    unfold plcC; rw [hCA]; exact fstZ_is h1 h2 h3
  obtain ⟨PL, hPL⟩ : ∃ PL, plcC n cs d = PL := ⟨_, rfl⟩
  rw [hPL] at HPL ⊢
  obtain ⟨f, hf⟩ : ∃ f : Nat → Int, f = fun i => cmpC (cmpA n) (cAt cs i) d := ⟨_, rfl⟩
  have hfv : ∀ i, cmpC (cmpA n) (cAt cs i) d = f i := fun i => by rw [hf]
  simp only [hfv] at HCG HPL
  have HB1 := hide B1
  have HE1 := hide (And.intro e1 hbd)
  generalize d.1 = y0 at *
  generalize d.2.1 = y1 at *
  generalize d.2.2.length = y2 at *
  clear hcf hCA hd k0 k1 k2 B1 z1 e1 hbd hPL hf hfv
  go_enter Try.func28, Try.ntmps28
  go_wp2
  rw [HE1.out.1, HE1.out.2]
  go_loopg [5] CA (fun M i wr => ∃ j : Nat, M + j = CA ∧ i = .int .i64 (j : Int) ∧ Below W1.heap.size W1 wr ∧ ∀ x, x < j → f x ≠ 0)
  case atStart => exact ⟨0, rfl, rfl, Below.refl _ _, fun x hx => by omega⟩
  case round =>
    obtain ⟨j, hM, rfl, hbw, hnz⟩ := hrel
    have HNZ := hide hnz
    have HBW := hide hbw
    by_cases hlt : j < CA
    · have hltz : (j : Int) < (CA : Int) := by omega
      obtain ⟨b, off, rfl, hks⟩ := HCE.out j hlt
      have KS := hide (hks wr hbw)
      have HC := hide (HCG.out wr hbw j hlt)
      have HD0 : Hid (Below wr.heap.size wr wr.drew) := (Below.refl _ _).drew
      generalize (cAt cs j).1 = x0 at *
      generalize (cAt cs j).2.1 = x1 at *
      generalize (cAt cs j).2.2.length = x2 at *
      generalize ab j = x3 at *
      generalize cb j = x4 at *
      obtain ⟨r, hr⟩ : ∃ r, f j = r := ⟨_, rfl⟩
      rw [hr] at HC
      have HR := hide hr
      obtain ⟨nb, hnb⟩ : ∃ nb, (r == 0) = nb := ⟨_, rfl⟩
      have HNB := hide hnb
      clear hks hbw hnz hr hnb
      go_upto_region 2 with fail
      go_cut [18] from 6 to 18 (fun s wx => s = .bool (!nb) ∧ Below wr.heap.size wr wx)
      case first =>
        have hnb := HNB.out
        have hnb2 : (r != 0) = !nb := by rw [← hnb]; rfl
        go_region_held3 (fun W => Below wr.heap.size wr W ∧ W.cell? ⟨b, off + j * 3, none⟩ = some (.int .i64 x0) ∧ W.cell? ⟨b, off + j * 3 + 1, none⟩ = some (.int .i64 x1) ∧ W.cell? ⟨b, off + j * 3 + 2, none⟩ = some (.slice x3 x2 x4) ∧ W.cell? ⟨bd, 0, none⟩ = some (.int .i64 y0) ∧ W.cell? ⟨bd, 1, none⟩ = some (.int .i64 y1) ∧ W.cell? ⟨bd, 2, none⟩ = some (.slice ad y2 cd))
          (first | with_reducible exact KS.out _ HD0.out | with_reducible exact KS.out _ (by with_reducible assumption))
          (first | (go_at_call 21; refine (HC.out _ HD0.out).mono ?_; rintro e w5 ⟨rfl, hb5⟩))
        all_goals
          go_wp2
          go_meet
        all_goals
          case rel => first | exact ⟨rfl, hb5⟩ | exact ⟨by rw [hnb2], hb5⟩ | exact ⟨by rw [← hnb]; rfl, hb5⟩
      case rest =>
      obtain ⟨rfl, hb9⟩ := hcut
      have HB9 := hide (HBW.out.trans (hb9.mono HBW.out.size))
      clear hb9 HC KS HD0
      go_upto_if 18 with fail
      cases nb
      case false =>
        have HN : Hid (∀ x, x < j + 1 → f x ≠ 0) := fun x hx => by
          by_cases e : x = j
          · rw [e, HR.out]; exact beq_eq_false_iff_ne.1 HNB.out
          · exact HNZ.out x (by omega)
        go_wp2
        go_roundg (CA - (j + 1))
        case rel => exact ⟨j + 1, by omega, by go_num, HB9.out, HN.out⟩
        case measure => omega
      case true =>
        have HE : Hid (PL = j) := HPL.out j (by omega) HNZ.out (fun _ => by rw [HR.out]; exact eq_of_beq HNB.out)
        have HF := hide (HB1.out.trans (HB9.out.mono HB1.out.size))
        go_wp2
        go_ret
        exact ⟨by rw [HE.out]; rfl, HF.out⟩
    · have hje : j = CA := by omega
      subst hje
      have HE : Hid (PL = j) := HPL.out j (Nat.le_refl _) HNZ.out (fun h => by omega)
      have HF := hide fun m => HB1.out.trans ((drewN_below HBW.out m).mono HB1.out.size)
      clear hbw hnz
      go_upto_region 2 with fail
      go_quiet (fail)
      go_wp2
      go_ret
      exact ⟨by rw [HE.out]; rfl, HF.out _⟩
end Go.Proofs.Ytimkcpbgnoekcaa
namespace Go.Proofs.Ytimkcpbgnoekcaa
open Go.ChangeShapes Go.WideShapes Go.ChangeAt Go.RowKit
set_option linter.unusedVariables false
set_option maxRecDepth 100000
set_option maxHeartbeats 8000000 in
theorem rsdy_48 {n lo lo' : Nat} {x y : Ar} {va vb : Value} {w : World} (hx : ArIn (n + 1) lo w x va) (hy : ArIn (n + 1) lo' w y vb) (hcx : chkA 8 x = 0) (hcy : chkA 8 y = 0) (h1 : x.shape.length = 1) :
    Calls Try.prog 11 #[.int .i64 48, va, vb] w fun e w' => Gives2Z (n + 1) w (.mk y.shape (numCs 0 ((List.range y.cells.length).map fun i => (plcC n x.cells (cAt y.cells i) : Int)))) 0 w e w' := by
  obtain ⟨a1, c1, a2, c2, rfl, R, hc⟩ := hx.form
  obtain ⟨b1, d1, b2, d2, rfl, R', hc'⟩ := hy.form
  obtain ⟨lx8, cx16⟩ := chk_len hcx
  obtain ⟨ly8, cy16⟩ := chk_len hcy
  obtain ⟨i3, hi3, hz30, hz31, hz32⟩ := infoI3
  obtain ⟨i0, hi0, hz00, hz01, hz02⟩ := info33'
  obtain ⟨ab, cb, hcf⟩ := cells_fn hc
  obtain ⟨ab', cb', hcf'⟩ := cells_fn hc'
  have hcf1 : CellsFn n lo w x.cells a2 ab cb := hcf
  have hcf2 : CellsFn n lo' w y.cells b2 ab' cb' := hcf'
  have I := in3_new w (.slice a1 x.shape.length c1) (.slice a2 x.cells.length c2) (.slice b1 y.shape.length d1) (.slice b2 y.cells.length d2)
  obtain ⟨W3, e3⟩ : ∃ W3, ((w.alloc (.cells #[.slice a1 x.shape.length c1, .slice a2 x.cells.length c2] 25)).alloc (.cells #[.slice b1 y.shape.length d1, .slice b2 y.cells.length d2] 25)).alloc (.cells #[.slice none 0 0, .slice none 0 0] 25) = W3 := ⟨_, rfl⟩
  rw [e3] at I
  have hb3 := I.bel
  have q0 := I.q0
  have q1 := I.q1
  have r0 := I.r0
  have r1 := I.r1
  have HI := hide I
  have CK := rcheck_any (n + 1) x _ _ W3 (hx.next hb3)
  rw [hcx] at CK
  have HCK2 : Hid (∀ W, Below w.heap.size w W → Calls Try.prog 16 #[.agg #[.slice b1 y.shape.length d1, .slice b2 y.cells.length d2]] W fun e w' => e = .returned (.int .i64 0) ∧ Below W.heap.size W w') := fun W h => by
    have := rcheck_any (n + 1) y _ _ W (hy.next h)
    rw [hcy] at this
    exact this
  obtain ⟨CX, hCX⟩ : ∃ CX, x.cells.length = CX := ⟨_, rfl⟩
  obtain ⟨SY, hSY⟩ : ∃ SY, y.shape.length = SY := ⟨_, rfl⟩
  obtain ⟨CY, hCY⟩ : ∃ CY, y.cells.length = CY := ⟨_, rfl⟩
  have HPL : Hid (∀ W, Below w.heap.size w W → ∀ i, i < CY → Calls Try.prog 28 #[.slice a2 CX c2, .agg #[.int .i64 (cAt y.cells i).1, .int .i64 (cAt y.cells i).2.1, .slice (ab' i) (cAt y.cells i).2.2.length (cb' i)]] W fun e w' => e = .returned (.int .i64 (plcC n x.cells (cAt y.cells i) : Int)) ∧ Below W.heap.size W w') := fun W h i hi => by
    obtain ⟨b, off, -, -, -, hcells⟩ := (hcf2.next h) (by omega)
    exact rplaceC_any (hcf1.next h) hCX (by omega) (hcells i (by omega)).2.2.2
  have HPB : Hid (∀ i, plcC n x.cells (cAt y.cells i) ≤ 16384) := fun i => by
    have := fstZ_le (fun p => cmpC (cmpA n) (cAt x.cells p) (cAt y.cells i)) x.cells.length
    unfold plcC; omega
  have HCF : Hid (CellsFn n lo' w y.cells b2 ab' cb') := hcf2
  have HR' := hide R'
  have HLEN := hide (And.intro hSY hCY)
  simp only [h1, hCX, hSY, hCY] at e3 q0 q1 r0 r1 HI CK HCK2 cx16 ly8 cy16 ⊢
  clear hx hy R hc R' hc' hcf hcf' hcf1 hcf2 I hcx hcy hSY hCY hCX h1 lx8
  go_enter Try.func11, Try.ntmps11
  go_wp2_with fail
  clear e3
  refine CK.mono ?_
  clear CK q0 q1 r0 r1
  rintro e w1 ⟨rfl, hb1⟩
  have I1 := HI.out.next hb1
  have HI1 := hide I1
  have C2 := HCK2.out w1 I1.bel
  have r0 := I1.r0
  have r1 := I1.r1
  clear hb1 HI I1 HCK2
  go_wp2_with fail
  refine C2.mono ?_
  clear C2 r0 r1
  rintro e w2 ⟨rfl, hb2⟩
  have I2 := HI1.out.next hb2
  obtain ⟨O, hO⟩ : ∃ O, w2.heap.size = O := ⟨_, rfl⟩
  obtain ⟨W4, e4⟩ : ∃ W4, w2.alloc (.cells #[.slice none 0 0, .slice none 0 0] 25) = W4 := ⟨_, rfl⟩
  have B4 : Below w2.heap.size w2 W4 := by rw [← e4]; exact one_alloc _ _
  have z4 : W4.heap.size = O + 1 := by rw [← e4]; simp [hO]
  have o0 : W4.cell? ⟨O, 0, none⟩ = some (.slice none 0 0) := by rw [← e4, ← hO]; exact cell_new0 _ _ 25 0 _ rfl
  have o1 : W4.cell? ⟨O, 1, none⟩ = some (.slice none 0 0) := by rw [← e4, ← hO]; exact cell_new0 _ _ 25 1 _ rfl
  have of0 : W4.frozen? ⟨O, 0, none⟩ = false := by rw [← e4, ← hO]; exact frozen_new _ _ 25 0
  have of1 : W4.frozen? ⟨O, 1, none⟩ = false := by rw [← e4, ← hO]; exact frozen_new _ _ 25 1
  have I4 := I2.next B4
  have q0 := I4.q0
  have r0 := I4.r0
  have HI4 := hide I4
  have HE4 := hide (And.intro e4 hO)
  have HZ4 := hide (And.intro z4 (And.intro hO I2.size))
  clear hb2 HI1 I2 I4 B4 z4 e4 hO
  go_upto_region 8 with fail
  rw [HE4.out.1, HE4.out.2]
  clear HE4
  have HLS : Hid (Lies W4 b1 (y.shape.map (Value.int .i64))) := (HR'.out.next HI4.out.bel).lies
  have hsl : (y.shape.map (Value.int .i64)).length = SY * 1 := by rw [List.length_map, HLEN.out.1]; omega
  go_wp2_with (at_builtin; refine wpList_append_any rfl _ _ 22 rfl W4.heap.size 3 i3 (.int .i64 0) 1 8 Try.underlying22 hi3 hz30 hz31 hz32 rfl (by decide) _ 0 _ rfl (World.ownsRow_nil _ _ _ _) b1 SY d1 (y.shape.map (Value.int .i64)) rfl hsl HLS.out ?c3 ?c4 (Nat.le_refl _) ?_)
  case c3 => unfold maxLen; omega
  case c4 => omega
  intro v' w5 hown5 hb5
  try simp only [Nat.zero_add, List.nil_append] at hown5
  obtain ⟨al, cl, rfl, hcl⟩ := owns_cap hown5
  obtain ⟨al', cl', hal, RL⟩ := owns_rowE y.shape (by rw [HLEN.out.1]; omega) (by rw [HLEN.out.1]; exact hown5)
  simp only [Value.slice.injEq] at hal
  obtain ⟨rfl, -, rfl⟩ := hal
  have hz := HZ4.out
  have d0 : w5.cell? ⟨O, 0, none⟩ = some (.slice none 0 0) := (hb5.cell (p := ⟨O, 0, none⟩) (by show O < _; omega)).trans o0
  have df0 : w5.frozen? ⟨O, 0, none⟩ = false := (hb5.frozen (p := ⟨O, 0, none⟩) (by show O < _; omega)).trans of0
  obtain ⟨W6, e6⟩ : ∃ W6, w5.setCell ⟨O, 0, none⟩ (.slice al SY cl) = W6 := ⟨_, rfl⟩
  have z6 : W6.heap.size = w5.heap.size := by rw [← e6]; simp
  have z56 := hb5.size
  have B46 : Below O W4 W6 := by rw [← e6]; exact Below.setCell (p := ⟨O, 0, none⟩) (hb5.mono (by omega)) (Nat.le_refl O) _
  have I6 := HI4.out.belowS B46 (by omega)
  have t0 : W6.cell? ⟨O, 0, none⟩ = some (.slice al SY cl) := by rw [← e6]; exact World.cell?_setCell_same' _ _ _ (by rw [d0]; rfl)
  have t1 : W6.cell? ⟨O, 1, none⟩ = some (.slice none 0 0) := by rw [← e6, World.cell?_setCell_other _ _ _ _ (by simp)]; exact (hb5.cell (p := ⟨O, 1, none⟩) (by show O < _; omega)).trans o1
  have tf1 : W6.frozen? ⟨O, 1, none⟩ = false := by rw [← e6]; exact frozen_set _ _ _ _ ((hb5.frozen (p := ⟨O, 1, none⟩) (by show O < _; omega)).trans of1)
  have HRL : Hid (Row (O + 1) W6 al y.shape) := by
    have K : Keeps (O + 1) w5 W6 := by rw [← e6]; exact (Keeps.refl _ _).setCell (p := ⟨O, 0, none⟩) (by show O < O + 1; omega) _
    exact (RL.low (by omega)).keeps K
  obtain ⟨T, hT⟩ : ∃ T : Nat → Value × Value × Value, T = fun i => (.int .i64 0, .int .i64 (plcC n x.cells (cAt y.cells i) : Int), .slice none 0 0) := ⟨_, rfl⟩
  have HTT := hide hT
  have HG6 := hide (GrowC.new (T := T) t0 t1 tf1)
  have HI6 := hide I6
  have hO6 : Hid (O < W6.heap.size ∧ w.heap.size + 3 ≤ O) := ⟨by omega, by have := hz.2.2; omega⟩
  clear hown5 hb5 RL B46 I6 t0 t1 tf1 hT o0 o1 of0 of1 hz z6 z56 hcl q0 r0 HLS hsl HI4
  go_wp2
  clear d0 df0
  go_loopg [11] CY (fun M i wr => ∃ (t : Nat) (v : Value), M + t = CY ∧ i = .int .i64 (t : Int) ∧ GrowC W6 O (.slice al SY cl) T t v wr)
  case atStart => exact ⟨0, _, rfl, rfl, HG6.out⟩
  case round =>
    clear HG6
    obtain ⟨t, v, hM, rfl, hgr⟩ := hrel
    obtain ⟨wo, hwo⟩ : ∃ wo, wo = wr := ⟨_, rfl⟩
    subst hwo
    have HGR := hide hgr
    have ho6 := hO6.out
    have BW := hgr.below (B := O) (Nat.le_refl _) ho6.1
    have I8 := HI6.out.belowS BW ho6.2
    have r1 := I8.r1
    by_cases hlt : t < CY
    · have hltz : (t : Int) < (CY : Int) := by omega
      have q1 := I8.q1
      have hww : Below w.heap.size w wo := I8.bel
      obtain ⟨bb, off, rfl, -, hbb, hcells⟩ := HCF.out (by rw [HLEN.out.2]; omega)
      obtain ⟨g0, g1, g2, -⟩ := hcells t (by rw [HLEN.out.2]; exact hlt)
      have u0 := (hww.cell (p := ⟨bb, off + t * 3, none⟩) hbb).trans g0
      have u1 := (hww.cell (p := ⟨bb, off + t * 3 + 1, none⟩) hbb).trans g1
      have u2 := (hww.cell (p := ⟨bb, off + t * 3 + 2, none⟩) hbb).trans g2
      have C9 := HPL.out wo.drew hww.drew t hlt
      have hPb := HPB.out t
      have hTt : Hid (T t = (.int .i64 0, .int .i64 (plcC n x.cells (cAt y.cells t) : Int), .slice none 0 0)) := by unfold Hid; rw [HTT.out]
      generalize plcC n x.cells (cAt y.cells t) = PL at *
      generalize (cAt y.cells t).1 = x0 at *
      generalize (cAt y.cells t).2.1 = x1 at *
      generalize (cAt y.cells t).2.2.length = x2 at *
      generalize ab' t = x3 at *
      generalize cb' t = x4 at *
      have d1 := hgr.c1
      have df1 := hgr.f1
      have hsz := hgr.io.size
      have HC9 := hide C9
      have HSTEP : Hid (rowT T (t + 1) = rowT T t ++ [.int .i64 0, .int .i64 (PL : Int), .slice none 0 0]) := by unfold Hid; rw [rowT_step, hTt.out]
      have HONE : Hid (∀ u ∈ [Value.int .i64 0, .int .i64 (PL : Int), .slice none 0 0], u.oneCell' = true) := by
        intro u hu
        simp at hu
        rcases hu with rfl | rfl | rfl <;> rfl
      have HMAX : Hid (t + 1 ≤ maxLen ∧ (t + 1) * 40 ≤ 140737488355328) := ⟨by unfold maxLen; omega, by omega⟩
      have HAFT : Hid (∀ w9, Below wo.heap.size wo w9 → (w9.alloc (.cells #[.int .i64 0, .int .i64 (PL : Int), .slice none 0 0] 39)).ownsRow W6.heap.size 39 3 v t (rowT T t) ∧ (∀ i u, [Value.int .i64 0, .int .i64 (PL : Int), .slice none 0 0][i]? = some u → (w9.alloc (.cells #[.int .i64 0, .int .i64 (PL : Int), .slice none 0 0] 39)).cell? ((⟨w9.heap.size, 0, none⟩ : Addr).add i) = some u) ∧ W6.heap.size ≤ (w9.alloc (.cells #[.int .i64 0, .int .i64 (PL : Int), .slice none 0 0] 39)).heap.size ∧ Below W6.heap.size wo (w9.alloc (.cells #[.int .i64 0, .int .i64 (PL : Int), .slice none 0 0] 39)) ∧ w9.cell? ⟨O, 1, none⟩ = some v ∧ (w9.alloc (.cells #[.int .i64 0, .int .i64 (PL : Int), .slice none 0 0] 39)).cell? ⟨O, 1, none⟩ = some v) := fun w9 hb9 => by
        have h9 := hb9.size
        refine ⟨(owns_below hgr.own hb9).alloc _, fun i u hu => ?_, by simp; omega, ((hb9.mono hsz).alloc (by omega) _), (hb9.cell (p := ⟨O, 1, none⟩) (by show O < _; omega)).trans d1, ((one_alloc w9 _).cell (p := ⟨O, 1, none⟩) (by show O < _; omega)).trans ((hb9.cell (p := ⟨O, 1, none⟩) (by show O < _; omega)).trans d1)⟩
        rw [add_off, Nat.zero_add]
        exact cell_new0 w9 _ 39 i u (by simpa using hu)
      clear hcells g0 g1 g2 hww I8 BW hgr C9 hTt hbb hsz ho6
      go_wp2
      go_region_law (first
        | (refine step_append_own rfl (.tmp 48) (.tmp 58) 23 rfl W6.heap.size 39 i0 (.agg #[.int .i64 0, .int .i64 0, .slice none 0 0]) 3 40 Try.underlying23 hi0 hz00 hz01 hz02 rfl (by decide) v t (rowT T t) (by first | rfl | go_simp) HA9.out.1 ⟨w9.heap.size, 0, none⟩ 1 1 [.int .i64 0, .int .i64 (PL : Int), .slice none 0 0] (by first | rfl | go_simp) rfl HA9.out.2.1 HONE.out HMAX.out.1 HMAX.out.2 HA9.out.2.2.1 ?_; intro v' w1 hown1 hb1; obtain ⟨g, cp, rfl, -⟩ := owns_form hown1 (Nat.succ_pos t); have dd1 := (HA9.out.2.2.2.1.trans hb1).cell (p := ⟨O, 1, none⟩) hO6.out.1 |>.trans HGR.out.c1; have dd3 := (HA9.out.2.2.2.1.trans hb1).frozen (p := ⟨O, 1, none⟩) hO6.out.1 |>.trans HGR.out.f1)
        | (go_simp; go_at_call 28; refine HC9.out.mono ?_; rintro e w9 ⟨rfl, hb9⟩; have HA9 := hide (HAFT.out w9 ((Below.refl _ _).drew.trans hb9)); have d9 := HA9.out.2.2.2.2.1; have d9' := HA9.out.2.2.2.2.2))
      all_goals
        have hown2 : w1.ownsRow W6.heap.size 39 3 (.slice (some ⟨g, 0, none⟩) (t + 1) cp) (t + 1) (rowT T (t + 1)) := by rw [HSTEP.out]; exact hown1
        have HNX := hide (HGR.out.step hO6.out.1 (HA9.out.2.2.2.1.trans hb1) hown2)
        clear hown1 hown2 hb1 dd1 dd3 HONE HMAX HSTEP HA9 HAFT d9 d9' hb9 u0 u1 u2
        go_wp2
        go_roundg (CY - (t + 1))
        case rel => exact ⟨t + 1, _, by omega, by go_num, HNX.out⟩
        case measure => omega
    · have hte : t = CY := by omega
      subst hte
      obtain ⟨g2, cp2, rfl, hcells⟩ := owns_cellsT T hgr.own
      have d0' := hgr.c0
      have d1' := hgr.c1
      have p0 := I8.p0
      have p1 := I8.p1
      have f0 := I8.f0
      have f1 := I8.f1
      have HT := hide (I8.put (.slice al SY cl) (.slice g2 t cp2))
      obtain ⟨L, hL⟩ : ∃ L, (List.range t).map (fun i => (plcC n x.cells (cAt y.cells i) : Int)) = L := ⟨_, rfl⟩
      have hLl : L.length = t := by rw [← hL]; simp
      have hLv : ∀ i, i < t → L[i]?.getD 0 = (plcC n x.cells (cAt y.cells i) : Int) := fun i hi => by rw [← hL]; simp [hi]
      have HFIN : Hid (∀ u s, Gives2Z (n + 1) w (.mk y.shape (numCs 0 ((List.range t).map fun i => (plcC n x.cells (cAt y.cells i) : Int)))) 0 w (.returned (.tuple #[.agg #[.slice al SY cl, .slice g2 t cp2], .int .i64 0])) ((wo.setCell ⟨w.heap.size + 2, 0, none⟩ u).setCell ⟨w.heap.size + 2, 1, none⟩ s)) := by
        intro u s
        rw [hL]
        refine gives2z_of (R := (.mk y.shape (numCs 0 L), 0)) rfl (fun W hW hK => ?_) (I8.fin u s)
        have K3 : Keeps (w.heap.size + 3) wo W := (((Keeps.refl _ _).setCell (p := ⟨w.heap.size + 2, 0, none⟩) (by show w.heap.size + 2 < _; omega) u).setCell (p := ⟨w.heap.size + 2, 1, none⟩) (by show w.heap.size + 2 < _; omega) s).trans (hK.mono (by omega))
        have RF : Row 0 W al y.shape := by
          have K4 : Keeps (O + 1) W6 W := ⟨Nat.le_trans hgr.io.size K3.1, fun b h1 h2 => (K3.2 b (by omega) (Nat.lt_of_lt_of_le h2 hgr.io.size)).trans (hgr.keep b h2 (by omega))⟩
          exact (HRL.out.keeps K4).low (Nat.zero_le _)
        refine arIn_mk (x := .mk y.shape (numCs 0 L)) RF (by show (numCs 0 L).length ≤ _; rw [numCs_len, hLl]; omega) ?_ HLEN.out.1 (by show (numCs 0 L).length = t; rw [numCs_len, hLl])
        rcases hcells with h0 | ⟨g, rfl, hg1, hg2, hcc⟩
        · exact Or.inl (List.eq_nil_of_length_eq_zero (by show (numCs 0 L).length = 0; rw [numCs_len, hLl]; exact h0))
        · refine Or.inr ⟨g, 0, rfl, Nat.zero_le _, Nat.lt_of_lt_of_le hg2 K3.1, fun i hi => ?_⟩
          change i < (numCs 0 L).length at hi
          rw [numCs_len, hLl] at hi
          obtain ⟨e0, e1, e2⟩ := hcc i hi
          rw [Nat.zero_add]
          have ap : ∀ (o : Nat) (q : Value), wo.cell? ⟨g, o, none⟩ = some q → W.cell? ⟨g, o, none⟩ = some q := fun o q h => (K3.cell (p := ⟨g, o, none⟩) (by show w.heap.size + 3 ≤ g; omega) hg2).trans h
          refine ⟨_, _, _, ap _ _ e0, ap _ _ e1, ap _ _ e2, ?_⟩
          rw [show cAt (Ar.mk y.shape (numCs 0 L)).cells i = (0, (plcC n x.cells (cAt y.cells i) : Int), []) from (numCs_at 0 L i (by omega)).trans (by rw [hLv i hi]), HTT.out]
          exact ⟨rfl, rfl, none, 0, rfl, by simp, Or.inl rfl⟩
      clear I8 hgr HGR hcells BW hL hLl hLv
      go_wp2
      exact bodyPost_ret (v := .tuple #[.agg #[.slice al SY cl, .slice g2 t cp2], .int .i64 0]) (by simp [results, Try.results11, go_sem, HT.out.1, HT.out.2]) rfl (HFIN.out _ _)
end Go.Proofs.Ytimkcpbgnoekcaa
