/-
  Size and Deep of programs of more nodes; nodes that are made, told by their blocks; a variable that holds a node; what is made of programs that may be: the plain mathematics.
-/
import Derived.Test.YtkgpoibnilgaeaaCoR
import Derived.Deep.LoopGhost
namespace Go.Proofs.Ytkgpoibnilgaeaa
open Go.ChangeShapes Go.WideShapes Go.ChangeAt Go.RowKit
set_option linter.unusedVariables false
set_option linter.unusedSimpArgs false
/-- What the count of nodes promises. -/
def SizeCB (k m : Nat) : Prop := ∀ n x lo va w, NdIn m n lo w x va → sizeN m x ≤ 100000 → Calls Try.prog k #[va] w fun e w' => e = .returned (.int .i64 (sizeN m x : Nat)) ∧ Below w.heap.size w w'
theorem kid_sizeB {k m n lo : Nat} {w : World} {x : Nd} {ak : Option Addr} (IH : SizeCB k m) (hsz : sizeN (m + 1) x ≤ 100000) (h : KidsIn m n lo w x.kids ak) (j : Nat) (hj : j < x.kids.length) :
    ∃ b off K O S A1 L1 C1 A2 L2 C2 AK LK CK P, ak = some ⟨b, off, none⟩ ∧ ∀ wr, Below w.heap.size w wr → (wr.cell? ⟨b, off + j * 7, none⟩ = some (.int .i64 K) ∧ wr.cell? ⟨b, off + j * 7 + 1, none⟩ = some (.int .i64 O) ∧ wr.cell? ⟨b, off + j * 7 + 2, none⟩ = some (.string S) ∧ wr.cell? ⟨b, off + j * 7 + 3, none⟩ = some (.slice A1 L1 C1) ∧ wr.cell? ⟨b, off + j * 7 + 4, none⟩ = some (.slice A2 L2 C2) ∧ wr.cell? ⟨b, off + j * 7 + 5, none⟩ = some (.slice AK LK CK) ∧ wr.cell? ⟨b, off + j * 7 + 6, none⟩ = some (.int .i64 P)) ∧
      Calls Try.prog k #[.agg #[.int .i64 K, .int .i64 O, .string S, .slice A1 L1 C1, .slice A2 L2 C2, .slice AK LK CK, .int .i64 P]] wr fun e w' => e = .returned (.int .i64 (sizeN m (nAt x.kids j) : Nat)) ∧ Below wr.heap.size wr w' := by
  obtain ⟨b, off, K, O, S, A1, L1, C1, A2, L2, C2, AK, LK, CK, P, ha, hb, hw⟩ := kid_cells h hj
  refine ⟨b, off, K, O, S, A1, L1, C1, A2, L2, C2, AK, LK, CK, P, ha, fun wr hwr => ⟨(hw wr hwr).1, IH n _ lo _ wr (hw wr hwr).2 ?_⟩⟩
  have := size_kid (m := m) hj
  omega

set_option maxHeartbeats 2000000 in
theorem sizeB13 (m : Nat) : SizeCB 13 m := by
  induction m with
  | zero => intro n x lo va w hx; exact hx.elim
  | succ m IH =>
  intro n x lo va w hx hsz
  obtain ⟨m', hm', a1, c1, a2, c2, ak, ck, rfl, hA, hl, hs, hK⟩ := hx.letters
  obtain rfl : m = m' := by omega
  have HKS := hide (kid_sizeB IH hsz hK)
  have hsum := hsz
  simp only [sizeN] at hsum ⊢
  generalize hF : (fun i => sizeN m (nAt x.kids i)) = F at hsum ⊢
  have HF : Hid (∀ j, sizeN m (nAt x.kids j) = F j) := fun j => by rw [← hF]
  clear hF IH hK hA hm' hs hsz
  have HU : Hid (∀ j, j < x.kids.length → sumUp F (j + 1) = sumUp F j + F j ∧ sumUp F j + F j ≤ sumUp F x.kids.length) := fun j hj => ⟨rfl, sumUp_one hj⟩
  generalize x.kids.length = L at *
  generalize x.kind = K0 at *
  generalize x.op = O0 at *
  generalize x.name = S0 at *
  generalize x.pos = P0 at *
  generalize x.lit.shape.length = L10 at *
  generalize x.lit.cells.length = L20 at *
  have hb0 := one_alloc w (.cells #[.int .i64 K0, .int .i64 O0, .string S0, .slice a1 L10 c1, .slice a2 L20 c2, .slice ak L ck, .int .i64 P0] 28)
  have q5 := cell_new0 w #[.int .i64 K0, .int .i64 O0, .string S0, .slice a1 L10 c1, .slice a2 L20 c2, .slice ak L ck, .int .i64 P0] 28 5 _ rfl
  have HQ := hide (And.intro hb0 (And.intro q5 (show w.heap.size < (w.alloc (.cells #[.int .i64 K0, .int .i64 O0, .string S0, .slice a1 L10 c1, .slice a2 L20 c2, .slice ak L ck, .int .i64 P0] 28)).heap.size by simp)))
  clear hb0 q5
  go_enter Try.func13, Try.ntmps13
  go_wp2
  go_loopg [3, 4] L (fun g nv i wr => ∃ (j : Nat), g + j = L ∧ i = .int .i64 (j : Int) ∧ nv = .int .i64 ((1 + sumUp F j : Nat) : Int) ∧ Below w.heap.size w wr ∧ wr.cell? ⟨w.heap.size, 5, none⟩ = some (.slice ak L ck) ∧ w.heap.size < wr.heap.size)
  case atStart => exact ⟨0, rfl, rfl, rfl, HQ.out.1, HQ.out.2.1, HQ.out.2.2⟩
  case round =>
    clear HQ
    obtain ⟨j, hj, rfl, rfl, hnx, hcl, hsz⟩ := hrel
    have HSZ := hide hsz
    clear hsz
    by_cases hlt : j < L
    · obtain ⟨hu1, hu2⟩ := HU.out j hlt
      have HU1 := hide hu1
      obtain ⟨b, off, K, O, S, A1, L1, C1, A2, L2, C2, AK, LK, CK, P, rfl, hw⟩ := HKS.out j hlt
      obtain ⟨⟨g0, g1, g2, g3, g4, g5, g6⟩, C⟩ := hw _ hnx
      rw [HF.out j] at C
      have HC := hide C
      clear C hw HKS HF hu1
      generalize F j = FJ at *
      generalize sumUp F j = SJ at *
      go_wp2_with fail
      refine HC.out.mono ?_
      rintro e w1 ⟨rfl, hb1⟩
      clear HC
      go_wp2
      go_roundg (L - (j + 1))
      case rel => exact ⟨j + 1, by omega, by go_num, by rw [HU1.out]; go_num, hnx.trans (hb1.mono hnx.size), (hb1.cell (p := ⟨w.heap.size, 5, none⟩) HSZ.out).trans hcl, Nat.lt_of_lt_of_le HSZ.out hb1.size⟩
      case measure => omega
    · have hje : j = L := by omega
      subst hje
      clear HU HKS
      go_wp2
      go_ret
      exact ⟨rfl, hnx⟩

/-- What the reckoning of the depth promises. -/
def DeepNCB (m : Nat) : Prop := ∀ n x lo va w, NdIn m n lo w x va → sizeN m x ≤ 100000 → Calls Try.prog 28 #[va] w fun e w' => e = .returned (.int .i64 (deepN m x)) ∧ Below w.heap.size w w'
theorem kid_deepB {m n lo : Nat} {w : World} {x : Nd} {ak : Option Addr} (IH : DeepNCB m) (hsz : sizeN (m + 1) x ≤ 100000) (h : KidsIn m n lo w x.kids ak) (j : Nat) (hj : j < x.kids.length) :
    ∃ b off K O S A1 L1 C1 A2 L2 C2 AK LK CK P, ak = some ⟨b, off, none⟩ ∧ ∀ wr, Below w.heap.size w wr → (wr.cell? ⟨b, off + j * 7, none⟩ = some (.int .i64 K) ∧ wr.cell? ⟨b, off + j * 7 + 1, none⟩ = some (.int .i64 O) ∧ wr.cell? ⟨b, off + j * 7 + 2, none⟩ = some (.string S) ∧ wr.cell? ⟨b, off + j * 7 + 3, none⟩ = some (.slice A1 L1 C1) ∧ wr.cell? ⟨b, off + j * 7 + 4, none⟩ = some (.slice A2 L2 C2) ∧ wr.cell? ⟨b, off + j * 7 + 5, none⟩ = some (.slice AK LK CK) ∧ wr.cell? ⟨b, off + j * 7 + 6, none⟩ = some (.int .i64 P)) ∧
      Calls Try.prog 28 #[.agg #[.int .i64 K, .int .i64 O, .string S, .slice A1 L1 C1, .slice A2 L2 C2, .slice AK LK CK, .int .i64 P]] wr fun e w' => e = .returned (.int .i64 (deepN m (nAt x.kids j))) ∧ Below wr.heap.size wr w' := by
  obtain ⟨b, off, K, O, S, A1, L1, C1, A2, L2, C2, AK, LK, CK, P, ha, hb, hw⟩ := kid_cells h hj
  refine ⟨b, off, K, O, S, A1, L1, C1, A2, L2, C2, AK, LK, CK, P, ha, fun wr hwr => ⟨(hw wr hwr).1, IH n _ lo _ wr (hw wr hwr).2 ?_⟩⟩
  have := size_kid (m := m) hj
  omega

set_option maxHeartbeats 2000000 in
theorem deepB28 (m : Nat) : DeepNCB m := by
  induction m with
  | zero => intro n x lo va w hx; exact hx.elim
  | succ m IH =>
  intro n x lo va w hx hsz
  obtain ⟨m', hm', a1, c1, a2, c2, ak, ck, rfl, hA, hl, hs, hK⟩ := hx.letters
  obtain rfl : m = m' := by omega
  have HKS := hide (kid_deepB IH hsz hK)
  have hbig : maxUp (fun i => 1 + deepN m (nAt x.kids i)) x.kids.length ≤ 100000 := Int.le_trans (deepN_size (m + 1) x) (by omega)
  have hmaxs : ∀ j, j < x.kids.length → 0 ≤ deepN m (nAt x.kids j) ∧ 1 + deepN m (nAt x.kids j) ≤ 100000 := fun j hj => ⟨deepN_nonneg _ _, Int.le_trans (maxUp_at (f := fun i => 1 + deepN m (nAt x.kids i)) hj) hbig⟩
  simp only [deepN]
  generalize hF : (fun i => 1 + deepN m (nAt x.kids i)) = F at hbig ⊢
  have HF : Hid (∀ j, 1 + deepN m (nAt x.kids j) = F j) := fun j => by rw [← hF]
  have HMX := hide hmaxs
  clear hmaxs
  clear hF IH hK hA hm' hs hsz
  have HU : Hid (∀ j, maxUp F (j + 1) = max (maxUp F j) (F j)) := fun j => rfl
  have HU0 : Hid (∀ j, 0 ≤ maxUp F j) := fun j => maxUp_nonneg F j
  generalize x.kids.length = L at *
  generalize x.kind = K0 at *
  generalize x.op = O0 at *
  generalize x.name = S0 at *
  generalize x.pos = P0 at *
  generalize x.lit.shape.length = L10 at *
  generalize x.lit.cells.length = L20 at *
  have hb0 := one_alloc w (.cells #[.int .i64 K0, .int .i64 O0, .string S0, .slice a1 L10 c1, .slice a2 L20 c2, .slice ak L ck, .int .i64 P0] 28)
  have q5 := cell_new0 w #[.int .i64 K0, .int .i64 O0, .string S0, .slice a1 L10 c1, .slice a2 L20 c2, .slice ak L ck, .int .i64 P0] 28 5 _ rfl
  have HQ := hide (And.intro hb0 (And.intro q5 (show w.heap.size < (w.alloc (.cells #[.int .i64 K0, .int .i64 O0, .string S0, .slice a1 L10 c1, .slice a2 L20 c2, .slice ak L ck, .int .i64 P0] 28)).heap.size by simp)))
  clear hb0 q5
  go_enter Try.func28, Try.ntmps28
  go_wp2
  go_loopg [3, 4] L (fun g nv i wr => ∃ (j : Nat), g + j = L ∧ i = .int .i64 (j : Int) ∧ nv = .int .i64 (maxUp F j) ∧ Below w.heap.size w wr ∧ wr.cell? ⟨w.heap.size, 5, none⟩ = some (.slice ak L ck) ∧ w.heap.size < wr.heap.size)
  case atStart => exact ⟨0, rfl, rfl, rfl, HQ.out.1, HQ.out.2.1, HQ.out.2.2⟩
  case round =>
    clear HQ
    obtain ⟨j, hj, rfl, rfl, hnx, hcl, hsz⟩ := hrel
    have HSZ := hide hsz
    clear hsz
    by_cases hlt : j < L
    · obtain ⟨hd0, hd1⟩ := HMX.out j hlt
      have h0 := HU0.out j
      have hFJ := HF.out j
      obtain ⟨b, off, K, O, S, A1, L1, C1, A2, L2, C2, AK, LK, CK, P, rfl, hw⟩ := HKS.out j hlt
      obtain ⟨⟨g0, g1, g2, g3, g4, g5, g6⟩, C⟩ := hw _ hnx
      have HC := hide C
      have HU1 := hide (HU.out j)
      clear C hw HKS HF HU HU0 HMX
      generalize deepN m (nAt x.kids j) = DJ at *
      have HFJ := hide hFJ
      clear hFJ
      generalize F j = FJ at *
      generalize maxUp F j = SJ at *
      by_cases hgt : SJ < 1 + DJ
      · go_wp2_with fail
        refine HC.out.mono ?_
        rintro e w1 ⟨rfl, hb1⟩
        clear HC
        go_wp2
        go_roundg (L - (j + 1))
        case rel => exact ⟨j + 1, by omega, by go_num, by rw [HU1.out, ← HFJ.out]; congr 1; omega, hnx.trans (hb1.mono hnx.size), (hb1.cell (p := ⟨w.heap.size, 5, none⟩) HSZ.out).trans hcl, Nat.lt_of_lt_of_le HSZ.out hb1.size⟩
        case measure => omega
      · go_wp2_with fail
        refine HC.out.mono ?_
        rintro e w1 ⟨rfl, hb1⟩
        clear HC
        go_wp2
        go_roundg (L - (j + 1))
        case rel => exact ⟨j + 1, by omega, by go_num, by rw [HU1.out, ← HFJ.out]; congr 1; omega, hnx.trans (hb1.mono hnx.size), (hb1.cell (p := ⟨w.heap.size, 5, none⟩) HSZ.out).trans hcl, Nat.lt_of_lt_of_le HSZ.out hb1.size⟩
        case measure => omega
    · have hje : j = L := by omega
      subst hje
      clear HU HU0 HMX HKS
      go_wp2
      go_ret
      exact ⟨rfl, hnx⟩


theorem primS (op : Int) (W4 W : World) (h : Below W4.heap.size W4 W) : Calls Try.prog 25 #[.int .i64 op] W fun e w' => e = .returned (.agg #[.int .i64 21, .int .i64 op, .string { data := #[] }, .slice none 0 0, .slice none 0 0, .slice none 0 0, .int .i64 0]) ∧ Below W4.heap.size W4 w' ∧ Below W.heap.size W w' := by
  go_enter Try.func25, Try.ntmps25
  go_wp2
  exact bodyPost_ret (v := .agg #[.int .i64 21, .int .i64 op, .string { data := #[] }, .slice none 0 0, .slice none 0 0, .slice none 0 0, .int .i64 0]) (by simp [results, Try.results25, go_sem]) rfl ⟨rfl, h.alloc h.size _, one_alloc _ _⟩

set_option maxHeartbeats 2000000 in
theorem oneS (Kx Ox : Int) (Sx : ByteArray) (a1x : Option Addr) (L1x c1x : Nat) (a2x : Option Addr) (L2x c2x : Nat) (akx : Option Addr) (LKx ckx : Nat) (Px : Int) (Ky Oy : Int) (Sy : ByteArray) (a1y : Option Addr) (L1y c1y : Nat) (a2y : Option Addr) (L2y c2y : Nat) (aky : Option Addr) (LKy cky : Nat) (Py : Int) (W4 W : World) (h : Below W4.heap.size W4 W) : Calls Try.prog 24 #[.agg #[.int .i64 Kx, .int .i64 Ox, .string Sx, .slice a1x L1x c1x, .slice a2x L2x c2x, .slice akx LKx ckx, .int .i64 Px], .agg #[.int .i64 Ky, .int .i64 Oy, .string Sy, .slice a1y L1y c1y, .slice a2y L2y c2y, .slice aky LKy cky, .int .i64 Py]] W fun e w' => (∃ bk, e = .returned (.agg #[.int .i64 5, .int .i64 0, .string { data := #[] }, .slice none 0 0, .slice none 0 0, .slice (some ⟨bk, 0, none⟩) 2 2, .int .i64 0]) ∧ w'.heap[bk]? = some (.cells #[.int .i64 Kx, .int .i64 Ox, .string Sx, .slice a1x L1x c1x, .slice a2x L2x c2x, .slice akx LKx ckx, .int .i64 Px, .int .i64 Ky, .int .i64 Oy, .string Sy, .slice a1y L1y c1y, .slice a2y L2y c2y, .slice aky LKy cky, .int .i64 Py] 28 (0, 0)) ∧ W.heap.size ≤ bk ∧ bk < w'.heap.size) ∧ Below W4.heap.size W4 w' ∧ Below W.heap.size W w' := by
  have HB4 : Hid (Below W.heap.size W ((((W.alloc (.cells #[.int .i64 Kx, .int .i64 Ox, .string Sx, .slice a1x L1x c1x, .slice a2x L2x c2x, .slice akx LKx ckx, .int .i64 Px] 28)).alloc (.cells #[.int .i64 Ky, .int .i64 Oy, .string Sy, .slice a1y L1y c1y, .slice a2y L2y c2y, .slice aky LKy cky, .int .i64 Py] 28)).alloc (.cells #[.int .i64 5, .int .i64 0, .string { data := #[] }, .slice none 0 0, .slice none 0 0, .slice (some ⟨W.heap.size + 1 + 1 + 1, 0, none⟩) 2 2, .int .i64 0] 28)).alloc (.cells #[.int .i64 Kx, .int .i64 Ox, .string Sx, .slice a1x L1x c1x, .slice a2x L2x c2x, .slice akx LKx ckx, .int .i64 Px, .int .i64 Ky, .int .i64 Oy, .string Sy, .slice a1y L1y c1y, .slice a2y L2y c2y, .slice aky LKy cky, .int .i64 Py] 28))) := ((((one_alloc W _).alloc (by simp <;> omega) _).alloc (by simp <;> omega) _).alloc (by simp <;> omega) _)
  have hbl : ((((W.alloc (.cells #[.int .i64 Kx, .int .i64 Ox, .string Sx, .slice a1x L1x c1x, .slice a2x L2x c2x, .slice akx LKx ckx, .int .i64 Px] 28)).alloc (.cells #[.int .i64 Ky, .int .i64 Oy, .string Sy, .slice a1y L1y c1y, .slice a2y L2y c2y, .slice aky LKy cky, .int .i64 Py] 28)).alloc (.cells #[.int .i64 5, .int .i64 0, .string { data := #[] }, .slice none 0 0, .slice none 0 0, .slice (some ⟨W.heap.size + 1 + 1 + 1, 0, none⟩) 2 2, .int .i64 0] 28)).alloc (.cells #[.int .i64 Kx, .int .i64 Ox, .string Sx, .slice a1x L1x c1x, .slice a2x L2x c2x, .slice akx LKx ckx, .int .i64 Px, .int .i64 Ky, .int .i64 Oy, .string Sy, .slice a1y L1y c1y, .slice a2y L2y c2y, .slice aky LKy cky, .int .i64 Py] 28)).heap[W.heap.size + 1 + 1 + 1]? = some (.cells #[.int .i64 Kx, .int .i64 Ox, .string Sx, .slice a1x L1x c1x, .slice a2x L2x c2x, .slice akx LKx ckx, .int .i64 Px, .int .i64 Ky, .int .i64 Oy, .string Sy, .slice a1y L1y c1y, .slice a2y L2y c2y, .slice aky LKy cky, .int .i64 Py] 28 (0, 0)) := by
    have hsz : (((W.alloc (.cells #[.int .i64 Kx, .int .i64 Ox, .string Sx, .slice a1x L1x c1x, .slice a2x L2x c2x, .slice akx LKx ckx, .int .i64 Px] 28)).alloc (.cells #[.int .i64 Ky, .int .i64 Oy, .string Sy, .slice a1y L1y c1y, .slice a2y L2y c2y, .slice aky LKy cky, .int .i64 Py] 28)).alloc (.cells #[.int .i64 5, .int .i64 0, .string { data := #[] }, .slice none 0 0, .slice none 0 0, .slice (some ⟨W.heap.size + 1 + 1 + 1, 0, none⟩) 2 2, .int .i64 0] 28)).heap.size = W.heap.size + 1 + 1 + 1 := by simp
    have h := heap_alloc_new (((W.alloc (.cells #[.int .i64 Kx, .int .i64 Ox, .string Sx, .slice a1x L1x c1x, .slice a2x L2x c2x, .slice akx LKx ckx, .int .i64 Px] 28)).alloc (.cells #[.int .i64 Ky, .int .i64 Oy, .string Sy, .slice a1y L1y c1y, .slice a2y L2y c2y, .slice aky LKy cky, .int .i64 Py] 28)).alloc (.cells #[.int .i64 5, .int .i64 0, .string { data := #[] }, .slice none 0 0, .slice none 0 0, .slice (some ⟨W.heap.size + 1 + 1 + 1, 0, none⟩) 2 2, .int .i64 0] 28)) (.cells #[.int .i64 Kx, .int .i64 Ox, .string Sx, .slice a1x L1x c1x, .slice a2x L2x c2x, .slice akx LKx ckx, .int .i64 Px, .int .i64 Ky, .int .i64 Oy, .string Sy, .slice a1y L1y c1y, .slice a2y L2y c2y, .slice aky LKy cky, .int .i64 Py] 28)
    rw [hsz] at h
    exact h
  have HBL := hide hbl
  clear hbl
  have HSZ : Hid (W.heap.size ≤ W.heap.size + 1 + 1 + 1 ∧ W.heap.size + 1 + 1 + 1 < ((((W.alloc (.cells #[.int .i64 Kx, .int .i64 Ox, .string Sx, .slice a1x L1x c1x, .slice a2x L2x c2x, .slice akx LKx ckx, .int .i64 Px] 28)).alloc (.cells #[.int .i64 Ky, .int .i64 Oy, .string Sy, .slice a1y L1y c1y, .slice a2y L2y c2y, .slice aky LKy cky, .int .i64 Py] 28)).alloc (.cells #[.int .i64 5, .int .i64 0, .string { data := #[] }, .slice none 0 0, .slice none 0 0, .slice (some ⟨W.heap.size + 1 + 1 + 1, 0, none⟩) 2 2, .int .i64 0] 28)).alloc (.cells #[.int .i64 Kx, .int .i64 Ox, .string Sx, .slice a1x L1x c1x, .slice a2x L2x c2x, .slice akx LKx ckx, .int .i64 Px, .int .i64 Ky, .int .i64 Oy, .string Sy, .slice a1y L1y c1y, .slice a2y L2y c2y, .slice aky LKy cky, .int .i64 Py] 28)).heap.size) := ⟨by omega, by simp⟩
  go_enter Try.func24, Try.ntmps24
  go_wp2
  exact bodyPost_ret (v := .agg #[.int .i64 5, .int .i64 0, .string { data := #[] }, .slice none 0 0, .slice none 0 0, .slice (some ⟨W.heap.size + 1 + 1 + 1, 0, none⟩) 2 2, .int .i64 0]) (by simp [results, Try.results24, go_sem]) rfl ⟨⟨_, rfl, HBL.out, HSZ.out.1, HSZ.out.2⟩, h.trans (HB4.out.mono h.size), HB4.out⟩

set_option maxHeartbeats 2000000 in
theorem twoS (Kx Ox : Int) (Sx : ByteArray) (a1x : Option Addr) (L1x c1x : Nat) (a2x : Option Addr) (L2x c2x : Nat) (akx : Option Addr) (LKx ckx : Nat) (Px : Int) (Ky Oy : Int) (Sy : ByteArray) (a1y : Option Addr) (L1y c1y : Nat) (a2y : Option Addr) (L2y c2y : Nat) (aky : Option Addr) (LKy cky : Nat) (Py : Int) (Kz Oz : Int) (Sz : ByteArray) (a1z : Option Addr) (L1z c1z : Nat) (a2z : Option Addr) (L2z c2z : Nat) (akz : Option Addr) (LKz ckz : Nat) (Pz : Int) (W4 W : World) (h : Below W4.heap.size W4 W) : Calls Try.prog 26 #[.agg #[.int .i64 Kx, .int .i64 Ox, .string Sx, .slice a1x L1x c1x, .slice a2x L2x c2x, .slice akx LKx ckx, .int .i64 Px], .agg #[.int .i64 Ky, .int .i64 Oy, .string Sy, .slice a1y L1y c1y, .slice a2y L2y c2y, .slice aky LKy cky, .int .i64 Py], .agg #[.int .i64 Kz, .int .i64 Oz, .string Sz, .slice a1z L1z c1z, .slice a2z L2z c2z, .slice akz LKz ckz, .int .i64 Pz]] W fun e w' => (∃ bk, e = .returned (.agg #[.int .i64 6, .int .i64 0, .string { data := #[] }, .slice none 0 0, .slice none 0 0, .slice (some ⟨bk, 0, none⟩) 3 3, .int .i64 0]) ∧ w'.heap[bk]? = some (.cells #[.int .i64 Kx, .int .i64 Ox, .string Sx, .slice a1x L1x c1x, .slice a2x L2x c2x, .slice akx LKx ckx, .int .i64 Px, .int .i64 Ky, .int .i64 Oy, .string Sy, .slice a1y L1y c1y, .slice a2y L2y c2y, .slice aky LKy cky, .int .i64 Py, .int .i64 Kz, .int .i64 Oz, .string Sz, .slice a1z L1z c1z, .slice a2z L2z c2z, .slice akz LKz ckz, .int .i64 Pz] 28 (0, 0)) ∧ W.heap.size ≤ bk ∧ bk < w'.heap.size) ∧ Below W4.heap.size W4 w' ∧ Below W.heap.size W w' := by
  have HB4 : Hid (Below W.heap.size W (((((W.alloc (.cells #[.int .i64 Kx, .int .i64 Ox, .string Sx, .slice a1x L1x c1x, .slice a2x L2x c2x, .slice akx LKx ckx, .int .i64 Px] 28)).alloc (.cells #[.int .i64 Ky, .int .i64 Oy, .string Sy, .slice a1y L1y c1y, .slice a2y L2y c2y, .slice aky LKy cky, .int .i64 Py] 28)).alloc (.cells #[.int .i64 Kz, .int .i64 Oz, .string Sz, .slice a1z L1z c1z, .slice a2z L2z c2z, .slice akz LKz ckz, .int .i64 Pz] 28)).alloc (.cells #[.int .i64 6, .int .i64 0, .string { data := #[] }, .slice none 0 0, .slice none 0 0, .slice (some ⟨W.heap.size + 1 + 1 + 1 + 1, 0, none⟩) 3 3, .int .i64 0] 28)).alloc (.cells #[.int .i64 Kx, .int .i64 Ox, .string Sx, .slice a1x L1x c1x, .slice a2x L2x c2x, .slice akx LKx ckx, .int .i64 Px, .int .i64 Ky, .int .i64 Oy, .string Sy, .slice a1y L1y c1y, .slice a2y L2y c2y, .slice aky LKy cky, .int .i64 Py, .int .i64 Kz, .int .i64 Oz, .string Sz, .slice a1z L1z c1z, .slice a2z L2z c2z, .slice akz LKz ckz, .int .i64 Pz] 28))) := (((((one_alloc W _).alloc (by simp <;> omega) _).alloc (by simp <;> omega) _).alloc (by simp <;> omega) _).alloc (by simp <;> omega) _)
  have hbl : (((((W.alloc (.cells #[.int .i64 Kx, .int .i64 Ox, .string Sx, .slice a1x L1x c1x, .slice a2x L2x c2x, .slice akx LKx ckx, .int .i64 Px] 28)).alloc (.cells #[.int .i64 Ky, .int .i64 Oy, .string Sy, .slice a1y L1y c1y, .slice a2y L2y c2y, .slice aky LKy cky, .int .i64 Py] 28)).alloc (.cells #[.int .i64 Kz, .int .i64 Oz, .string Sz, .slice a1z L1z c1z, .slice a2z L2z c2z, .slice akz LKz ckz, .int .i64 Pz] 28)).alloc (.cells #[.int .i64 6, .int .i64 0, .string { data := #[] }, .slice none 0 0, .slice none 0 0, .slice (some ⟨W.heap.size + 1 + 1 + 1 + 1, 0, none⟩) 3 3, .int .i64 0] 28)).alloc (.cells #[.int .i64 Kx, .int .i64 Ox, .string Sx, .slice a1x L1x c1x, .slice a2x L2x c2x, .slice akx LKx ckx, .int .i64 Px, .int .i64 Ky, .int .i64 Oy, .string Sy, .slice a1y L1y c1y, .slice a2y L2y c2y, .slice aky LKy cky, .int .i64 Py, .int .i64 Kz, .int .i64 Oz, .string Sz, .slice a1z L1z c1z, .slice a2z L2z c2z, .slice akz LKz ckz, .int .i64 Pz] 28)).heap[W.heap.size + 1 + 1 + 1 + 1]? = some (.cells #[.int .i64 Kx, .int .i64 Ox, .string Sx, .slice a1x L1x c1x, .slice a2x L2x c2x, .slice akx LKx ckx, .int .i64 Px, .int .i64 Ky, .int .i64 Oy, .string Sy, .slice a1y L1y c1y, .slice a2y L2y c2y, .slice aky LKy cky, .int .i64 Py, .int .i64 Kz, .int .i64 Oz, .string Sz, .slice a1z L1z c1z, .slice a2z L2z c2z, .slice akz LKz ckz, .int .i64 Pz] 28 (0, 0)) := by
    have hsz : ((((W.alloc (.cells #[.int .i64 Kx, .int .i64 Ox, .string Sx, .slice a1x L1x c1x, .slice a2x L2x c2x, .slice akx LKx ckx, .int .i64 Px] 28)).alloc (.cells #[.int .i64 Ky, .int .i64 Oy, .string Sy, .slice a1y L1y c1y, .slice a2y L2y c2y, .slice aky LKy cky, .int .i64 Py] 28)).alloc (.cells #[.int .i64 Kz, .int .i64 Oz, .string Sz, .slice a1z L1z c1z, .slice a2z L2z c2z, .slice akz LKz ckz, .int .i64 Pz] 28)).alloc (.cells #[.int .i64 6, .int .i64 0, .string { data := #[] }, .slice none 0 0, .slice none 0 0, .slice (some ⟨W.heap.size + 1 + 1 + 1 + 1, 0, none⟩) 3 3, .int .i64 0] 28)).heap.size = W.heap.size + 1 + 1 + 1 + 1 := by simp
    have h := heap_alloc_new ((((W.alloc (.cells #[.int .i64 Kx, .int .i64 Ox, .string Sx, .slice a1x L1x c1x, .slice a2x L2x c2x, .slice akx LKx ckx, .int .i64 Px] 28)).alloc (.cells #[.int .i64 Ky, .int .i64 Oy, .string Sy, .slice a1y L1y c1y, .slice a2y L2y c2y, .slice aky LKy cky, .int .i64 Py] 28)).alloc (.cells #[.int .i64 Kz, .int .i64 Oz, .string Sz, .slice a1z L1z c1z, .slice a2z L2z c2z, .slice akz LKz ckz, .int .i64 Pz] 28)).alloc (.cells #[.int .i64 6, .int .i64 0, .string { data := #[] }, .slice none 0 0, .slice none 0 0, .slice (some ⟨W.heap.size + 1 + 1 + 1 + 1, 0, none⟩) 3 3, .int .i64 0] 28)) (.cells #[.int .i64 Kx, .int .i64 Ox, .string Sx, .slice a1x L1x c1x, .slice a2x L2x c2x, .slice akx LKx ckx, .int .i64 Px, .int .i64 Ky, .int .i64 Oy, .string Sy, .slice a1y L1y c1y, .slice a2y L2y c2y, .slice aky LKy cky, .int .i64 Py, .int .i64 Kz, .int .i64 Oz, .string Sz, .slice a1z L1z c1z, .slice a2z L2z c2z, .slice akz LKz ckz, .int .i64 Pz] 28)
    rw [hsz] at h
    exact h
  have HBL := hide hbl
  clear hbl
  have HSZ : Hid (W.heap.size ≤ W.heap.size + 1 + 1 + 1 + 1 ∧ W.heap.size + 1 + 1 + 1 + 1 < (((((W.alloc (.cells #[.int .i64 Kx, .int .i64 Ox, .string Sx, .slice a1x L1x c1x, .slice a2x L2x c2x, .slice akx LKx ckx, .int .i64 Px] 28)).alloc (.cells #[.int .i64 Ky, .int .i64 Oy, .string Sy, .slice a1y L1y c1y, .slice a2y L2y c2y, .slice aky LKy cky, .int .i64 Py] 28)).alloc (.cells #[.int .i64 Kz, .int .i64 Oz, .string Sz, .slice a1z L1z c1z, .slice a2z L2z c2z, .slice akz LKz ckz, .int .i64 Pz] 28)).alloc (.cells #[.int .i64 6, .int .i64 0, .string { data := #[] }, .slice none 0 0, .slice none 0 0, .slice (some ⟨W.heap.size + 1 + 1 + 1 + 1, 0, none⟩) 3 3, .int .i64 0] 28)).alloc (.cells #[.int .i64 Kx, .int .i64 Ox, .string Sx, .slice a1x L1x c1x, .slice a2x L2x c2x, .slice akx LKx ckx, .int .i64 Px, .int .i64 Ky, .int .i64 Oy, .string Sy, .slice a1y L1y c1y, .slice a2y L2y c2y, .slice aky LKy cky, .int .i64 Py, .int .i64 Kz, .int .i64 Oz, .string Sz, .slice a1z L1z c1z, .slice a2z L2z c2z, .slice akz LKz ckz, .int .i64 Pz] 28)).heap.size) := ⟨by omega, by simp⟩
  go_enter Try.func26, Try.ntmps26
  go_wp2
  exact bodyPost_ret (v := .agg #[.int .i64 6, .int .i64 0, .string { data := #[] }, .slice none 0 0, .slice none 0 0, .slice (some ⟨W.heap.size + 1 + 1 + 1 + 1, 0, none⟩) 3 3, .int .i64 0]) (by simp [results, Try.results26, go_sem]) rfl ⟨⟨_, rfl, HBL.out, HSZ.out.1, HSZ.out.2⟩, h.trans (HB4.out.mono h.size), HB4.out⟩

set_option maxHeartbeats 2000000 in
theorem withS (k : Int) (Kx Ox : Int) (Sx : ByteArray) (a1x : Option Addr) (L1x c1x : Nat) (a2x : Option Addr) (L2x c2x : Nat) (akx : Option Addr) (LKx ckx : Nat) (Px : Int) (W4 W : World) (h : Below W4.heap.size W4 W) : Calls Try.prog 27 #[.int .i64 k, .agg #[.int .i64 Kx, .int .i64 Ox, .string Sx, .slice a1x L1x c1x, .slice a2x L2x c2x, .slice akx LKx ckx, .int .i64 Px]] W fun e w' => (∃ bk, e = .returned (.agg #[.int .i64 k, .int .i64 0, .string { data := #[] }, .slice none 0 0, .slice none 0 0, .slice (some ⟨bk, 0, none⟩) 1 1, .int .i64 0]) ∧ w'.heap[bk]? = some (.cells #[.int .i64 Kx, .int .i64 Ox, .string Sx, .slice a1x L1x c1x, .slice a2x L2x c2x, .slice akx LKx ckx, .int .i64 Px] 28 (0, 0)) ∧ W.heap.size ≤ bk ∧ bk < w'.heap.size) ∧ Below W4.heap.size W4 w' ∧ Below W.heap.size W w' := by
  have HB4 : Hid (Below W.heap.size W (((W.alloc (.cells #[.int .i64 Kx, .int .i64 Ox, .string Sx, .slice a1x L1x c1x, .slice a2x L2x c2x, .slice akx LKx ckx, .int .i64 Px] 28)).alloc (.cells #[.int .i64 k, .int .i64 0, .string { data := #[] }, .slice none 0 0, .slice none 0 0, .slice (some ⟨W.heap.size + 1 + 1, 0, none⟩) 1 1, .int .i64 0] 28)).alloc (.cells #[.int .i64 Kx, .int .i64 Ox, .string Sx, .slice a1x L1x c1x, .slice a2x L2x c2x, .slice akx LKx ckx, .int .i64 Px] 28))) := (((one_alloc W _).alloc (by simp <;> omega) _).alloc (by simp <;> omega) _)
  have hbl : (((W.alloc (.cells #[.int .i64 Kx, .int .i64 Ox, .string Sx, .slice a1x L1x c1x, .slice a2x L2x c2x, .slice akx LKx ckx, .int .i64 Px] 28)).alloc (.cells #[.int .i64 k, .int .i64 0, .string { data := #[] }, .slice none 0 0, .slice none 0 0, .slice (some ⟨W.heap.size + 1 + 1, 0, none⟩) 1 1, .int .i64 0] 28)).alloc (.cells #[.int .i64 Kx, .int .i64 Ox, .string Sx, .slice a1x L1x c1x, .slice a2x L2x c2x, .slice akx LKx ckx, .int .i64 Px] 28)).heap[W.heap.size + 1 + 1]? = some (.cells #[.int .i64 Kx, .int .i64 Ox, .string Sx, .slice a1x L1x c1x, .slice a2x L2x c2x, .slice akx LKx ckx, .int .i64 Px] 28 (0, 0)) := by
    have hsz : ((W.alloc (.cells #[.int .i64 Kx, .int .i64 Ox, .string Sx, .slice a1x L1x c1x, .slice a2x L2x c2x, .slice akx LKx ckx, .int .i64 Px] 28)).alloc (.cells #[.int .i64 k, .int .i64 0, .string { data := #[] }, .slice none 0 0, .slice none 0 0, .slice (some ⟨W.heap.size + 1 + 1, 0, none⟩) 1 1, .int .i64 0] 28)).heap.size = W.heap.size + 1 + 1 := by simp
    have h := heap_alloc_new ((W.alloc (.cells #[.int .i64 Kx, .int .i64 Ox, .string Sx, .slice a1x L1x c1x, .slice a2x L2x c2x, .slice akx LKx ckx, .int .i64 Px] 28)).alloc (.cells #[.int .i64 k, .int .i64 0, .string { data := #[] }, .slice none 0 0, .slice none 0 0, .slice (some ⟨W.heap.size + 1 + 1, 0, none⟩) 1 1, .int .i64 0] 28)) (.cells #[.int .i64 Kx, .int .i64 Ox, .string Sx, .slice a1x L1x c1x, .slice a2x L2x c2x, .slice akx LKx ckx, .int .i64 Px] 28)
    rw [hsz] at h
    exact h
  have HBL := hide hbl
  clear hbl
  have HSZ : Hid (W.heap.size ≤ W.heap.size + 1 + 1 ∧ W.heap.size + 1 + 1 < (((W.alloc (.cells #[.int .i64 Kx, .int .i64 Ox, .string Sx, .slice a1x L1x c1x, .slice a2x L2x c2x, .slice akx LKx ckx, .int .i64 Px] 28)).alloc (.cells #[.int .i64 k, .int .i64 0, .string { data := #[] }, .slice none 0 0, .slice none 0 0, .slice (some ⟨W.heap.size + 1 + 1, 0, none⟩) 1 1, .int .i64 0] 28)).alloc (.cells #[.int .i64 Kx, .int .i64 Ox, .string Sx, .slice a1x L1x c1x, .slice a2x L2x c2x, .slice akx LKx ckx, .int .i64 Px] 28)).heap.size) := ⟨by omega, by simp⟩
  go_enter Try.func27, Try.ntmps27
  go_wp2
  exact bodyPost_ret (v := .agg #[.int .i64 k, .int .i64 0, .string { data := #[] }, .slice none 0 0, .slice none 0 0, .slice (some ⟨W.heap.size + 1 + 1, 0, none⟩) 1 1, .int .i64 0]) (by simp [results, Try.results27, go_sem]) rfl ⟨⟨_, rfl, HBL.out, HSZ.out.1, HSZ.out.2⟩, h.trans (HB4.out.mono h.size), HB4.out⟩

/-- A block laid for a variable, still as it was laid. -/
def Zb (w : World) (b : Nat) : Prop := w.heap[b]? = some (.cells #[.int .i64 0, .int .i64 0, .string { data := #[] }, .slice none 0 0, .slice none 0 0, .slice none 0 0, .int .i64 0] 28 (0, 0))
theorem Zb.lt {w : World} {b : Nat} (h : Zb w b) : b < w.heap.size := by
  refine Decidable.byContradiction fun hn => ?_
  have : w.heap[b]? = none := by simp; omega
  rw [Zb, this] at h
  cases h
theorem Zb.next {w w' : World} {b : Nat} (h : Zb w b) (hb : Below w.heap.size w w') : Zb w' b := (hb.block b h.lt).trans h
theorem Zb.new (w : World) : Zb (w.alloc (.cells #[.int .i64 0, .int .i64 0, .string { data := #[] }, .slice none 0 0, .slice none 0 0, .slice none 0 0, .int .i64 0] 28)) w.heap.size := heap_alloc_new _ _
theorem Zb.drew {w : World} {b : Nat} (h : Zb w b) : Zb w.drew b := h
theorem Zb.facts {w : World} {b : Nat} (h : Zb w b) : (w.cell? ⟨b, 0, none⟩ = some (.int .i64 0) ∧ w.cell? ⟨b, 1, none⟩ = some (.int .i64 0) ∧ w.cell? ⟨b, 2, none⟩ = some (.string { data := #[] }) ∧ w.cell? ⟨b, 3, none⟩ = some (.slice none 0 0) ∧ w.cell? ⟨b, 4, none⟩ = some (.slice none 0 0) ∧ w.cell? ⟨b, 5, none⟩ = some (.slice none 0 0) ∧ w.cell? ⟨b, 6, none⟩ = some (.int .i64 0)) ∧ (w.frozen? ⟨b, 0, none⟩ = false ∧ w.frozen? ⟨b, 1, none⟩ = false ∧ w.frozen? ⟨b, 2, none⟩ = false ∧ w.frozen? ⟨b, 3, none⟩ = false ∧ w.frozen? ⟨b, 4, none⟩ = false ∧ w.frozen? ⟨b, 5, none⟩ = false ∧ w.frozen? ⟨b, 6, none⟩ = false) := by
  have h' : w.heap[b]? = _ := h
  refine ⟨⟨?_, ?_, ?_, ?_, ?_, ?_, ?_⟩, frozen_of_row w b 0 _ 28 h, frozen_of_row w b 1 _ 28 h, frozen_of_row w b 2 _ 28 h, frozen_of_row w b 3 _ 28 h, frozen_of_row w b 4 _ 28 h, frozen_of_row w b 5 _ 28 h, frozen_of_row w b 6 _ 28 h⟩
  all_goals simp [World.cell?, h']
/-- A variable that holds a value of seven cells. -/
def Vr (w : World) (b : Nat) (v0 v1 v2 v3 v4 v5 v6 : Value) : Prop := w.heap[b]? = some (.cells #[v0, v1, v2, v3, v4, v5, v6] 28 (0, 0))
theorem Vr.lt {w : World} {b : Nat} {v0 v1 v2 v3 v4 v5 v6 : Value} (h : Vr w b v0 v1 v2 v3 v4 v5 v6) : b < w.heap.size := by
  refine Decidable.byContradiction fun hn => ?_
  have : w.heap[b]? = none := by simp; omega
  rw [Vr, this] at h
  cases h
theorem Vr.next {w w' : World} {b : Nat} {v0 v1 v2 v3 v4 v5 v6 : Value} (h : Vr w b v0 v1 v2 v3 v4 v5 v6) (hb : Below w.heap.size w w') : Vr w' b v0 v1 v2 v3 v4 v5 v6 := (hb.block b h.lt).trans h
theorem Vr.cells {w : World} {b : Nat} {v0 v1 v2 v3 v4 v5 v6 : Value} (h : Vr w b v0 v1 v2 v3 v4 v5 v6) : w.cell? ⟨b, 0, none⟩ = some v0 ∧ w.cell? ⟨b, 1, none⟩ = some v1 ∧ w.cell? ⟨b, 2, none⟩ = some v2 ∧ w.cell? ⟨b, 3, none⟩ = some v3 ∧ w.cell? ⟨b, 4, none⟩ = some v4 ∧ w.cell? ⟨b, 5, none⟩ = some v5 ∧ w.cell? ⟨b, 6, none⟩ = some v6 := by
  have h' : w.heap[b]? = _ := h
  refine ⟨?_, ?_, ?_, ?_, ?_, ?_, ?_⟩
  all_goals simp [World.cell?, h']
theorem vr_new (W3 w5 : World) (v0 v1 v2 v3 v4 v5 v6 : Value) (g : Below W3.heap.size W3 w5) : Below W3.heap.size W3 (w5.alloc (.cells #[v0, v1, v2, v3, v4, v5, v6] 28)) ∧ Vr (w5.alloc (.cells #[v0, v1, v2, v3, v4, v5, v6] 28)) w5.heap.size v0 v1 v2 v3 v4 v5 v6 ∧ (∀ (k : Nat) (o : Obj), w5.heap[k]? = some o → (w5.alloc (.cells #[v0, v1, v2, v3, v4, v5, v6] 28)).heap[k]? = some o) :=
  ⟨g.alloc g.size _, heap_alloc_new _ _, fun k o h => by
    have hk : k < w5.heap.size := by
      refine Decidable.byContradiction fun hn => ?_
      have : w5.heap[k]? = none := by simp; omega
      rw [this] at h
      cases h
    rw [heap_alloc_old w5 _ hk]
    exact h⟩
theorem vr_old (W3 w5 : World) (B : Nat) (v0 v1 v2 v3 v4 v5 v6 : Value) (t : Zb w5 B) (hB : W3.heap.size ≤ B) (g : Below W3.heap.size W3 w5) : Below W3.heap.size W3 (((((((w5.setCell ⟨B, 0, none⟩ v0).setCell ⟨B, 1, none⟩ v1).setCell ⟨B, 2, none⟩ v2).setCell ⟨B, 3, none⟩ v3).setCell ⟨B, 4, none⟩ v4).setCell ⟨B, 5, none⟩ v5).setCell ⟨B, 6, none⟩ v6) ∧ Vr (((((((w5.setCell ⟨B, 0, none⟩ v0).setCell ⟨B, 1, none⟩ v1).setCell ⟨B, 2, none⟩ v2).setCell ⟨B, 3, none⟩ v3).setCell ⟨B, 4, none⟩ v4).setCell ⟨B, 5, none⟩ v5).setCell ⟨B, 6, none⟩ v6) B v0 v1 v2 v3 v4 v5 v6 ∧ (∀ (k : Nat) (o : Obj), k ≠ B → w5.heap[k]? = some o → (((((((w5.setCell ⟨B, 0, none⟩ v0).setCell ⟨B, 1, none⟩ v1).setCell ⟨B, 2, none⟩ v2).setCell ⟨B, 3, none⟩ v3).setCell ⟨B, 4, none⟩ v4).setCell ⟨B, 5, none⟩ v5).setCell ⟨B, 6, none⟩ v6).heap[k]? = some o) := by
  refine ⟨?_, ?_, ?_⟩
  · exact (((((((g.setCell (p := ⟨B, 0, none⟩) hB v0).setCell (p := ⟨B, 1, none⟩) hB v1).setCell (p := ⟨B, 2, none⟩) hB v2).setCell (p := ⟨B, 3, none⟩) hB v3).setCell (p := ⟨B, 4, none⟩) hB v4).setCell (p := ⟨B, 5, none⟩) hB v5).setCell (p := ⟨B, 6, none⟩) hB v6)
  · unfold Vr
    rw [heap_setCell_same _ B 6 #[v0, v1, v2, v3, v4, v5, .int .i64 0] 28 v6]
    · simp
    rw [heap_setCell_same _ B 5 #[v0, v1, v2, v3, v4, .slice none 0 0, .int .i64 0] 28 v5]
    · simp
    rw [heap_setCell_same _ B 4 #[v0, v1, v2, v3, .slice none 0 0, .slice none 0 0, .int .i64 0] 28 v4]
    · simp
    rw [heap_setCell_same _ B 3 #[v0, v1, v2, .slice none 0 0, .slice none 0 0, .slice none 0 0, .int .i64 0] 28 v3]
    · simp
    rw [heap_setCell_same _ B 2 #[v0, v1, .string { data := #[] }, .slice none 0 0, .slice none 0 0, .slice none 0 0, .int .i64 0] 28 v2]
    · simp
    rw [heap_setCell_same _ B 1 #[v0, .int .i64 0, .string { data := #[] }, .slice none 0 0, .slice none 0 0, .slice none 0 0, .int .i64 0] 28 v1]
    · simp
    rw [heap_setCell_same _ B 0 #[.int .i64 0, .int .i64 0, .string { data := #[] }, .slice none 0 0, .slice none 0 0, .slice none 0 0, .int .i64 0] 28 v0 t]
    simp
  · intro k o hk h
    rw [heap_setCell_other _ ⟨B, 6, none⟩ k _ hk, heap_setCell_other _ ⟨B, 5, none⟩ k _ hk, heap_setCell_other _ ⟨B, 4, none⟩ k _ hk, heap_setCell_other _ ⟨B, 3, none⟩ k _ hk, heap_setCell_other _ ⟨B, 2, none⟩ k _ hk, heap_setCell_other _ ⟨B, 1, none⟩ k _ hk, heap_setCell_other _ ⟨B, 0, none⟩ k _ hk]
    exact h
theorem vr_newK {W3 w5 : World} {v0 v1 v2 v3 v4 v5 v6 : Value} {k : Nat} {o : Obj} (g : Below W3.heap.size W3 w5) (h : w5.heap[k]? = some o) : Below W3.heap.size W3 (w5.alloc (.cells #[v0, v1, v2, v3, v4, v5, v6] 28)) ∧ Vr (w5.alloc (.cells #[v0, v1, v2, v3, v4, v5, v6] 28)) w5.heap.size v0 v1 v2 v3 v4 v5 v6 ∧ (w5.alloc (.cells #[v0, v1, v2, v3, v4, v5, v6] 28)).heap[k]? = some o :=
  ⟨(vr_new W3 w5 v0 v1 v2 v3 v4 v5 v6 g).1, (vr_new W3 w5 v0 v1 v2 v3 v4 v5 v6 g).2.1, (vr_new W3 w5 v0 v1 v2 v3 v4 v5 v6 g).2.2 k o h⟩
theorem vr_oldK {W3 w5 : World} {B : Nat} {v0 v1 v2 v3 v4 v5 v6 : Value} {k : Nat} {o : Obj} (t : Zb w5 B) (hB : W3.heap.size ≤ B) (g : Below W3.heap.size W3 w5) (hk : k ≠ B) (h : w5.heap[k]? = some o) : Below W3.heap.size W3 (((((((w5.setCell ⟨B, 0, none⟩ v0).setCell ⟨B, 1, none⟩ v1).setCell ⟨B, 2, none⟩ v2).setCell ⟨B, 3, none⟩ v3).setCell ⟨B, 4, none⟩ v4).setCell ⟨B, 5, none⟩ v5).setCell ⟨B, 6, none⟩ v6) ∧ Vr (((((((w5.setCell ⟨B, 0, none⟩ v0).setCell ⟨B, 1, none⟩ v1).setCell ⟨B, 2, none⟩ v2).setCell ⟨B, 3, none⟩ v3).setCell ⟨B, 4, none⟩ v4).setCell ⟨B, 5, none⟩ v5).setCell ⟨B, 6, none⟩ v6) B v0 v1 v2 v3 v4 v5 v6 ∧ (((((((w5.setCell ⟨B, 0, none⟩ v0).setCell ⟨B, 1, none⟩ v1).setCell ⟨B, 2, none⟩ v2).setCell ⟨B, 3, none⟩ v3).setCell ⟨B, 4, none⟩ v4).setCell ⟨B, 5, none⟩ v5).setCell ⟨B, 6, none⟩ v6).heap[k]? = some o :=
  ⟨(vr_old W3 w5 B v0 v1 v2 v3 v4 v5 v6 t hB g).1, (vr_old W3 w5 B v0 v1 v2 v3 v4 v5 v6 t hB g).2.1, (vr_old W3 w5 B v0 v1 v2 v3 v4 v5 v6 t hB g).2.2 k o hk h⟩
theorem vr_newK2 {W3 w5 : World} {v0 v1 v2 v3 v4 v5 v6 : Value} {k k' : Nat} {o o' : Obj} (g : Below W3.heap.size W3 w5) (h : w5.heap[k]? = some o) (h' : w5.heap[k']? = some o') : Below W3.heap.size W3 (w5.alloc (.cells #[v0, v1, v2, v3, v4, v5, v6] 28)) ∧ Vr (w5.alloc (.cells #[v0, v1, v2, v3, v4, v5, v6] 28)) w5.heap.size v0 v1 v2 v3 v4 v5 v6 ∧ (w5.alloc (.cells #[v0, v1, v2, v3, v4, v5, v6] 28)).heap[k]? = some o ∧ (w5.alloc (.cells #[v0, v1, v2, v3, v4, v5, v6] 28)).heap[k']? = some o' :=
  ⟨(vr_newK g h).1, (vr_newK g h).2.1, (vr_newK g h).2.2, (vr_newK g h').2.2⟩
theorem vr_oldK2 {W3 w5 : World} {B : Nat} {v0 v1 v2 v3 v4 v5 v6 : Value} {k k' : Nat} {o o' : Obj} (t : Zb w5 B) (hB : W3.heap.size ≤ B) (g : Below W3.heap.size W3 w5) (hk : k ≠ B) (h : w5.heap[k]? = some o) (hk' : k' ≠ B) (h' : w5.heap[k']? = some o') : Below W3.heap.size W3 (((((((w5.setCell ⟨B, 0, none⟩ v0).setCell ⟨B, 1, none⟩ v1).setCell ⟨B, 2, none⟩ v2).setCell ⟨B, 3, none⟩ v3).setCell ⟨B, 4, none⟩ v4).setCell ⟨B, 5, none⟩ v5).setCell ⟨B, 6, none⟩ v6) ∧ Vr (((((((w5.setCell ⟨B, 0, none⟩ v0).setCell ⟨B, 1, none⟩ v1).setCell ⟨B, 2, none⟩ v2).setCell ⟨B, 3, none⟩ v3).setCell ⟨B, 4, none⟩ v4).setCell ⟨B, 5, none⟩ v5).setCell ⟨B, 6, none⟩ v6) B v0 v1 v2 v3 v4 v5 v6 ∧ (((((((w5.setCell ⟨B, 0, none⟩ v0).setCell ⟨B, 1, none⟩ v1).setCell ⟨B, 2, none⟩ v2).setCell ⟨B, 3, none⟩ v3).setCell ⟨B, 4, none⟩ v4).setCell ⟨B, 5, none⟩ v5).setCell ⟨B, 6, none⟩ v6).heap[k]? = some o ∧ (((((((w5.setCell ⟨B, 0, none⟩ v0).setCell ⟨B, 1, none⟩ v1).setCell ⟨B, 2, none⟩ v2).setCell ⟨B, 3, none⟩ v3).setCell ⟨B, 4, none⟩ v4).setCell ⟨B, 5, none⟩ v5).setCell ⟨B, 6, none⟩ v6).heap[k']? = some o' :=
  ⟨(vr_oldK t hB g hk h).1, (vr_oldK t hB g hk h).2.1, (vr_oldK t hB g hk h).2.2, (vr_oldK t hB g hk' h').2.2⟩
theorem kids_at1 {m n lo : Nat} {W : World} {x : Nd} {a1x : Option Addr} {c1x : Nat} {a2x : Option Addr} {c2x : Nat} {akx : Option Addr} {ckx : Nat} (hx : NdIn m n lo W x (.agg #[.int .i64 x.kind, .int .i64 x.op, .string x.name, .slice a1x x.lit.shape.length c1x, .slice a2x x.lit.cells.length c2x, .slice akx x.kids.length ckx, .int .i64 x.pos])) {bk : Nat} (hb : W.heap[bk]? = some (.cells #[.int .i64 x.kind, .int .i64 x.op, .string x.name, .slice a1x x.lit.shape.length c1x, .slice a2x x.lit.cells.length c2x, .slice akx x.kids.length ckx, .int .i64 x.pos] 28 (0, 0))) (hlo : lo ≤ bk) :
    KidsIn m n lo W [x] (some ⟨bk, 0, none⟩) := by
  have hlt : bk < W.heap.size := by
    refine Decidable.byContradiction fun hn => ?_
    have : W.heap[bk]? = none := by simp; omega
    rw [this] at hb
    cases hb
  have hcell : ∀ i v, (#[.int .i64 x.kind, .int .i64 x.op, .string x.name, .slice a1x x.lit.shape.length c1x, .slice a2x x.lit.cells.length c2x, .slice akx x.kids.length ckx, .int .i64 x.pos] : Array Value)[i]? = some v → W.cell? ⟨bk, i, none⟩ = some v := by
    intro i v h
    unfold World.cell?
    simp only [hb, h]
    rfl
  refine Or.inr ⟨bk, 0, rfl, hlo, hlt, fun j hj => ?_⟩
  obtain rfl : j = 0 := by simpa using hj
  exact ⟨a1x, c1x, a2x, c2x, akx, ckx, ⟨hcell 0 _ rfl, hcell 1 _ rfl, hcell 2 _ rfl, hcell 3 _ rfl, hcell 4 _ rfl, hcell 5 _ rfl, hcell 6 _ rfl⟩, hx⟩
theorem kids_at2 {m n lo : Nat} {W : World} {x y : Nd} {a1x : Option Addr} {c1x : Nat} {a2x : Option Addr} {c2x : Nat} {akx : Option Addr} {ckx : Nat} {a1y : Option Addr} {c1y : Nat} {a2y : Option Addr} {c2y : Nat} {aky : Option Addr} {cky : Nat} (hx : NdIn m n lo W x (.agg #[.int .i64 x.kind, .int .i64 x.op, .string x.name, .slice a1x x.lit.shape.length c1x, .slice a2x x.lit.cells.length c2x, .slice akx x.kids.length ckx, .int .i64 x.pos])) (hy : NdIn m n lo W y (.agg #[.int .i64 y.kind, .int .i64 y.op, .string y.name, .slice a1y y.lit.shape.length c1y, .slice a2y y.lit.cells.length c2y, .slice aky y.kids.length cky, .int .i64 y.pos])) {bk : Nat} (hb : W.heap[bk]? = some (.cells #[.int .i64 x.kind, .int .i64 x.op, .string x.name, .slice a1x x.lit.shape.length c1x, .slice a2x x.lit.cells.length c2x, .slice akx x.kids.length ckx, .int .i64 x.pos, .int .i64 y.kind, .int .i64 y.op, .string y.name, .slice a1y y.lit.shape.length c1y, .slice a2y y.lit.cells.length c2y, .slice aky y.kids.length cky, .int .i64 y.pos] 28 (0, 0))) (hlo : lo ≤ bk) :
    KidsIn m n lo W [x, y] (some ⟨bk, 0, none⟩) := by
  have hlt : bk < W.heap.size := by
    refine Decidable.byContradiction fun hn => ?_
    have : W.heap[bk]? = none := by simp; omega
    rw [this] at hb
    cases hb
  have hcell : ∀ i v, (#[.int .i64 x.kind, .int .i64 x.op, .string x.name, .slice a1x x.lit.shape.length c1x, .slice a2x x.lit.cells.length c2x, .slice akx x.kids.length ckx, .int .i64 x.pos, .int .i64 y.kind, .int .i64 y.op, .string y.name, .slice a1y y.lit.shape.length c1y, .slice a2y y.lit.cells.length c2y, .slice aky y.kids.length cky, .int .i64 y.pos] : Array Value)[i]? = some v → W.cell? ⟨bk, i, none⟩ = some v := by
    intro i v h
    unfold World.cell?
    simp only [hb, h]
    rfl
  refine Or.inr ⟨bk, 0, rfl, hlo, hlt, fun j hj => ?_⟩
  have hj' : j = 0 ∨ j = 1 := by
    have : j < 2 := by simpa using hj
    omega
  rcases hj' with rfl | rfl
  · exact ⟨a1x, c1x, a2x, c2x, akx, ckx, ⟨hcell 0 _ rfl, hcell 1 _ rfl, hcell 2 _ rfl, hcell 3 _ rfl, hcell 4 _ rfl, hcell 5 _ rfl, hcell 6 _ rfl⟩, hx⟩
  · exact ⟨a1y, c1y, a2y, c2y, aky, cky, ⟨hcell 7 _ rfl, hcell 8 _ rfl, hcell 9 _ rfl, hcell 10 _ rfl, hcell 11 _ rfl, hcell 12 _ rfl, hcell 13 _ rfl⟩, hy⟩
theorem kids_at3 {m n lo : Nat} {W : World} {x y z : Nd} {a1x : Option Addr} {c1x : Nat} {a2x : Option Addr} {c2x : Nat} {akx : Option Addr} {ckx : Nat} {a1y : Option Addr} {c1y : Nat} {a2y : Option Addr} {c2y : Nat} {aky : Option Addr} {cky : Nat} {a1z : Option Addr} {c1z : Nat} {a2z : Option Addr} {c2z : Nat} {akz : Option Addr} {ckz : Nat} (hx : NdIn m n lo W x (.agg #[.int .i64 x.kind, .int .i64 x.op, .string x.name, .slice a1x x.lit.shape.length c1x, .slice a2x x.lit.cells.length c2x, .slice akx x.kids.length ckx, .int .i64 x.pos])) (hy : NdIn m n lo W y (.agg #[.int .i64 y.kind, .int .i64 y.op, .string y.name, .slice a1y y.lit.shape.length c1y, .slice a2y y.lit.cells.length c2y, .slice aky y.kids.length cky, .int .i64 y.pos])) (hz : NdIn m n lo W z (.agg #[.int .i64 z.kind, .int .i64 z.op, .string z.name, .slice a1z z.lit.shape.length c1z, .slice a2z z.lit.cells.length c2z, .slice akz z.kids.length ckz, .int .i64 z.pos])) {bk : Nat} (hb : W.heap[bk]? = some (.cells #[.int .i64 x.kind, .int .i64 x.op, .string x.name, .slice a1x x.lit.shape.length c1x, .slice a2x x.lit.cells.length c2x, .slice akx x.kids.length ckx, .int .i64 x.pos, .int .i64 y.kind, .int .i64 y.op, .string y.name, .slice a1y y.lit.shape.length c1y, .slice a2y y.lit.cells.length c2y, .slice aky y.kids.length cky, .int .i64 y.pos, .int .i64 z.kind, .int .i64 z.op, .string z.name, .slice a1z z.lit.shape.length c1z, .slice a2z z.lit.cells.length c2z, .slice akz z.kids.length ckz, .int .i64 z.pos] 28 (0, 0))) (hlo : lo ≤ bk) :
    KidsIn m n lo W [x, y, z] (some ⟨bk, 0, none⟩) := by
  have hlt : bk < W.heap.size := by
    refine Decidable.byContradiction fun hn => ?_
    have : W.heap[bk]? = none := by simp; omega
    rw [this] at hb
    cases hb
  have hcell : ∀ i v, (#[.int .i64 x.kind, .int .i64 x.op, .string x.name, .slice a1x x.lit.shape.length c1x, .slice a2x x.lit.cells.length c2x, .slice akx x.kids.length ckx, .int .i64 x.pos, .int .i64 y.kind, .int .i64 y.op, .string y.name, .slice a1y y.lit.shape.length c1y, .slice a2y y.lit.cells.length c2y, .slice aky y.kids.length cky, .int .i64 y.pos, .int .i64 z.kind, .int .i64 z.op, .string z.name, .slice a1z z.lit.shape.length c1z, .slice a2z z.lit.cells.length c2z, .slice akz z.kids.length ckz, .int .i64 z.pos] : Array Value)[i]? = some v → W.cell? ⟨bk, i, none⟩ = some v := by
    intro i v h
    unfold World.cell?
    simp only [hb, h]
    rfl
  refine Or.inr ⟨bk, 0, rfl, hlo, hlt, fun j hj => ?_⟩
  have hj' : j = 0 ∨ j = 1 ∨ j = 2 := by
    have : j < 3 := by simpa using hj
    omega
  rcases hj' with rfl | rfl | rfl
  · exact ⟨a1x, c1x, a2x, c2x, akx, ckx, ⟨hcell 0 _ rfl, hcell 1 _ rfl, hcell 2 _ rfl, hcell 3 _ rfl, hcell 4 _ rfl, hcell 5 _ rfl, hcell 6 _ rfl⟩, hx⟩
  · exact ⟨a1y, c1y, a2y, c2y, aky, cky, ⟨hcell 7 _ rfl, hcell 8 _ rfl, hcell 9 _ rfl, hcell 10 _ rfl, hcell 11 _ rfl, hcell 12 _ rfl, hcell 13 _ rfl⟩, hy⟩
  · exact ⟨a1z, c1z, a2z, c2z, akz, ckz, ⟨hcell 14 _ rfl, hcell 15 _ rfl, hcell 16 _ rfl, hcell 17 _ rfl, hcell 18 _ rfl, hcell 19 _ rfl, hcell 20 _ rfl⟩, hz⟩

theorem prim_in (m n : Nat) (op : Int) (W : World) : NdIn (m + 1) (n + 1) 0 W (primD op) (.agg #[.int .i64 21, .int .i64 op, .string { data := #[] }, .slice none 0 0, .slice none 0 0, .slice none 0 0, .int .i64 0]) := leaf_in (n + 1) 0 W 21 op noA none 0 none 0 (noA_in n 0 W) m
theorem with_in {m n : Nat} {W : World} {k : Int} {x : Nd} {a1x : Option Addr} {c1x : Nat} {a2x : Option Addr} {c2x : Nat} {akx : Option Addr} {ckx : Nat} (hx : NdIn m (n + 1) 0 W x (.agg #[.int .i64 x.kind, .int .i64 x.op, .string x.name, .slice a1x x.lit.shape.length c1x, .slice a2x x.lit.cells.length c2x, .slice akx x.kids.length ckx, .int .i64 x.pos])) {bk : Nat} (hb : W.heap[bk]? = some (.cells #[.int .i64 x.kind, .int .i64 x.op, .string x.name, .slice a1x x.lit.shape.length c1x, .slice a2x x.lit.cells.length c2x, .slice akx x.kids.length ckx, .int .i64 x.pos] 28 (0, 0))) : NdIn (m + 1) (n + 1) 0 W (withD k x) (.agg #[.int .i64 k, .int .i64 0, .string { data := #[] }, .slice none 0 0, .slice none 0 0, .slice (some ⟨bk, 0, none⟩) 1 1, .int .i64 0]) :=
  ⟨none, 0, none, 0, _, 1, rfl, noA_in n 0 _, (by show 1 ≤ _; omega), (by show 0 ≤ _; omega), kids_at1 hx hb (Nat.zero_le _)⟩
theorem one_in {m n : Nat} {W : World} {x y : Nd} {a1x : Option Addr} {c1x : Nat} {a2x : Option Addr} {c2x : Nat} {akx : Option Addr} {ckx : Nat} {a1y : Option Addr} {c1y : Nat} {a2y : Option Addr} {c2y : Nat} {aky : Option Addr} {cky : Nat} (hx : NdIn m (n + 1) 0 W x (.agg #[.int .i64 x.kind, .int .i64 x.op, .string x.name, .slice a1x x.lit.shape.length c1x, .slice a2x x.lit.cells.length c2x, .slice akx x.kids.length ckx, .int .i64 x.pos])) (hy : NdIn m (n + 1) 0 W y (.agg #[.int .i64 y.kind, .int .i64 y.op, .string y.name, .slice a1y y.lit.shape.length c1y, .slice a2y y.lit.cells.length c2y, .slice aky y.kids.length cky, .int .i64 y.pos])) {bk : Nat} (hb : W.heap[bk]? = some (.cells #[.int .i64 x.kind, .int .i64 x.op, .string x.name, .slice a1x x.lit.shape.length c1x, .slice a2x x.lit.cells.length c2x, .slice akx x.kids.length ckx, .int .i64 x.pos, .int .i64 y.kind, .int .i64 y.op, .string y.name, .slice a1y y.lit.shape.length c1y, .slice a2y y.lit.cells.length c2y, .slice aky y.kids.length cky, .int .i64 y.pos] 28 (0, 0))) : NdIn (m + 1) (n + 1) 0 W (oneD x y) (.agg #[.int .i64 5, .int .i64 0, .string { data := #[] }, .slice none 0 0, .slice none 0 0, .slice (some ⟨bk, 0, none⟩) 2 2, .int .i64 0]) :=
  ⟨none, 0, none, 0, _, 2, rfl, noA_in n 0 _, (by show 2 ≤ _; omega), (by show 0 ≤ _; omega), kids_at2 hx hy hb (Nat.zero_le _)⟩
theorem two_in {m n : Nat} {W : World} {x y z : Nd} {a1x : Option Addr} {c1x : Nat} {a2x : Option Addr} {c2x : Nat} {akx : Option Addr} {ckx : Nat} {a1y : Option Addr} {c1y : Nat} {a2y : Option Addr} {c2y : Nat} {aky : Option Addr} {cky : Nat} {a1z : Option Addr} {c1z : Nat} {a2z : Option Addr} {c2z : Nat} {akz : Option Addr} {ckz : Nat} (hx : NdIn m (n + 1) 0 W x (.agg #[.int .i64 x.kind, .int .i64 x.op, .string x.name, .slice a1x x.lit.shape.length c1x, .slice a2x x.lit.cells.length c2x, .slice akx x.kids.length ckx, .int .i64 x.pos])) (hy : NdIn m (n + 1) 0 W y (.agg #[.int .i64 y.kind, .int .i64 y.op, .string y.name, .slice a1y y.lit.shape.length c1y, .slice a2y y.lit.cells.length c2y, .slice aky y.kids.length cky, .int .i64 y.pos])) (hz : NdIn m (n + 1) 0 W z (.agg #[.int .i64 z.kind, .int .i64 z.op, .string z.name, .slice a1z z.lit.shape.length c1z, .slice a2z z.lit.cells.length c2z, .slice akz z.kids.length ckz, .int .i64 z.pos])) {bk : Nat} (hb : W.heap[bk]? = some (.cells #[.int .i64 x.kind, .int .i64 x.op, .string x.name, .slice a1x x.lit.shape.length c1x, .slice a2x x.lit.cells.length c2x, .slice akx x.kids.length ckx, .int .i64 x.pos, .int .i64 y.kind, .int .i64 y.op, .string y.name, .slice a1y y.lit.shape.length c1y, .slice a2y y.lit.cells.length c2y, .slice aky y.kids.length cky, .int .i64 y.pos, .int .i64 z.kind, .int .i64 z.op, .string z.name, .slice a1z z.lit.shape.length c1z, .slice a2z z.lit.cells.length c2z, .slice akz z.kids.length ckz, .int .i64 z.pos] 28 (0, 0))) : NdIn (m + 1) (n + 1) 0 W (twoD x y z) (.agg #[.int .i64 6, .int .i64 0, .string { data := #[] }, .slice none 0 0, .slice none 0 0, .slice (some ⟨bk, 0, none⟩) 3 3, .int .i64 0]) :=
  ⟨none, 0, none, 0, _, 3, rfl, noA_in n 0 _, (by show 3 ≤ _; omega), (by show 0 ≤ _; omega), kids_at3 hx hy hz hb (Nat.zero_le _)⟩

theorem size_pos (m : Nat) (x : Nd) : 1 ≤ sizeN (m + 1) x := by simp only [sizeN]; omega
theorem err_iff {m : Nat} {x : Nd} : errN m x = 0 ↔ gdB m x = true := by
  unfold errN
  split
  · simp [*]
  · simp [*]
theorem prim_bare (op : Int) (b c : Bool) : bareB (primD op) 0 true b c = true := by simp [bareB, bareL, primD, Nd.kids, Nd.op, Nd.name, Nd.lit, noA, noS, noN, Ar.shape, Ar.cells]
theorem prim_of (op a b : Int) : primB (primD op) a b = frm op a b := by
  rw [prim_eq a b rfl, prim_bare]
  rfl
theorem one_size (m : Nat) (f x : Nd) : sizeN (m + 1) (oneD f x) = 1 + sizeN m f + sizeN m x ∧ deepN (m + 1) (oneD f x) = max (max 0 (1 + deepN m f)) (1 + deepN m x) := by
  constructor
  · simp [sizeN, oneD, Nd.kids, nAt, sumUp]; omega
  · simp [deepN, oneD, Nd.kids, nAt, maxUp]
theorem two_size (m : Nat) (f x y : Nd) : sizeN (m + 1) (twoD f x y) = 1 + sizeN m f + sizeN m x + sizeN m y ∧ deepN (m + 1) (twoD f x y) = max (max (max 0 (1 + deepN m f)) (1 + deepN m x)) (1 + deepN m y) := by
  constructor
  · simp [sizeN, twoD, Nd.kids, nAt, sumUp]; omega
  · simp [deepN, twoD, Nd.kids, nAt, maxUp]
theorem with_size (m : Nat) (k : Int) (f : Nd) : sizeN (m + 1) (withD k f) = 1 + sizeN m f ∧ deepN (m + 1) (withD k f) = max 0 (1 + deepN m f) := by
  constructor
  · simp [sizeN, withD, Nd.kids, nAt, sumUp]
  · simp [deepN, withD, Nd.kids, nAt, maxUp]
theorem prim_size (m : Nat) (op : Int) : sizeN (m + 1) (primD op) = 1 ∧ deepN (m + 1) (primD op) = 0 := by
  constructor
  · simp [sizeN, primD, Nd.kids, sumUp]
  · simp [deepN, primD, Nd.kids, maxUp]
theorem one_expr (m : Nat) (f x : Nd) : exprN (m + 1) false (oneD f x) = (moB (exprN m true) (usesN m) f && exprN m false x) := by
  simp [exprN, oneD, Nd.kind, Nd.kids, nAt, bareB, bareL, Nd.op, Nd.name, Nd.lit, noA, noS, noN, Ar.shape, Ar.cells]
theorem two_expr (m : Nat) (f x y : Nd) : exprN (m + 1) false (twoD f x y) = (dyB (exprN m true) (usesN m) f && exprN m false x && exprN m false y) := by
  simp [exprN, twoD, Nd.kind, Nd.kids, nAt, bareB, bareL, Nd.op, Nd.name, Nd.lit, noA, noS, noN, Ar.shape, Ar.cells]
theorem mo_prim (e : Nd → Bool) (u : Int → Nd → Bool) (op : Int) : moB e u (primD op) = frm op 1 19 := by
  unfold moB
  rw [if_pos (show (primD op).kind = 21 from rfl), prim_of]
theorem dy_prim (e : Nd → Bool) (u : Int → Nd → Bool) (op : Int) : dyB e u (primD op) = (frm op 21 32 || frm op 41 54) := by
  unfold dyB twoB
  rw [if_neg (by simp [primD, Nd.kind]), if_neg (by simp [primD, Nd.kind]), if_neg (by simp [primD, Nd.kind]), prim_of, prim_of]
theorem mo_with (e : Nd → Bool) (u : Int → Nd → Bool) (op : Int) : moB e u (withD 31 (primD op)) = frm op 21 32 := by
  unfold moB
  rw [if_neg (by simp [withD, Nd.kind]), if_neg (by simp [withD, Nd.kind]), if_pos (show (withD 31 (primD op)).kind = 31 ∨ (withD 31 (primD op)).kind = 32 ∨ (withD 31 (primD op)).kind = 33 ∨ (withD 31 (primD op)).kind = 34 from Or.inl rfl)]
  have h1 : bareB (withD 31 (primD op)) 1 false false false = true := by simp [bareB, bareL, withD, Nd.kids, Nd.op, Nd.name, Nd.lit, noA, noS, noN, Ar.shape, Ar.cells]
  have h2 : betB (nAt (withD 31 (primD op)).kids 0) = frm op 21 32 := by
    show betB (primD op) = _
    unfold betB
    rw [if_neg (by simp [primD, Nd.kind]), prim_of]
  rw [h1, h2]
  rfl
/-- What is made of programs that may be. -/
theorem wraps_ok {m : Nat} {op : Int} {x y : Nd} (hx : errN (m + 2) x = 0) (hy : errN (m + 2) y = 0) (hs : sizeN (m + 3) (twoD (primD op) x y) ≤ 2048) (hd : deepN (m + 3) (twoD (primD op) x y) ≤ 24) (hc : deepN (m + 3) (oneD (withD 31 (primD op)) y) ≤ 24) :
    (errN (m + 3) (oneD (primD op) x) = 0 ↔ frm op 1 19 = true) ∧ (errN (m + 3) (twoD (primD op) x y) = 0 ↔ (frm op 21 32 || frm op 41 54) = true) ∧ (errN (m + 3) (oneD (withD 31 (primD op)) y) = 0 ↔ frm op 21 32 = true) := by
  rw [err_iff] at hx hy
  simp only [gdB, Bool.and_eq_true, decide_eq_true_eq] at hx hy
  obtain ⟨⟨sx, dx⟩, ex⟩ := hx
  obtain ⟨⟨sy, dy⟩, ey⟩ := hy
  have px : 1 ≤ sizeN (m + 2) x := size_pos (m + 1) x
  have py : 1 ≤ sizeN (m + 2) y := size_pos (m + 1) y
  obtain ⟨t1, t2⟩ := two_size (m + 2) (primD op) x y
  obtain ⟨p1, p2⟩ := prim_size (m + 1) op
  obtain ⟨p3, p4⟩ := prim_size m op
  obtain ⟨o1, o2⟩ := one_size (m + 2) (primD op) x
  obtain ⟨q1, q2⟩ := one_size (m + 2) (withD 31 (primD op)) y
  obtain ⟨w1, w2⟩ := with_size (m + 1) 31 (primD op)
  have n1 := deepN_nonneg (m + 2) x
  have n2 := deepN_nonneg (m + 2) y
  rw [t1, p1] at hs
  rw [t2, p2] at hd
  refine ⟨?_, ?_, ?_⟩
  · rw [err_iff]
    simp only [gdB, one_expr, mo_prim, ex, Bool.and_eq_true, decide_eq_true_eq, o1, o2, p1, p2]
    constructor
    · rintro ⟨_, h, _⟩; exact h
    · intro h; exact ⟨⟨by omega, by omega⟩, h, trivial⟩
  · rw [err_iff]
    simp only [gdB, two_expr, dy_prim, ex, ey, Bool.and_eq_true, decide_eq_true_eq, t1, t2, p1, p2]
    constructor
    · rintro ⟨_, ⟨h, _⟩, _⟩; exact h
    · intro h; exact ⟨⟨by omega, by omega⟩, ⟨h, trivial⟩, trivial⟩
  · rw [err_iff]
    simp only [gdB, one_expr, mo_with, ey, Bool.and_eq_true, decide_eq_true_eq]
    constructor
    · rintro ⟨_, h, _⟩; exact h
    · intro h; exact ⟨⟨by rw [q1, w1, p3]; omega, hc⟩, h, trivial⟩
/-- How much it is. -/
theorem wraps_size {m : Nat} {op : Int} {x y : Nd} (hx : sizeN (m + 2) x ≤ 3000) (hy : sizeN (m + 2) y ≤ 3000) : sizeN (m + 3) (twoD (primD op) x y) ≤ 100000 ∧ sizeN (m + 3) (oneD (withD 31 (primD op)) y) ≤ 100000 := by
  obtain ⟨t1, t2⟩ := two_size (m + 2) (primD op) x y
  obtain ⟨p1, p2⟩ := prim_size (m + 1) op
  obtain ⟨p3, p4⟩ := prim_size m op
  obtain ⟨q1, q2⟩ := one_size (m + 2) (withD 31 (primD op)) y
  obtain ⟨w1, w2⟩ := with_size (m + 1) 31 (primD op)
  rw [t1, q1, w1, p1, p3]
  omega
end Go.Proofs.Ytkgpoibnilgaeaa
