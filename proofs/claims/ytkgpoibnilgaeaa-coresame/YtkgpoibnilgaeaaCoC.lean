/-
  How many nodes a program has (both), how deep its deepest lies, whether it names an argument: contracts for all programs of no more than so many nodes.
-/
import Derived.Test.YtkgpoibnilgaeaaCoB
import Derived.Deep.LoopGhost
namespace Go.Proofs.Ytkgpoibnilgaeaa
open Go.ChangeShapes Go.WideShapes Go.ChangeAt Go.RowKit
set_option linter.unusedVariables false
set_option linter.unusedSimpArgs false
/-- A part's cells and its value, in letters. -/
theorem kid_cells {m n lo : Nat} {w : World} {ks : List Nd} {ak : Option Addr} (h : KidsIn m n lo w ks ak) {j : Nat} (hj : j < ks.length) :
    ∃ b off K O S A1 L1 C1 A2 L2 C2 AK LK CK P, ak = some ⟨b, off, none⟩ ∧ b < w.heap.size ∧ ∀ wr, Below w.heap.size w wr → (wr.cell? ⟨b, off + j * 7, none⟩ = some (.int .i64 K) ∧ wr.cell? ⟨b, off + j * 7 + 1, none⟩ = some (.int .i64 O) ∧ wr.cell? ⟨b, off + j * 7 + 2, none⟩ = some (.string S) ∧ wr.cell? ⟨b, off + j * 7 + 3, none⟩ = some (.slice A1 L1 C1) ∧ wr.cell? ⟨b, off + j * 7 + 4, none⟩ = some (.slice A2 L2 C2) ∧ wr.cell? ⟨b, off + j * 7 + 5, none⟩ = some (.slice AK LK CK) ∧ wr.cell? ⟨b, off + j * 7 + 6, none⟩ = some (.int .i64 P)) ∧
      NdIn m n lo wr (nAt ks j) (.agg #[.int .i64 K, .int .i64 O, .string S, .slice A1 L1 C1, .slice A2 L2 C2, .slice AK LK CK, .int .i64 P]) := by
  obtain ⟨b, off, d1, e1, d2, e2, dk, ek, ha, hlo, hb, hw⟩ := kid_at h hj
  exact ⟨b, off, _, _, _, d1, _, e1, d2, _, e2, dk, _, ek, _, ha, hb, hw⟩
/-- A node's value, in letters. -/
theorem NdIn.letters {m n lo : Nat} {w : World} {x : Nd} {v : Value} (h : NdIn m n lo w x v) :
    ∃ m', m = m' + 1 ∧ ∃ a1 c1 a2 c2 ak ck, v = .agg #[.int .i64 x.kind, .int .i64 x.op, .string x.name, .slice a1 x.lit.shape.length c1, .slice a2 x.lit.cells.length c2, .slice ak x.kids.length ck, .int .i64 x.pos] ∧ ArIn n lo w x.lit (.agg #[.slice a1 x.lit.shape.length c1, .slice a2 x.lit.cells.length c2]) ∧ x.kids.length ≤ 1256584717421 ∧ x.name.size ≤ 140737488355328 ∧ KidsIn m' n lo w x.kids ak := h.form
/-- What the count of nodes promises. -/
def SizeC (k m : Nat) : Prop := ∀ n x lo va w, NdIn m n lo w x va → sizeN m x ≤ 4000 → Calls Try.prog k #[va] w fun e w' => e = .returned (.int .i64 (sizeN m x : Nat)) ∧ Below w.heap.size w w'
theorem kid_size {k m n lo : Nat} {w : World} {x : Nd} {ak : Option Addr} (IH : SizeC k m) (hsz : sizeN (m + 1) x ≤ 4000) (h : KidsIn m n lo w x.kids ak) (j : Nat) (hj : j < x.kids.length) :
    ∃ b off K O S A1 L1 C1 A2 L2 C2 AK LK CK P, ak = some ⟨b, off, none⟩ ∧ ∀ wr, Below w.heap.size w wr → (wr.cell? ⟨b, off + j * 7, none⟩ = some (.int .i64 K) ∧ wr.cell? ⟨b, off + j * 7 + 1, none⟩ = some (.int .i64 O) ∧ wr.cell? ⟨b, off + j * 7 + 2, none⟩ = some (.string S) ∧ wr.cell? ⟨b, off + j * 7 + 3, none⟩ = some (.slice A1 L1 C1) ∧ wr.cell? ⟨b, off + j * 7 + 4, none⟩ = some (.slice A2 L2 C2) ∧ wr.cell? ⟨b, off + j * 7 + 5, none⟩ = some (.slice AK LK CK) ∧ wr.cell? ⟨b, off + j * 7 + 6, none⟩ = some (.int .i64 P)) ∧
      Calls Try.prog k #[.agg #[.int .i64 K, .int .i64 O, .string S, .slice A1 L1 C1, .slice A2 L2 C2, .slice AK LK CK, .int .i64 P]] wr fun e w' => e = .returned (.int .i64 (sizeN m (nAt x.kids j) : Nat)) ∧ Below wr.heap.size wr w' := by
  obtain ⟨b, off, K, O, S, A1, L1, C1, A2, L2, C2, AK, LK, CK, P, ha, hb, hw⟩ := kid_cells h hj
  refine ⟨b, off, K, O, S, A1, L1, C1, A2, L2, C2, AK, LK, CK, P, ha, fun wr hwr => ⟨(hw wr hwr).1, IH n _ lo _ wr (hw wr hwr).2 ?_⟩⟩
  have := size_kid (m := m) hj
  omega

set_option maxHeartbeats 2000000 in
theorem size13 (m : Nat) : SizeC 13 m := by
  induction m with
  | zero => intro n x lo va w hx; exact hx.elim
  | succ m IH =>
  intro n x lo va w hx hsz
  obtain ⟨m', hm', a1, c1, a2, c2, ak, ck, rfl, hA, hl, hs, hK⟩ := hx.letters
  obtain rfl : m = m' := by omega
  have HKS := hide (kid_size IH hsz hK)
  have hsum := hsz
  simp only [sizeN] at hsum ⊢
  generalize hF : (fun i => sizeN m (nAt x.kids i)) = F at hsum ⊢
  have HF : Hid (∀ j, sizeN m (nAt x.kids j) = F j) := fun j => by rw [← hF]
  clear hF IH hK hA hm' hs hsz
  have HU : Hid (∀ j, j < x.kids.length → sumUp F (j + 1) = sumUp F j + F j ∧ sumUp F j + F j ≤ sumUp F x.kids.length) := fun j hj => ⟨rfl, sumUp_one hj⟩
  generalize x.kids.length = L at *
  generalize x.kind = K0 at *
  generalize x.op = O0 at *
  generalize x.name = S0 at *
  generalize x.pos = P0 at *
  generalize x.lit.shape.length = L10 at *
  generalize x.lit.cells.length = L20 at *
  have hb0 := one_alloc w (.cells #[.int .i64 K0, .int .i64 O0, .string S0, .slice a1 L10 c1, .slice a2 L20 c2, .slice ak L ck, .int .i64 P0] 28)
  have q5 := cell_new0 w #[.int .i64 K0, .int .i64 O0, .string S0, .slice a1 L10 c1, .slice a2 L20 c2, .slice ak L ck, .int .i64 P0] 28 5 _ rfl
  have HQ := hide (And.intro hb0 (And.intro q5 (show w.heap.size < (w.alloc (.cells #[.int .i64 K0, .int .i64 O0, .string S0, .slice a1 L10 c1, .slice a2 L20 c2, .slice ak L ck, .int .i64 P0] 28)).heap.size by simp)))
  clear hb0 q5
  go_enter Try.func13, Try.ntmps13
  go_wp2
  go_loopg [3, 4] L (fun g nv i wr => ∃ (j : Nat), g + j = L ∧ i = .int .i64 (j : Int) ∧ nv = .int .i64 ((1 + sumUp F j : Nat) : Int) ∧ Below w.heap.size w wr ∧ wr.cell? ⟨w.heap.size, 5, none⟩ = some (.slice ak L ck) ∧ w.heap.size < wr.heap.size)
  case atStart => exact ⟨0, rfl, rfl, rfl, HQ.out.1, HQ.out.2.1, HQ.out.2.2⟩
  case round =>
    clear HQ
    obtain ⟨j, hj, rfl, rfl, hnx, hcl, hsz⟩ := hrel
    have HSZ := hide hsz
    clear hsz
    by_cases hlt : j < L
    · obtain ⟨hu1, hu2⟩ := HU.out j hlt
      have HU1 := hide hu1
      obtain ⟨b, off, K, O, S, A1, L1, C1, A2, L2, C2, AK, LK, CK, P, rfl, hw⟩ := HKS.out j hlt
      obtain ⟨⟨g0, g1, g2, g3, g4, g5, g6⟩, C⟩ := hw _ hnx
      rw [HF.out j] at C
      have HC := hide C
      clear C hw HKS HF hu1
      generalize F j = FJ at *
      generalize sumUp F j = SJ at *
      go_wp2_with fail
      refine HC.out.mono ?_
      rintro e w1 ⟨rfl, hb1⟩
      clear HC
      go_wp2
      go_roundg (L - (j + 1))
      case rel => exact ⟨j + 1, by omega, by go_num, by rw [HU1.out]; go_num, hnx.trans (hb1.mono hnx.size), (hb1.cell (p := ⟨w.heap.size, 5, none⟩) HSZ.out).trans hcl, Nat.lt_of_lt_of_le HSZ.out hb1.size⟩
      case measure => omega
    · have hje : j = L := by omega
      subst hje
      clear HU HKS
      go_wp2
      go_ret
      exact ⟨rfl, hnx⟩

set_option maxHeartbeats 2000000 in
theorem size12 (m : Nat) : SizeC 12 m := by
  induction m with
  | zero => intro n x lo va w hx; exact hx.elim
  | succ m IH =>
  intro n x lo va w hx hsz
  obtain ⟨m', hm', a1, c1, a2, c2, ak, ck, rfl, hA, hl, hs, hK⟩ := hx.letters
  obtain rfl : m = m' := by omega
  have HKS := hide (kid_size IH hsz hK)
  have hsum := hsz
  simp only [sizeN] at hsum ⊢
  generalize hF : (fun i => sizeN m (nAt x.kids i)) = F at hsum ⊢
  have HF : Hid (∀ j, sizeN m (nAt x.kids j) = F j) := fun j => by rw [← hF]
  clear hF IH hK hA hm' hs hsz
  have HU : Hid (∀ j, j < x.kids.length → sumUp F (j + 1) = sumUp F j + F j ∧ sumUp F j + F j ≤ sumUp F x.kids.length) := fun j hj => ⟨rfl, sumUp_one hj⟩
  generalize x.kids.length = L at *
  generalize x.kind = K0 at *
  generalize x.op = O0 at *
  generalize x.name = S0 at *
  generalize x.pos = P0 at *
  generalize x.lit.shape.length = L10 at *
  generalize x.lit.cells.length = L20 at *
  have hb0 := one_alloc w (.cells #[.int .i64 K0, .int .i64 O0, .string S0, .slice a1 L10 c1, .slice a2 L20 c2, .slice ak L ck, .int .i64 P0] 28)
  have q5 := cell_new0 w #[.int .i64 K0, .int .i64 O0, .string S0, .slice a1 L10 c1, .slice a2 L20 c2, .slice ak L ck, .int .i64 P0] 28 5 _ rfl
  have HQ := hide (And.intro hb0 (And.intro q5 (show w.heap.size < (w.alloc (.cells #[.int .i64 K0, .int .i64 O0, .string S0, .slice a1 L10 c1, .slice a2 L20 c2, .slice ak L ck, .int .i64 P0] 28)).heap.size by simp)))
  clear hb0 q5
  go_enter Try.func12, Try.ntmps12
  go_wp2
  go_loopg [3, 9] L (fun g nv i wr => ∃ (j : Nat), g + j = L ∧ i = .int .i64 (j : Int) ∧ nv = .int .i64 ((1 + sumUp F j : Nat) : Int) ∧ Below w.heap.size w wr)
  case atStart => exact ⟨0, rfl, rfl, rfl, HQ.out.1⟩
  case round =>
    clear HQ
    obtain ⟨j, hj, rfl, rfl, hnx⟩ := hrel
    by_cases hlt : j < L
    · obtain ⟨hu1, hu2⟩ := HU.out j hlt
      have HU1 := hide hu1
      obtain ⟨b, off, K, O, S, A1, L1, C1, A2, L2, C2, AK, LK, CK, P, rfl, hw⟩ := HKS.out j hlt
      obtain ⟨⟨g0, g1, g2, g3, g4, g5, g6⟩, -⟩ := hw wr hnx
      have hb2 : Below w.heap.size w (wr.alloc (.cells #[.int .i64 K, .int .i64 O, .string S, .slice A1 L1 C1, .slice A2 L2 C2, .slice AK LK CK, .int .i64 P] 28)) := hnx.alloc hnx.size _
      obtain ⟨-, C⟩ := hw _ hb2
      have HB2 := hide hb2
      rw [HF.out j] at C
      have HC := hide C
      clear C hw HKS HF hu1 hb2
      generalize F j = FJ at *
      generalize sumUp F j = SJ at *
      go_wp2_with fail
      refine HC.out.mono ?_
      rintro e w1 ⟨rfl, hb1⟩
      clear HC
      go_wp2
      go_roundg (L - (j + 1))
      case rel => exact ⟨j + 1, by omega, by go_num, by rw [HU1.out]; go_num, HB2.out.trans (hb1.mono HB2.out.size)⟩
      case measure => omega
    · have hje : j = L := by omega
      subst hje
      clear HU HKS
      go_wp2
      go_ret
      exact ⟨rfl, hnx⟩

/-- What the reckoning of the depth promises. -/
def DeepNC (m : Nat) : Prop := ∀ n x lo va w, NdIn m n lo w x va → sizeN m x ≤ 4000 → Calls Try.prog 28 #[va] w fun e w' => e = .returned (.int .i64 (deepN m x)) ∧ Below w.heap.size w w'
theorem kid_deep {m n lo : Nat} {w : World} {x : Nd} {ak : Option Addr} (IH : DeepNC m) (hsz : sizeN (m + 1) x ≤ 4000) (h : KidsIn m n lo w x.kids ak) (j : Nat) (hj : j < x.kids.length) :
    ∃ b off K O S A1 L1 C1 A2 L2 C2 AK LK CK P, ak = some ⟨b, off, none⟩ ∧ ∀ wr, Below w.heap.size w wr → (wr.cell? ⟨b, off + j * 7, none⟩ = some (.int .i64 K) ∧ wr.cell? ⟨b, off + j * 7 + 1, none⟩ = some (.int .i64 O) ∧ wr.cell? ⟨b, off + j * 7 + 2, none⟩ = some (.string S) ∧ wr.cell? ⟨b, off + j * 7 + 3, none⟩ = some (.slice A1 L1 C1) ∧ wr.cell? ⟨b, off + j * 7 + 4, none⟩ = some (.slice A2 L2 C2) ∧ wr.cell? ⟨b, off + j * 7 + 5, none⟩ = some (.slice AK LK CK) ∧ wr.cell? ⟨b, off + j * 7 + 6, none⟩ = some (.int .i64 P)) ∧
      Calls Try.prog 28 #[.agg #[.int .i64 K, .int .i64 O, .string S, .slice A1 L1 C1, .slice A2 L2 C2, .slice AK LK CK, .int .i64 P]] wr fun e w' => e = .returned (.int .i64 (deepN m (nAt x.kids j))) ∧ Below wr.heap.size wr w' := by
  obtain ⟨b, off, K, O, S, A1, L1, C1, A2, L2, C2, AK, LK, CK, P, ha, hb, hw⟩ := kid_cells h hj
  refine ⟨b, off, K, O, S, A1, L1, C1, A2, L2, C2, AK, LK, CK, P, ha, fun wr hwr => ⟨(hw wr hwr).1, IH n _ lo _ wr (hw wr hwr).2 ?_⟩⟩
  have := size_kid (m := m) hj
  omega

set_option maxHeartbeats 2000000 in
theorem deep28 (m : Nat) : DeepNC m := by
  induction m with
  | zero => intro n x lo va w hx; exact hx.elim
  | succ m IH =>
  intro n x lo va w hx hsz
  obtain ⟨m', hm', a1, c1, a2, c2, ak, ck, rfl, hA, hl, hs, hK⟩ := hx.letters
  obtain rfl : m = m' := by omega
  have HKS := hide (kid_deep IH hsz hK)
  have hbig : maxUp (fun i => 1 + deepN m (nAt x.kids i)) x.kids.length ≤ 4000 := Int.le_trans (deepN_size (m + 1) x) (by omega)
  have hmaxs : ∀ j, j < x.kids.length → 0 ≤ deepN m (nAt x.kids j) ∧ 1 + deepN m (nAt x.kids j) ≤ 4000 := fun j hj => ⟨deepN_nonneg _ _, Int.le_trans (maxUp_at (f := fun i => 1 + deepN m (nAt x.kids i)) hj) hbig⟩
  simp only [deepN]
  generalize hF : (fun i => 1 + deepN m (nAt x.kids i)) = F at hbig ⊢
  have HF : Hid (∀ j, 1 + deepN m (nAt x.kids j) = F j) := fun j => by rw [← hF]
  have HMX := hide hmaxs
  clear hmaxs
  clear hF IH hK hA hm' hs hsz
  have HU : Hid (∀ j, maxUp F (j + 1) = max (maxUp F j) (F j)) := fun j => rfl
  have HU0 : Hid (∀ j, 0 ≤ maxUp F j) := fun j => maxUp_nonneg F j
  generalize x.kids.length = L at *
  generalize x.kind = K0 at *
  generalize x.op = O0 at *
  generalize x.name = S0 at *
  generalize x.pos = P0 at *
  generalize x.lit.shape.length = L10 at *
  generalize x.lit.cells.length = L20 at *
  have hb0 := one_alloc w (.cells #[.int .i64 K0, .int .i64 O0, .string S0, .slice a1 L10 c1, .slice a2 L20 c2, .slice ak L ck, .int .i64 P0] 28)
  have q5 := cell_new0 w #[.int .i64 K0, .int .i64 O0, .string S0, .slice a1 L10 c1, .slice a2 L20 c2, .slice ak L ck, .int .i64 P0] 28 5 _ rfl
  have HQ := hide (And.intro hb0 (And.intro q5 (show w.heap.size < (w.alloc (.cells #[.int .i64 K0, .int .i64 O0, .string S0, .slice a1 L10 c1, .slice a2 L20 c2, .slice ak L ck, .int .i64 P0] 28)).heap.size by simp)))
  clear hb0 q5
  go_enter Try.func28, Try.ntmps28
  go_wp2
  go_loopg [3, 4] L (fun g nv i wr => ∃ (j : Nat), g + j = L ∧ i = .int .i64 (j : Int) ∧ nv = .int .i64 (maxUp F j) ∧ Below w.heap.size w wr ∧ wr.cell? ⟨w.heap.size, 5, none⟩ = some (.slice ak L ck) ∧ w.heap.size < wr.heap.size)
  case atStart => exact ⟨0, rfl, rfl, rfl, HQ.out.1, HQ.out.2.1, HQ.out.2.2⟩
  case round =>
    clear HQ
    obtain ⟨j, hj, rfl, rfl, hnx, hcl, hsz⟩ := hrel
    have HSZ := hide hsz
    clear hsz
    by_cases hlt : j < L
    · obtain ⟨hd0, hd1⟩ := HMX.out j hlt
      have h0 := HU0.out j
      have hFJ := HF.out j
      obtain ⟨b, off, K, O, S, A1, L1, C1, A2, L2, C2, AK, LK, CK, P, rfl, hw⟩ := HKS.out j hlt
      obtain ⟨⟨g0, g1, g2, g3, g4, g5, g6⟩, C⟩ := hw _ hnx
      have HC := hide C
      have HU1 := hide (HU.out j)
      clear C hw HKS HF HU HU0 HMX
      generalize deepN m (nAt x.kids j) = DJ at *
      have HFJ := hide hFJ
      clear hFJ
      generalize F j = FJ at *
      generalize maxUp F j = SJ at *
      by_cases hgt : SJ < 1 + DJ
      · go_wp2_with fail
        refine HC.out.mono ?_
        rintro e w1 ⟨rfl, hb1⟩
        clear HC
        go_wp2
        go_roundg (L - (j + 1))
        case rel => exact ⟨j + 1, by omega, by go_num, by rw [HU1.out, ← HFJ.out]; congr 1; omega, hnx.trans (hb1.mono hnx.size), (hb1.cell (p := ⟨w.heap.size, 5, none⟩) HSZ.out).trans hcl, Nat.lt_of_lt_of_le HSZ.out hb1.size⟩
        case measure => omega
      · go_wp2_with fail
        refine HC.out.mono ?_
        rintro e w1 ⟨rfl, hb1⟩
        clear HC
        go_wp2
        go_roundg (L - (j + 1))
        case rel => exact ⟨j + 1, by omega, by go_num, by rw [HU1.out, ← HFJ.out]; congr 1; omega, hnx.trans (hb1.mono hnx.size), (hb1.cell (p := ⟨w.heap.size, 5, none⟩) HSZ.out).trans hcl, Nat.lt_of_lt_of_le HSZ.out hb1.size⟩
        case measure => omega
    · have hje : j = L := by omega
      subst hje
      clear HU HU0 HMX HKS
      go_wp2
      go_ret
      exact ⟨rfl, hnx⟩

/-- What the look for an argument's name promises. -/
def UsesC (m : Nat) : Prop := ∀ (T : Int) n x lo va w, NdIn m n lo w x va → Calls Try.prog 83 #[va, .int .i64 T] w fun e w' => e = .returned (.bool (usesN m T x)) ∧ Below w.heap.size w w'
theorem kid_uses {m n lo : Nat} {w : World} {x : Nd} {ak : Option Addr} (IH : UsesC m) (T : Int) (h : KidsIn m n lo w x.kids ak) (j : Nat) (hj : j < x.kids.length) :
    ∃ b off K O S A1 L1 C1 A2 L2 C2 AK LK CK P, ak = some ⟨b, off, none⟩ ∧ ∀ wr, Below w.heap.size w wr → (wr.cell? ⟨b, off + j * 7, none⟩ = some (.int .i64 K) ∧ wr.cell? ⟨b, off + j * 7 + 1, none⟩ = some (.int .i64 O) ∧ wr.cell? ⟨b, off + j * 7 + 2, none⟩ = some (.string S) ∧ wr.cell? ⟨b, off + j * 7 + 3, none⟩ = some (.slice A1 L1 C1) ∧ wr.cell? ⟨b, off + j * 7 + 4, none⟩ = some (.slice A2 L2 C2) ∧ wr.cell? ⟨b, off + j * 7 + 5, none⟩ = some (.slice AK LK CK) ∧ wr.cell? ⟨b, off + j * 7 + 6, none⟩ = some (.int .i64 P)) ∧
      Calls Try.prog 83 #[.agg #[.int .i64 K, .int .i64 O, .string S, .slice A1 L1 C1, .slice A2 L2 C2, .slice AK LK CK, .int .i64 P], .int .i64 T] wr fun e w' => e = .returned (.bool (usesN m T (nAt x.kids j))) ∧ Below wr.heap.size wr w' := by
  obtain ⟨b, off, K, O, S, A1, L1, C1, A2, L2, C2, AK, LK, CK, P, ha, hb, hw⟩ := kid_cells h hj
  refine ⟨b, off, K, O, S, A1, L1, C1, A2, L2, C2, AK, LK, CK, P, ha, fun wr hwr => ⟨(hw wr hwr).1, IH T n _ lo _ wr (hw wr hwr).2⟩⟩

set_option maxHeartbeats 2000000 in
theorem uses83 (m : Nat) : UsesC m := by
  induction m with
  | zero => intro T n x lo va w hx; exact hx.elim
  | succ m IH =>
  intro T n x lo va w hx
  obtain ⟨m', hm', a1, c1, a2, c2, ak, ck, rfl, hA, hl, hs, hK⟩ := hx.letters
  obtain rfl : m = m' := by omega
  have HKS := hide (kid_uses IH T hK)
  simp only [usesN]
  generalize hF : (fun i => usesN m T (nAt x.kids i)) = F
  have HF : Hid (∀ j, usesN m T (nAt x.kids j) = F j) := fun j => by rw [← hF]
  clear hF IH hK hA hm' hs
  have HHIT : Hid (∀ j, j < x.kids.length → F j = true → anyUp F x.kids.length = true) := fun j hj h => anyUp_hit hj h
  have HNO : Hid ((∀ j, j < x.kids.length → F j = false) → anyUp F x.kids.length = false) := fun h => anyUp_none.2 h
  generalize x.kids.length = L at *
  generalize x.kind = K0 at *
  generalize x.op = O0 at *
  generalize x.name = S0 at *
  generalize x.pos = P0 at *
  generalize x.lit.shape.length = L10 at *
  generalize x.lit.cells.length = L20 at *
  have hb0 := one_alloc w (.cells #[.int .i64 K0, .int .i64 O0, .string S0, .slice a1 L10 c1, .slice a2 L20 c2, .slice ak L ck, .int .i64 P0] 28)
  have q5 := cell_new0 w #[.int .i64 K0, .int .i64 O0, .string S0, .slice a1 L10 c1, .slice a2 L20 c2, .slice ak L ck, .int .i64 P0] 28 5 _ rfl
  have HQ := hide (And.intro hb0 (And.intro q5 (show w.heap.size < (w.alloc (.cells #[.int .i64 K0, .int .i64 O0, .string S0, .slice a1 L10 c1, .slice a2 L20 c2, .slice ak L ck, .int .i64 P0] 28)).heap.size by simp)))
  clear hb0 q5
  have q0 := cell_new0 w #[.int .i64 K0, .int .i64 O0, .string S0, .slice a1 L10 c1, .slice a2 L20 c2, .slice ak L ck, .int .i64 P0] 28 0 _ rfl
  generalize anyUp F L = Z at *
  by_cases e1 : K0 = T
  · subst e1
    simp only [if_true]
    go_enter Try.func83, Try.ntmps83
    go_wp2
    go_ret
    exact ⟨rfl, HQ.out.1⟩
  rw [if_neg e1]
  by_cases e2 : K0 = 22
  · subst e2
    simp only [true_or, if_true]
    go_enter Try.func83, Try.ntmps83
    go_wp2
    go_ret
    exact ⟨rfl, HQ.out.1⟩
  by_cases e3 : K0 = 23
  · subst e3
    simp only [or_true, if_true]
    go_enter Try.func83, Try.ntmps83
    go_wp2
    go_ret
    exact ⟨rfl, HQ.out.1⟩
  rw [if_neg (fun h => h.elim e2 e3)]
  have e1' : (K0 == T) = false := by simp [e1]
  have e2' : (K0 == 22) = false := by simp [e2]
  have e3' : (K0 == 23) = false := by simp [e3]
  go_enter Try.func83, Try.ntmps83
  go_wp2
  go_loopg [5] L (fun g i wr => ∃ (j : Nat), g + j = L ∧ i = .int .i64 (j : Int) ∧ (∀ i, i < j → F i = false) ∧ Below w.heap.size w wr ∧ wr.cell? ⟨w.heap.size, 5, none⟩ = some (.slice ak L ck) ∧ w.heap.size < wr.heap.size)
  case atStart => exact ⟨0, rfl, rfl, (by intro i hi; omega), HQ.out.1, HQ.out.2.1, HQ.out.2.2⟩
  case round =>
    clear HQ
    clear q0
    obtain ⟨j, hj, rfl, hno, hnx, hcl, hsz⟩ := hrel
    have HN := hide hno
    clear hno
    have HSZ := hide hsz
    clear hsz
    by_cases hlt : j < L
    · obtain ⟨b, off, K, O, S, A1, L1, C1, A2, L2, C2, AK, LK, CK, P, rfl, hw⟩ := HKS.out j hlt
      obtain ⟨⟨g0, g1, g2, g3, g4, g5, g6⟩, C⟩ := hw _ hnx
      rw [HF.out j] at C
      have HC := hide C
      clear C hw HKS HF
      cases hFJ : F j with
      | true =>
        rw [hFJ] at HC
        have HZ := hide (HHIT.out j hlt hFJ)
        clear hFJ HHIT HNO HN
        go_wp2_with fail
        refine HC.out.mono ?_
        rintro e w1 ⟨rfl, hb1⟩
        clear HC
        go_wp2
        go_ret
        exact ⟨retB HZ.out.symm, hnx.trans (hb1.mono hnx.size)⟩
      | false =>
        rw [hFJ] at HC
        have HFJ := hide hFJ
        clear hFJ HHIT HNO
        go_wp2_with fail
        refine HC.out.mono ?_
        rintro e w1 ⟨rfl, hb1⟩
        clear HC
        go_wp2
        go_roundg (L - (j + 1))
        case rel =>
          refine ⟨j + 1, by omega, by go_num, fun i hi => ?_, hnx.trans (hb1.mono hnx.size), (hb1.cell (p := ⟨w.heap.size, 5, none⟩) HSZ.out).trans hcl, Nat.lt_of_lt_of_le HSZ.out hb1.size⟩
          rcases Nat.lt_succ_iff_lt_or_eq.1 hi with hi | rfl
          · exact HN.out i hi
          · exact HFJ.out
        case measure => omega
    · have hje : j = L := by omega
      subst hje
      have HZ := hide (HNO.out HN.out)
      clear HKS HHIT HNO HN HF
      go_wp2
      go_ret
      exact ⟨retB HZ.out.symm, hnx⟩
end Go.Proofs.Ytkgpoibnilgaeaa
