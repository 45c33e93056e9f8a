/-
  The contracts of layer 5's strides and of the library's Reverse, over rows of the call's own.
-/
import Derived.Test.YtmjncdhahdpplaaLyA
namespace Go.Proofs.Ytmjncdhahdpplaa
open Go.ChangeShapes Go.WideShapes Go.ChangeAt Go.RowKit
set_option linter.unusedVariables false
set_option maxRecDepth 100000
/-- A row of numbers in a block that may be written. -/
def Soft (w : World) (b : Nat) (l : List Int) : Prop := w.rowIs b 3 l.length (fun i => .int .i64 (gI l i))
theorem Soft.row {w : World} {b lo : Nat} {l : List Int} (h : Soft w b l) (hlo : lo ≤ b) (hl : l.length ≤ 140737488355328) : Row lo w (some ⟨b, 0, none⟩) l := by
  refine ⟨hl, ?_⟩
  by_cases h0 : l = []
  · exact Or.inl h0
  · have hp : 0 < l.length := List.length_pos_iff.2 h0
    have h' := h
    obtain ⟨c, h1, -⟩ := h'
    exact Or.inr ⟨b, 0, rfl, hlo, lt_of_block h1, fun i hi => by rw [Nat.zero_add]; exact World.rowIs.cell (i := i) h hi⟩
theorem Soft.set {w : World} {b : Nat} {l : List Int} (h : Soft w b l) (k : Nat) (v : Int) : Soft (w.setCell ⟨b, k, none⟩ (.int .i64 v)) b (l.set k v) := by
  have := World.rowIs.set h k (.int .i64 v)
  unfold Soft
  rw [List.length_set]
  refine this.congr fun i hi => ?_
  by_cases hk : k < l.length
  · rw [gI_set _ _ _ _ hk]; split <;> rfl
  · have e : l.set k v = l := List.set_eq_of_length_le (by omega)
    rw [e, if_neg (by omega)]
theorem Soft.below {w w1 : World} {b : Nat} {l : List Int} (h : Soft w b l) (hb : Below w.heap.size w w1) : Soft w1 b l := by
  obtain ⟨c, h1, h2⟩ := h
  exact ⟨c, (hb.block b (lt_of_block h1)).trans h1, h2⟩
theorem Soft.lt {w : World} {b : Nat} {l : List Int} (h : Soft w b l) : b < w.heap.size := by
  obtain ⟨c, h1, h2⟩ := h
  exact lt_of_block h1
/-- The worlds in a loop that writes into two rows: nothing else has turned. -/
structure Two (W : World) (b1 b2 : Nat) (wr : World) : Prop where
  io : Below 0 W wr
  size : wr.heap.size = W.heap.size
  keep : ∀ k, k ≠ b1 → k ≠ b2 → wr.heap[k]? = W.heap[k]?
theorem Two.refl (W : World) (b1 b2 : Nat) : Two W b1 b2 W := ⟨Below.refl _ _, rfl, fun _ _ _ => rfl⟩
theorem Two.drew {W wr : World} {b1 b2 : Nat} (h : Two W b1 b2 wr) : Two W b1 b2 wr.drew := ⟨h.io.drew, h.size, h.keep⟩
theorem Two.set1 {W wr : World} {b1 b2 : Nat} (h : Two W b1 b2 wr) (i : Nat) (v : Value) : Two W b1 b2 (wr.setCell ⟨b1, i, none⟩ v) := ⟨h.io.setCell (p := ⟨b1, i, none⟩) (Nat.zero_le _) v, by simpa using h.size, fun k h1 h2 => by rw [Below.heap_setCell _ _ _ _ h1]; exact h.keep k h1 h2⟩
theorem Two.set2 {W wr : World} {b1 b2 : Nat} (h : Two W b1 b2 wr) (i : Nat) (v : Value) : Two W b1 b2 (wr.setCell ⟨b2, i, none⟩ v) := ⟨h.io.setCell (p := ⟨b2, i, none⟩) (Nat.zero_le _) v, by simpa using h.size, fun k h1 h2 => by rw [Below.heap_setCell _ _ _ _ h2]; exact h.keep k h1 h2⟩
theorem Two.cell {W wr : World} {b1 b2 : Nat} (h : Two W b1 b2 wr) {b i : Nat} {v : Value} (h1 : b ≠ b1) (h2 : b ≠ b2) (hc : W.cell? ⟨b, i, none⟩ = some v) : wr.cell? ⟨b, i, none⟩ = some v := by
  rw [World.cell?_of_block (w := W) (h.keep b h1 h2)]; exact hc
theorem Two.frozen {W wr : World} {b1 b2 : Nat} (h : Two W b1 b2 wr) {b i : Nat} (h1 : b ≠ b1) (h2 : b ≠ b2) (hc : W.frozen? ⟨b, i, none⟩ = false) : wr.frozen? ⟨b, i, none⟩ = false := by
  rw [World.frozen?_of_block (w := W) (h.keep b h1 h2)]; exact hc
theorem Two.belowB {W wr : World} {b1 b2 B : Nat} (h : Two W b1 b2 wr) (h1 : B ≤ b1) (h2 : B ≤ b2) : Below B W wr := ⟨h.io.os, h.io.tape, h.io.output, h.io.size, fun k hk => h.keep k (by omega) (by omega)⟩
theorem Two.below {W wr w : World} {b1 b2 : Nat} (h : Two W b1 b2 wr) (hb : Below w.heap.size w W) (h1 : w.heap.size ≤ b1) (h2 : w.heap.size ≤ b2) : Below w.heap.size w wr := hb.trans (h.belowB h1 h2)
theorem wrapId' {x : Int} (h1 : -9223372036854775808 ≤ x) (h2 : x ≤ 9223372036854775807) : wrap64 x = x := by unfold wrap64; omega
set_option maxHeartbeats 2000000 in
theorem strides_any {lo : Nat} (l : List Int) (a : Option Addr) (cap : Nat) (w : World) (R : Row lo w a l) (hl : l.length ≤ 8) :
    Calls Try.prog 62 #[.slice a l.length cap] w fun e w' => ∃ S : List Int, S.length = l.length ∧ ((∀ z ∈ l, 0 < z) → prodL l ≤ 16384 → S = strL l) ∧ e = .returned (.slice (some ⟨w.heap.size, 0, none⟩) l.length l.length) ∧ Soft w' w.heap.size S ∧ Below w.heap.size w w' := by
  have hrow := @row_at _ _ _ _ R
  have mk := run_make_row' (P := Try.prog) 22 3 (.int .i64 0) 8 Try.underlying22 int3 rfl .i64 .i64 l.length (by omega) (by omega)
  have rm := World.rowIs_made w (.int .i64 0) l.length 3
  have bm : Below w.heap.size w (w.alloc (.cells (madeCells #[.int .i64 0] l.length) 3)) := (Below.refl _ _).alloc (Nat.le_refl _) _
  have RM : Hid (Soft (w.alloc (.cells (madeCells #[.int .i64 0] l.length) 3)) w.heap.size (List.replicate l.length 0)) := by
    unfold Soft Hid
    rw [List.length_replicate]
    exact rm.congr fun i hi => by simp [gI, hi]
  have BM := hide bm
  clear R rm bm
  go_enter Try.func62, Try.ntmps62
  go_wp2
  clear mk
  go_loopw [4, 5] (fun st i wr => ∃ m : Nat, m ≤ l.length ∧ i = .int .i64 ((m : Int) - 1) ∧ ∃ (v : Int) (S : List Int), st = .int .i64 v ∧ S.length = l.length ∧ Soft wr w.heap.size S ∧ Below w.heap.size w wr ∧ ((∀ z ∈ l, 0 < z) → prodL l ≤ 16384 → v = prodL (l.drop m) ∧ ∀ k, m ≤ k → k < l.length → gI S k = gI (strL l) k)) (fun _ i _ => (intOf i + 1).toNat)
  case atStart =>
    exact ⟨l.length, Nat.le_refl _, by go_num, 1, _, rfl, List.length_replicate, RM.out, BM.out, fun _ _ => ⟨by simp [prodL], fun k h1 h2 => by omega⟩⟩
  case round =>
    clear BM RM
    obtain ⟨m, hm, rfl, v, S, rfl, hS, hr, hnx, hpos⟩ := hrel
    cases m with
    | zero =>
      have F : Hid (∃ S' : List Int, S'.length = l.length ∧ ((∀ z ∈ l, 0 < z) → prodL l ≤ 16384 → S' = strL l) ∧ Soft wr w.heap.size S' ∧ Below w.heap.size w wr) :=
        ⟨S, hS, fun h1 h2 => gI_ext (by rw [strL_length, hS]) fun i hi => (hpos h1 h2).2 i (Nat.zero_le _) (by omega), hr, hnx⟩
      clear hr hpos hrow
      go_wp2
      go_ret
      obtain ⟨S', f1, f2, f3, f4⟩ := F.out
      exact ⟨S', f1, f2, rfl, f3, f4⟩
    | succ m =>
      obtain ⟨b, off, ha, hb, hck⟩ := hrow (j := m) (by omega)
      subst ha
      have e1 : ((m + 1 : Nat) : Int) - 1 = (m : Int) := by omega
      rw [e1]
      have hc1 : wr.cell? ⟨b, off + m, none⟩ = some (.int .i64 (gI l m)) := (hnx.cell (p := ⟨b, off + m, none⟩) hb).trans hck
      have hz := World.rowIs.cell (i := m) hr (by omega)
      have hfz := World.rowIs.frozen hr m
      have hbw := hr.lt
      have HS := hide (hr.set m v)
      have HB := hide (hnx.setCell (p := ⟨w.heap.size, m, none⟩) (Nat.le_refl _) (.int .i64 v))
      have hc2 : (wr.setCell ⟨w.heap.size, m, none⟩ (.int .i64 v)).cell? ⟨b, off + m, none⟩ = some (.int .i64 (gI l m)) := (HB.out.cell (p := ⟨b, off + m, none⟩) hb).trans hck
      have HP : Hid ((∀ z ∈ l, 0 < z) → prodL l ≤ 16384 → wrap64 (v * gI l m) = prodL (l.drop m) ∧ ∀ k, m ≤ k → k < l.length → gI (S.set m v) k = gI (strL l) k) := by
        intro h1 h2
        obtain ⟨h3, h4⟩ := hpos h1 h2
        have e : v * gI l m = prodL (l.drop m) := by rw [drop_prod l m (by omega), h3, Int.mul_comm]
        have p1 := prodL_pos (l := l.drop m) fun z hz => h1 z (List.mem_of_mem_drop hz)
        have p2 : prodL (l.drop m) ≤ prodL l := by
          have e : prodL l = prodL (l.take m) * prodL (l.drop m) := by rw [← prodL_append, List.take_append_drop]
          have p6 := prodL_pos (l := l.take m) fun z hz => h1 z (List.mem_of_mem_take hz)
          have := Int.mul_le_mul (a := 1) (b := prodL (l.drop m)) (c := prodL (l.take m)) (d := prodL (l.drop m)) (by omega) (by omega) (by omega) (by omega)
          omega
        refine ⟨by rw [e]; exact wrapId' (by omega) (by omega), fun k h5 h6 => ?_⟩
        rw [gI_set _ _ _ _ (by omega)]
        by_cases hk : k = m
        · subst hk; rw [if_pos rfl, h3, strL_at l _ (by omega)]
        · rw [if_neg hk]; exact h4 k (by omega) h6
      have HL : Hid ((S.set m v).length = l.length) := by rw [List.length_set]; exact hS
      generalize gI l m = z at *
      generalize gI S m = y at *
      clear hr hpos hrow hck hc1
      go_wp2
      go_roundw
      case rel => exact ⟨m, by omega, by go_num, _, _, rfl, HL.out, HS.out, HB.out, HP.out⟩
      case measure => simp [intOf]
/-- A row of numbers that may be written, by its cells. -/
def SoftC (w : World) (b : Nat) (l : List Int) : Prop := ∀ i, i < l.length → w.cell? ⟨b, i, none⟩ = some (.int .i64 (gI l i)) ∧ w.frozen? ⟨b, i, none⟩ = false
theorem Soft.cells {w : World} {b : Nat} {l : List Int} (h : Soft w b l) : SoftC w b l := fun i hi => ⟨World.rowIs.cell (i := i) h hi, World.rowIs.frozen h i⟩
theorem SoftC.set {w : World} {b : Nat} {l : List Int} (h : SoftC w b l) (k : Nat) (hk : k < l.length) (v : Int) : SoftC (w.setCell ⟨b, k, none⟩ (.int .i64 v)) b (l.set k v) := by
  intro i hi
  rw [List.length_set] at hi
  obtain ⟨h1, h2⟩ := h i hi
  refine ⟨?_, by simpa using h2⟩
  rw [gI_set _ _ _ _ hk]
  by_cases hik : i = k
  · subst hik
    rw [if_pos rfl]
    exact World.cell?_setCell_same' _ _ _ (by rw [h1]; rfl)
  · rw [if_neg hik, World.cell?_setCell_other _ _ _ _ (by simp)]
    exact h1
theorem SoftC.row {w : World} {b lo : Nat} {l : List Int} (h : SoftC w b l) (hb : b < w.heap.size) (hlo : lo ≤ b) (hl : l.length ≤ 140737488355328) : Row lo w (some ⟨b, 0, none⟩) l :=
  ⟨hl, Or.inr ⟨b, 0, rfl, hlo, hb, fun i hi => by rw [Nat.zero_add]; exact (h i hi).1⟩⟩
/-- A row, turned round as far as m. -/
def revTo (l : List Int) (m : Nat) : List Int := (List.range l.length).map fun p => gI l (if p < m ∨ l.length ≤ p + m then l.length - 1 - p else p)
theorem revTo_len (l : List Int) (m : Nat) : (revTo l m).length = l.length := by simp [revTo]
theorem revTo_at (l : List Int) (m p : Nat) (hp : p < l.length) : gI (revTo l m) p = gI l (if p < m ∨ l.length ≤ p + m then l.length - 1 - p else p) := by
  conv => lhs; unfold gI revTo
  simp [hp]
theorem revTo_zero (l : List Int) : revTo l 0 = l := gI_ext (revTo_len _ _) fun i hi => by
  rw [revTo_len] at hi
  rw [revTo_at _ _ _ hi, if_neg (by omega)]
theorem revTo_end (l : List Int) (m : Nat) (h1 : 2 * m ≤ l.length + 1) (h2 : l.length ≤ 2 * m + 1) : revTo l m = l.reverse := gI_ext (by rw [revTo_len, List.length_reverse]) fun i hi => by
  rw [revTo_len] at hi
  rw [revTo_at _ _ _ hi, gI_rev _ _ hi]
  by_cases h : i < m ∨ l.length ≤ i + m
  · rw [if_pos h]
  · rw [if_neg h]; congr 1; omega
theorem revTo_step (l : List Int) (m j : Nat) (hj : j = l.length - 1 - m) (h : 2 * m + 1 < l.length) : ((revTo l m).set m (gI (revTo l m) j)).set j (gI (revTo l m) m) = revTo l (m + 1) := gI_ext (by simp [revTo_len]) fun i hi => by
  simp only [List.length_set, revTo_len] at hi
  rw [gI_set _ _ _ _ (by simp [revTo_len]; omega), gI_set _ _ _ _ (by rw [revTo_len]; omega), revTo_at _ _ _ hi, revTo_at _ _ _ hi, revTo_at _ _ j (by omega), revTo_at _ _ m (by omega), if_neg (by omega : ¬ (j < m ∨ l.length ≤ j + m)), if_neg (by omega : ¬ (m < m ∨ l.length ≤ m + m))]
  by_cases h1 : i = j
  · subst h1; rw [if_pos rfl, if_pos (by omega)]; congr 1; omega
  · rw [if_neg h1]
    by_cases h2 : i = m
    · subst h2; rw [if_pos rfl, if_pos (by omega)]; congr 1
    · rw [if_neg h2]
      by_cases h3 : i < m ∨ l.length ≤ i + m
      · rw [if_pos h3, if_pos (by omega)]
      · rw [if_neg h3, if_neg (by omega)]
theorem set_comm (l : List Int) (i j : Nat) (x y : Int) (h : i ≠ j) : (l.set i x).set j y = (l.set j y).set i x := List.set_comm _ _ h
set_option maxHeartbeats 2000000 in
theorem reverse_any (l : List Int) (b cap : Nat) (w : World) (h : SoftC w b l) (hl : l.length ≤ 8) :
    Calls Try.prog 64 #[.slice (some ⟨b, 0, none⟩) l.length cap] w fun e w' => e = .returned (.tuple #[]) ∧ SoftC w' b l.reverse ∧ Two w b b w' := by
  have H0 : Hid (SoftC w b (revTo l 0)) := by unfold Hid; rw [revTo_zero]; exact h
  clear h
  go_enter Try.func64, Try.ntmps64
  go_wp2
  go_loopw [2, 3] (fun i j wr => ∃ m : Nat, 2 * m ≤ l.length + 1 ∧ i = .int .i64 (m : Int) ∧ j = .int .i64 ((l.length : Int) - 1 - m) ∧ SoftC wr b (revTo l m) ∧ Two w b b wr) (fun i j _ => (intOf j - intOf i + 1).toNat)
  case atStart => exact ⟨0, by omega, rfl, by go_num, H0.out, Two.refl _ _ _⟩
  case round =>
    clear H0
    obtain ⟨m, hm, rfl, rfl, hr, hk⟩ := hrel
    by_cases hlt : 2 * m + 1 < l.length
    · obtain ⟨j, hj⟩ : ∃ j, j = l.length - 1 - m := ⟨_, rfl⟩
      have ej : (l.length : Int) - 1 - m = (j : Int) := by omega
      rw [ej]
      have c1 := (hr m (by rw [revTo_len]; omega)).1
      have c2 := (hr j (by rw [revTo_len]; omega)).1
      have f1 := (hr m (by rw [revTo_len]; omega)).2
      have f2 := (hr j (by rw [revTo_len]; omega)).2
      have hmj : (m : Int) < (j : Int) := by omega
      have hjl : j < l.length := by omega
      have HJ := hide hj
      have HS1 : Hid (SoftC ((wr.setCell ⟨b, m, none⟩ (.int .i64 (gI (revTo l m) j))).setCell ⟨b, j, none⟩ (.int .i64 (gI (revTo l m) m))) b (revTo l (m + 1))) := by
        unfold Hid
        rw [← revTo_step l m j hj hlt]
        exact (hr.set m (by rw [revTo_len]; omega) _).set j (by rw [List.length_set, revTo_len]; omega) _
      have HS2 : Hid (SoftC ((wr.setCell ⟨b, j, none⟩ (.int .i64 (gI (revTo l m) m))).setCell ⟨b, m, none⟩ (.int .i64 (gI (revTo l m) j))) b (revTo l (m + 1))) := by
        unfold Hid
        rw [← revTo_step l m j hj hlt, set_comm _ _ _ _ _ (by omega)]
        exact (hr.set j (by rw [revTo_len]; omega) _).set m (by rw [List.length_set, revTo_len]; omega) _
      have HK : Hid (∀ i j v u, Two w b b ((wr.setCell ⟨b, i, none⟩ v).setCell ⟨b, j, none⟩ u).drew) := fun i j v u => ((hk.set1 i v).set1 j u).drew
      clear hj ej
      generalize gI (revTo l m) j = x at *
      generalize gI (revTo l m) m = y at *
      clear hr hk
      go_wp2
      go_region
      all_goals
        go_wp2
        go_roundw
        case rel => first | exact ⟨m + 1, by omega, by go_num, by have := HJ.out; go_num, HS1.out, HK.out _ _ _ _⟩ | exact ⟨m + 1, by omega, by go_num, by have := HJ.out; go_num, HS2.out, HK.out _ _ _ _⟩
        case measure => simp [intOf]; omega
    · have HF : Hid (SoftC wr b l.reverse ∧ Two w b b wr) := ⟨by rw [← revTo_end l m hm (by omega)]; exact hr, hk⟩
      have hge : ¬ (m : Int) < (l.length : Int) - 1 - m := by omega
      clear hr hk
      go_wp2
      go_end0
      exact ⟨rfl, HF.out⟩
end Go.Proofs.Ytmjncdhahdpplaa
