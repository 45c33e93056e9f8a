/-
  The contract of the chapter's Sum (the reference): the sum of the numbers if it fits, else 0 and ErrOverflow; nothing that was there is changed; conditions: the numbers fit int64, and there are fewer than 2^31 of them.
-/
import Derived.Test.YtkigfmfegldhcaaDoorNumE
namespace Go.Proofs.YtkigfmfegldhcaaDoor.Num
open Go.ChangeShapes Go.WideShapes Go.ChangeAt Go.RowKit
theorem ret_agg {a b c d : Int} (h : a = b) (h' : c = d) : Ending.returned (.agg #[.int .i64 a, .int .i64 c]) = .returned (.agg #[.int .i64 b, .int .i64 d]) := by rw [h, h']
theorem wide_any (a : Int) (h1 : -9223372036854775808 ≤ a) (h2 : a < 0) (w : World) :
    Calls Tryd.prog 79 #[.int .i64 a] w fun e w' => e = .returned (.agg #[.int .i64 (a / 4294967296), .int .i64 (a % 4294967296)]) ∧ Below w.heap.size w w' := by
  have hb : -4294967296 < a.tmod 4294967296 := Int.lt_tmod_of_pos a (by decide)
  have ht := Int.tmod_eq_emod (a := a) (b := 4294967296)
  have HD : Hid ((a - a % 4294967296).tdiv 4294967296 = a / 4294967296) := by
    show (a - a % 4294967296).tdiv 4294967296 = a / 4294967296
    have : a - a % 4294967296 = 4294967296 * (a / 4294967296) := by omega
    rw [this, Int.mul_tdiv_cancel_left _ (by decide)]
  by_cases h : a.tmod 4294967296 < 0
  · have e1 : a.tmod 4294967296 + 4294967296 = a % 4294967296 := by split at ht <;> omega
    clear ht
    go_enter Tryd.func79, Tryd.ntmps79
    go_wp2
    exact bodyPost_ret (v := .agg #[.int .i64 ((a - a % 4294967296).tdiv 4294967296), .int .i64 (a % 4294967296)]) (by simp [results, Tryd.results79, go_sem]) rfl ⟨ret_agg HD.out rfl, (Below.refl _ _).alloc (Nat.le_refl _) _⟩
  · have e1 : a.tmod 4294967296 = a % 4294967296 := by split at ht <;> omega
    clear ht
    go_enter Tryd.func79, Tryd.ntmps79
    go_wp2
    exact bodyPost_ret (v := .agg #[.int .i64 ((a - a % 4294967296).tdiv 4294967296), .int .i64 (a % 4294967296)]) (by simp [results, Tryd.results79, go_sem]) rfl ⟨ret_agg HD.out rfl, (Below.refl _ _).alloc (Nat.le_refl _) _⟩
theorem bcell {W w1 : World} (hb : Below W.heap.size W w1) : (∀ b o, b < W.heap.size → w1.cell? ⟨b, o, none⟩ = W.cell? ⟨b, o, none⟩) ∧ (∀ b o, b < W.heap.size → w1.frozen? ⟨b, o, none⟩ = W.frozen? ⟨b, o, none⟩) :=
  ⟨fun b o h => hb.cell (p := ⟨b, o, none⟩) h, fun b o h => hb.frozen (p := ⟨b, o, none⟩) h⟩
set_option maxHeartbeats 400000 in
theorem wide0_any (a : Int) (ha : In64 a) (w : World) :
    Calls Tryd.prog 75 #[.int .i64 a] w fun e w' => e = .returned (.agg #[.int .i64 (a / 4294967296), .int .i64 (a % 4294967296)]) ∧ Below w.heap.size w w' := by
  obtain ⟨h1, h2⟩ := ha
  by_cases h : 0 ≤ a
  · go_enter Tryd.func75, Tryd.ntmps75
    go_wp2
    exact bodyPost_ret (v := .agg #[.int .i64 (a / 4294967296), .int .i64 (a % 4294967296)]) (by simp [results, Tryd.results75, go_sem]) rfl ⟨rfl, (Below.refl _ _).alloc (Nat.le_refl _) _⟩
  · by_cases hm : a = -9223372036854775808
    · subst hm
      go_enter Tryd.func75, Tryd.ntmps75
      go_wp2
      exact bodyPost_ret (v := .agg #[.int .i64 (-2147483648), .int .i64 0]) (by simp [results, Tryd.results75, go_sem]) rfl ⟨rfl, (Below.refl _ _).alloc (Nat.le_refl _) _⟩
    · go_enter Tryd.func75, Tryd.ntmps75
      go_wp2_with (go_at_call 79; refine (wide_any _ h1 (by omega) _).mono ?_; rintro e w' ⟨rfl, hbel⟩; obtain ⟨hc, hf⟩ := bcell hbel)
      refine bodyPost_ret (v := .agg #[.int .i64 (a / 4294967296), .int .i64 (a % 4294967296)]) (by simp [results, Tryd.results75, go_sem, hc]) rfl ⟨rfl, ?_⟩
      exact ((((Below.refl _ _).alloc (Nat.le_refl _) _).trans (hbel.mono (by simp))).setCell (by simp) _).setCell (by simp) _
theorem fits_any (hi lo : Int) (h1 : 0 ≤ lo) (h2 : lo < 4294967296) (h3 : -4611686018427387904 ≤ hi ∧ hi ≤ 4611686018427387904) (w : World) :
    Calls Tryd.prog 76 #[.agg #[.int .i64 hi, .int .i64 lo]] w fun e w' => e = .returned (.tuple #[.int .i64 (resV (hi * 4294967296 + lo)), .int .i64 (resE (hi * 4294967296 + lo))]) ∧ Below w.heap.size w w' := by
  by_cases a : hi < -2147483648
  · have f := fit_out (x := hi * 4294967296 + lo) (by omega)
    rw [f.1, f.2]
    go_enter Tryd.func76, Tryd.ntmps76
    go_wp2
    go_ret2
    exact ⟨rfl, (Below.refl _ _).alloc (Nat.le_refl _) _⟩
  · by_cases b : 2147483647 < hi
    · have f := fit_out (x := hi * 4294967296 + lo) (by omega)
      rw [f.1, f.2]
      go_enter Tryd.func76, Tryd.ntmps76
      go_wp2
      go_ret2
      exact ⟨rfl, (Below.refl _ _).alloc (Nat.le_refl _) _⟩
    · have f := fit_in (x := hi * 4294967296 + lo) (by omega) (by omega)
      rw [f.1, f.2]
      go_enter Tryd.func76, Tryd.ntmps76
      go_wp2
      go_ret2
      exact ⟨rfl, (Below.refl _ _).alloc (Nat.le_refl _) _⟩

set_option maxHeartbeats 1000000 in
theorem rsum_any (zs : List Int) (a : Option Addr) (cap : Nat) (w : World) (h : Row w a zs) (hl : zs.length ≤ 2147483647) :
    Calls Tryd.prog 59 #[.slice a zs.length cap] w fun e w' => e = .returned (.tuple #[.int .i64 (resV zs.sum), .int .i64 (resE zs.sum)]) ∧ Below w.heap.size w w' := by
  have hrow := @row_at _ _ _ h
  have hin := row_in h
  clear h
  go_enter Tryd.func59, Tryd.ntmps59
  go_wp2
  go_loopw [5] (fun i wr => ∃ k : Nat, ∃ hi lo : Int, k ≤ zs.length ∧ i = .int .i64 k ∧ wr.cell? ⟨w.heap.size, 0, none⟩ = some (.int .i64 hi) ∧ wr.cell? ⟨w.heap.size, 1, none⟩ = some (.int .i64 lo) ∧ wr.frozen? ⟨w.heap.size, 0, none⟩ = false ∧ wr.frozen? ⟨w.heap.size, 1, none⟩ = false ∧ Below w.heap.size w wr ∧ w.heap.size < wr.heap.size ∧ 0 ≤ lo ∧ lo ≤ k * 4294967295 ∧ -(k * 2147483648) ≤ hi ∧ hi ≤ k * 2147483648 ∧ hi * 4294967296 + lo = (zs.take k).sum) (fun i _ => zs.length - (intOf i).toNat)
  case atStart => exact ⟨0, 0, 0, Nat.zero_le _, rfl, by simp, by simp, by simp, by simp, (Below.refl _ _).alloc (Nat.le_refl _) _, by simp, by omega, by omega, by omega, by omega, by simp⟩
  case round =>
    obtain ⟨k, hi, lo, hk, rfl, hc0, hc1, hf0, hf1, hbel, hsz, hlo1, hlo2, hhi1, hhi2, hS⟩ := hrel
    by_cases hlt : k < zs.length
    · obtain ⟨b, off, ha, hb, hck⟩ := hrow hlt
      subst ha
      have hz := hin k
      have HS := (show Hid _ from take_sum zs k hlt)
      have HT := (show Hid _ from hS)
      generalize hzz : zs[k]?.getD 0 = z at *
      clear hrow hin hS hzz
      have hckr : wr.cell? ⟨b, off + k, none⟩ = some (.int .i64 z) := (hbel.cell (p := ⟨b, off + k, none⟩) hb).trans hck
      have hz' := hz
      obtain ⟨hz1, hz2⟩ := hz'
      clear hck
      go_wp2_with (go_at_call 75; refine (wide0_any _ hz _).mono ?_; rintro e w1 ⟨rfl, hb1⟩; obtain ⟨hc, hf⟩ := bcell hb1; have hc0' := (hc w.heap.size 0 hsz).trans hc0; have hc1' := (hc w.heap.size 1 hsz).trans hc1; have hf0' := (hf w.heap.size 0 hsz).trans hf0; have hf1' := (hf w.heap.size 1 hsz).trans hf1; have hsz1 : w.heap.size < w1.heap.size := Nat.lt_of_lt_of_le hsz hb1.size; clear hc hf hc0 hc1 hf0 hf1 hckr)
      have hbW : Below w.heap.size w w1 := hbel.trans (hb1.mono (by omega))
      have hzd : z / 4294967296 * 4294967296 + z % 4294967296 = z := by omega
      go_roundw
      case rel =>
        refine ⟨k + 1, hi + z / 4294967296, lo + z % 4294967296, by omega, by go_num, by go_simp, by go_simp, by go_simp, by go_simp, ?_, by simp; omega, by omega, by omega, by omega, by omega, ?_⟩
        · exact ((hbW.setCell (by simp) _).setCell (by simp) _).alloc (by simp; omega) _
        · rw [HS.out, ← HT.out]; omega
      case measure => simp [intOf]; omega
    · have hke : k = zs.length := by omega
      subst hke
      have HT : Hid (hi * 4294967296 + lo = zs.sum) := by rw [List.take_length] at hS; exact hS
      clear hS hrow hin
      go_wp2_with (go_at_call 76; refine (fits_any _ _ (by omega) (by omega) (by omega) _).mono ?_; rintro e w1 ⟨rfl, hb1⟩)
      have HE : (hi + lo / 4294967296) * 4294967296 + lo % 4294967296 = zs.sum := by have := HT.out; omega
      go_ret2
      exact ⟨ret2 (by rw [HE]) (by rw [HE]), ((hbel.setCell (by simp) _).setCell (by simp) _).trans (hb1.mono (by simp; omega))⟩
end Go.Proofs.YtkigfmfegldhcaaDoor.Num
