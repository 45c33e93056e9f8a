/-
  The contract of Sum of layer 1: the sum of the numbers if it fits, else 0 and ErrOverflow; memory stays as it was; conditions: the numbers fit int64, and there are at most 2^47 of them.
-/
import Derived.Test.YtmaddmbiddiebaaOwnB
namespace Go.Proofs.Ytmaddmbiddiebaa
open Go.ChangeShapes Go.WideShapes Go.ChangeAt Go.RowKit
/-- A slice of int64: its numbers fit, and its cells hold them. -/
def Row (w : World) (a : Option Addr) (zs : List Int) : Prop :=
  (∀ z ∈ zs, In64 z) ∧ zs.length ≤ 140737488355328 ∧ (zs = [] ∨ ∃ b off, a = some ⟨b, off, none⟩ ∧ b < w.heap.size ∧ ∀ k, k < zs.length → w.cell? ⟨b, off + k, none⟩ = some (.int .i64 (zs.getD k 0)))
theorem take_sum (zs : List Int) (k : Nat) (h : k < zs.length) : (zs.take (k + 1)).sum = (zs.take k).sum + zs[k]?.getD 0 := by
  rw [List.take_succ_eq_append_getElem h, List.sum_append]
  simp [h]
theorem row_in {w : World} {a : Option Addr} {zs : List Int} (h : Row w a zs) (k : Nat) : In64 (zs[k]?.getD 0) := by
  by_cases hk : k < zs.length
  · simp only [hk, List.getElem?_eq_getElem, Option.getD_some]; exact h.1 _ (List.getElem_mem hk)
  · have : zs[k]? = none := by simp; omega
    rw [this]; constructor <;> decide
theorem wrap_in (n : Int) : In64 (wrap64 n) := by unfold In64 wrap64; omega
/-- The whole is what is held and 2^64 times the rounds. -/
theorem rounds_step {S z r : Int} (hS : S = wrap64 S + 18446744073709551616 * r) (hz : In64 z) : wrap64 (wrap64 S + z) = wrap64 (S + z) ∧ S + z = wrap64 (S + z) + 18446744073709551616 * (r + rnd (wrap64 S + z)) := by
  have hw := wrap_in S
  obtain ⟨h1, h2⟩ := hz
  obtain ⟨h3, h4⟩ := hw
  have e : wrap64 (wrap64 S + z) = wrap64 (S + z) := by
    generalize hT : wrap64 S = T at *
    unfold wrap64
    omega
  refine ⟨e, ?_⟩
  rw [← e]
  generalize wrap64 S = T at *
  unfold rnd wrap64
  split
  · omega
  · split <;> omega
theorem rnd_le (s : Int) : -1 ≤ rnd s ∧ rnd s ≤ 1 := by unfold rnd; split <;> (try split) <;> omega
set_option maxHeartbeats 400000 in
theorem sum_any (zs : List Int) (a : Option Addr) (cap : Nat) (w : World) (h : Row w a zs) :
    Calls Try.prog 23 #[.slice a zs.length cap] w fun e w' => e = .returned (.tuple #[.int .i64 (resV zs.sum), .int .i64 (resE zs.sum)]) ∧ w' = w := by
  have hrow := row_in h
  obtain ⟨hin, hlen, hcells⟩ := h
  go_enter Try.func23, Try.ntmps23
  go_wp2
  go_loop [4, 5, 11] (fun s r i => ∃ k : Nat, ∃ rr : Int, k ≤ zs.length ∧ i = .int .i64 k ∧ s = .int .i64 (wrap64 (zs.take k).sum) ∧ r = .int .i64 rr ∧ -k ≤ rr ∧ rr ≤ k ∧ (zs.take k).sum = wrap64 (zs.take k).sum + 18446744073709551616 * rr) (fun _ _ i => zs.length - (intOf i).toNat)
  case atStart => exact ⟨0, 0, Nat.zero_le _, rfl, by simp [wrap64], rfl, by simp, by simp, by simp [wrap64]⟩
  case round =>
    obtain ⟨k, rr, hk, rfl, rfl, rfl, hr1, hr2, hS⟩ := hrel
    by_cases hlt : k < zs.length
    · have hts := take_sum zs k hlt
      have hz := hrow k
      obtain ⟨hb1, hb2⟩ := rounds_step hS hz
      have hr := rnd_le (wrap64 (zs.take k).sum + zs[k]?.getD 0)
      obtain ⟨b, off, ha, hb, hc⟩ : ∃ b off, a = some ⟨b, off, none⟩ ∧ b < w.heap.size ∧ ∀ k, k < zs.length → w.cell? ⟨b, off + k, none⟩ = some (.int .i64 (zs.getD k 0)) := by
        rcases hcells with rfl | h
        · simp at hlt
        · exact h
      have hck := hc k hlt
      rw [List.getD_eq_getElem?_getD] at hck
      clear hc hcells hin
      subst ha
      have HS : Hid ((zs.take (k + 1)).sum = (zs.take k).sum + zs[k]?.getD 0) := hts
      have H1 : Hid (wrap64 (wrap64 (zs.take k).sum + zs[k]?.getD 0) = wrap64 ((zs.take k).sum + zs[k]?.getD 0)) := hb1
      have H2 := (show Hid _ from hb2)
      have H3 := (show Hid _ from hS)
      clear hts hb1 hb2 hS
      obtain ⟨z, hzz⟩ : ∃ z, z = zs[k]?.getD 0 := ⟨_, rfl⟩
      rw [← hzz] at hck HS H1 H2 hz hr
      clear hrow hzz
      go_wp2_with (go_at_call 27; refine (addRound_any _ _ (wrap_in _) hz _).mono ?_; rintro e w' ⟨rfl, rfl⟩)
      go_round
      case rel => exact ⟨k + 1, rr + rnd (wrap64 (zs.take k).sum + z), by omega, by go_num, by rw [H1.out, HS.out], rfl, by omega, by omega, by rw [HS.out]; exact H2.out⟩
      case measure => simp [intOf]; omega
    · have hke : k = zs.length := by omega
      subst hke
      rw [List.take_length] at hS
      have hw := wrap_in zs.sum
      by_cases h0 : rr = 0
      · subst h0
        have f := fit_in (x := zs.sum) (by rw [hS]; obtain ⟨h1, h2⟩ := hw; omega) (by rw [hS]; obtain ⟨h1, h2⟩ := hw; omega)
        have H3 : Hid (wrap64 zs.sum = resV zs.sum ∧ 0 = resE zs.sum) := by show _ ∧ _; rw [f.1, f.2]; exact ⟨by omega, rfl⟩
        clear hS f
        go_wp2
        go_ret2
        exact ⟨ret2 H3.out.1 H3.out.2, rfl⟩
      · have f := fit_out (x := zs.sum) (by obtain ⟨h1, h2⟩ := hw; omega)
        have H3 : Hid (0 = resV zs.sum ∧ 9 = resE zs.sum) := by show _ ∧ _; rw [f.1, f.2]; exact ⟨rfl, rfl⟩
        clear hS f
        go_wp2
        go_ret2
        exact ⟨ret2 H3.out.1 H3.out.2, rfl⟩
end Go.Proofs.Ytmaddmbiddiebaa
