/-
  The contract of One, by what the bytes are.
-/
import Derived.Test.YtljanfmmhglpiaaDoorRnD
namespace Go.Proofs.YtljanfmmhglpiaaDoor.Rn
open Go.ChangeShapes Go.WideShapes Go.ChangeAt Go.RowKit
set_option maxRecDepth 100000
theorem getD_cons {c0 : Int} {t : List Int} (i : Nat) : (c0 :: t)[1 + i]?.getD 0 = t.getD i 0 := by
  rw [Nat.add_comm, List.getElem?_cons_succ, List.getD_eq_getElem?_getD]
theorem one_part (bs : List Int) (n : Nat) (hn : bs.length = n) (h0 : 0 < n) (b off cap : Nat) (w : World) (T : Tab w) (hB : ∀ z ∈ bs, Byte z) (hl : n ≤ 140737488355328)
    (hc : ∀ i, i < n → w.cell? ⟨b, off + i, none⟩ = some (.int .u8 (bs[i]?.getD 0))) :
    Calls Tryd.prog 41 #[.slice (some ⟨b, off, none⟩) n cap] w fun e w' => (∃ n k : Int, e = .returned (.tuple #[.int .i64 n, .int .i64 k]) ∧ IsOne bs n k) ∧ w' = w := by
  subst hn
  cases bs with
  | nil => simp at h0
  | cons c0 t =>
    have b0 := hB c0 (by simp)
    refine one_walk c0 t b off cap w T b0.1 b0.2 (fun z hz => hB z (by simp [hz])) (by simp at hl; omega) ?_ ?_
    · have := hc 0 (by simp); simpa using this
    · intro i hi
      have := hc (1 + i) (by simp; omega)
      rw [this, getD_cons]
theorem one_some (bs : List Int) (m : Int) (rest : List Int) (hm : Good m) (he : bs = put m ++ rest) (n : Nat) (hn : bs.length = n) (b off cap : Nat) (w : World) (T : Tab w) (hB : ∀ z ∈ bs, Byte z) (hl : n ≤ 140737488355328)
    (hc : ∀ i, i < n → w.cell? ⟨b, off + i, none⟩ = some (.int .u8 (bs[i]?.getD 0))) :
    Calls Tryd.prog 41 #[.slice (some ⟨b, off, none⟩) n cap] w fun e w' => e = .returned (.tuple #[.int .i64 m, .int .i64 (wid m)]) ∧ w' = w := by
  have h0 : 0 < n := by
    rw [← hn, he, List.length_append, put_length]
    have := wid_pos m
    omega
  refine (one_part bs n hn h0 b off cap w T hB hl hc).mono ?_
  rintro e w' ⟨⟨x, k, rfl, hx⟩, rfl⟩
  rcases hx with ⟨_, _, h⟩ | ⟨r, hg, hr, hk⟩
  · exact absurd he (h m rest hm)
  · obtain ⟨rfl, _⟩ := put_inj hg hm (hr.symm.trans he)
    exact ⟨by rw [hk], rfl⟩
theorem one_zero (bs : List Int) (hns : NoSign bs) (n : Nat) (hn : bs.length = n) (h0 : 0 < n) (b off cap : Nat) (w : World) (T : Tab w) (hB : ∀ z ∈ bs, Byte z) (hl : n ≤ 140737488355328)
    (hc : ∀ i, i < n → w.cell? ⟨b, off + i, none⟩ = some (.int .u8 (bs[i]?.getD 0))) :
    Calls Tryd.prog 41 #[.slice (some ⟨b, off, none⟩) n cap] w fun e w' => e = .returned (.tuple #[.int .i64 0, .int .i64 0]) ∧ w' = w := by
  refine (one_part bs n hn h0 b off cap w T hB hl hc).mono ?_
  rintro e w' ⟨⟨x, k, rfl, hx⟩, rfl⟩
  rcases hx with ⟨rfl, rfl, h⟩ | ⟨r, hg, hr, hk⟩
  · exact ⟨rfl, rfl⟩
  · exact absurd hr (hns x r hg)
theorem one_empty (a : Option Addr) (cap : Nat) (w : World) :
    Calls Tryd.prog 41 #[.slice a 0 cap] w fun e w' => e = .returned (.tuple #[.int .i64 0, .int .i64 0]) ∧ w' = w := by
  go_enter Tryd.func41, Tryd.ntmps41
  go_wp2
  go_ret2
  exact ⟨rfl, rfl⟩
theorem drop_at (b : List Int) (k i : Nat) : (b.drop k)[i]?.getD 0 = b[k + i]?.getD 0 := by rw [List.getElem?_drop]
end Go.Proofs.YtljanfmmhglpiaaDoor.Rn
