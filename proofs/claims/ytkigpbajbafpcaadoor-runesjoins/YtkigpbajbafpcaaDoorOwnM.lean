/-
  The contract of the document's own One: for all bytes the sign with which they begin and how many bytes it has, or 0 and 0 where there is none.
-/
import Derived.Test.YtkigpbajbafpcaaDoorOwnL
import Derived.Deep.RegionHeld3
import Derived.Deep.QuietTactic
import Derived.BigQuiet
namespace Go.Proofs.YtkigpbajbafpcaaDoor
open Go.ChangeShapes Go.WideShapes Go.ChangeAt Go.RowKit
set_option linter.unusedVariables false
theorem str_inj : ∀ {xs ys : List Int}, (∀ z ∈ xs, Byte z) → (∀ z ∈ ys, Byte z) → strOfNums xs = strOfNums ys → xs = ys := by
  intro xs
  induction xs with
  | nil =>
    intro ys _ _ h
    have := congrArg ByteArray.size h
    rw [strOfNums_size, strOfNums_size] at this
    exact (List.eq_nil_of_length_eq_zero (by simpa using this.symm)).symm
  | cons x xs ih =>
    intro ys hx hy h
    cases ys with
    | nil =>
      have := congrArg ByteArray.size h
      rw [strOfNums_size, strOfNums_size] at this
      simp at this
    | cons y ys =>
      have h1 := congrArg (fun s : ByteArray => s.data.toList) h
      simp only [strOfNums_data, List.map_cons, List.cons.injEq] at h1
      have bx := hx x (by simp)
      have by' := hy y (by simp)
      unfold Byte at bx by'
      have h2 := congrArg UInt8.toNat h1.1
      simp only [UInt8.toNat_ofNat'] at h2
      have e : x = y := by omega
      have e2 : xs = ys := ih (fun z hz => hx z (by simp [hz])) (fun z hz => hy z (by simp [hz])) (by
        unfold strOfNums
        rw [h1.2])
      rw [e, e2]
theorem ba_toList {a b : ByteArray} (h : a.toList = b.toList) : a = b := by
  have h1 : a.data.toList = b.data.toList := by rw [← ByteArray.toList_eq, ← ByteArray.toList_eq]; exact h
  cases a with
  | mk x => cases b with
    | mk y =>
      have h2 : x = y := Array.toList_inj.1 h1
      rw [h2]
theorem str_ne {xs ys : List Int} (hx : ∀ z ∈ xs, Byte z) (hy : ∀ z ∈ ys, Byte z) (h : xs ≠ ys) : ((strOfNums xs).toList == (strOfNums ys).toList) = false :=
  beq_eq_false_iff_ne.2 fun e => h (str_inj hx hy (ba_toList e))
theorem wid_as {n : Int} {k : Nat} (h : wid n = k) (w : World) : Calls Tryd.prog 22 #[.int .i64 n] w fun e w' => e = .returned (.int .i64 (k : Int)) ∧ w' = w := by
  have := wid_any n w
  rwa [h] at this
theorem drewN_below {B : Nat} {w wr : World} (h : Below B w wr) (m : Nat) : Below B w (wr.drewN m) := by
  induction m with
  | zero => exact h
  | succ m ih => exact ih.drew
theorem goodR_yes {n : Int} (h : Good n) (w : World) : Calls Tryd.prog 11 #[.int .i64 n] w fun e w' => e = .returned (.bool true) ∧ w' = w := by
  have := goodR_any n w
  rwa [goodB_true h] at this
theorem goodR_no {n : Int} (h : ¬ Good n) (w : World) : Calls Tryd.prog 11 #[.int .i64 n] w fun e w' => e = .returned (.bool false) ∧ w' = w := by
  have := goodR_any n w
  rwa [goodB_false h] at this
theorem not_next {bs : List Int} {k : Nat} (h : ∀ q, 1 ≤ q → q < k → ¬ Pass bs q) (hk : ¬ Pass bs k) : ∀ q, 1 ≤ q → q < k + 1 → ¬ Pass bs q := fun x h1 h2 => by
  rcases Nat.lt_or_ge x k with h3 | h3
  · exact h x h1 h3
  · have : x = k := by omega
    rw [this]; exact hk
set_option maxHeartbeats 4000000 in
theorem oneR_walk (bs : List Int) (b off cap : Nat) (w : World) (hB : ∀ z ∈ bs, Byte z) (hl : bs.length ≤ 140737488355328) (hb : b < w.heap.size) (hcap : bs.length ≤ cap)
    (hc : ∀ i, i < bs.length → w.cell? ⟨b, off + i, none⟩ = some (.int .u8 (bs[i]?.getD 0))) :
    Calls Tryd.prog 16 #[.slice (some ⟨b, off, none⟩) bs.length cap] w fun e w' => (∃ n k : Int, e = .returned (.tuple #[.int .i64 n, .int .i64 k]) ∧ IsOne bs n k) ∧ Below w.heap.size w w' := by
  go_enter Tryd.func16, Tryd.ntmps16
  go_wp2
  go_loopw [4] (fun i wr => ∃ k : Nat, 1 ≤ k ∧ k ≤ 5 ∧ i = .int .i64 k ∧ (∀ q, 1 ≤ q → q < k → ¬ Pass bs q) ∧ Below w.heap.size w wr) (fun i _ => 5 - (intOf i).toNat)
  case atStart => exact ⟨1, by omega, by omega, rfl, fun q h1 h2 => by omega, Below.refl _ _⟩
  case round =>
    obtain ⟨k, hk1, hk5, rfl, hno, hnx⟩ := hrel
    by_cases hin : k ≤ 4 ∧ k ≤ bs.length
    · obtain ⟨h4, hkl⟩ := hin
      have htl : (bs.take k).length = k := by rw [List.length_take]; omega
      have hcw : ∀ i, i < k → wr.cell? ⟨b, off + i, none⟩ = some (.int .u8 ((bs.take k)[i]?.getD 0)) := by
        intro i hi
        rw [List.getElem?_take, if_pos hi]
        exact (hnx.cell (p := ⟨b, off + i, none⟩) hb).trans (hc i (by omega))
      have C := value_any (bs.take k) k htl hk1 h4 b off cap wr (fun z hz => hB z (List.mem_of_mem_take hz)) hcw
      have HP : Hid (Pass bs k → IsOne bs (valL (bs.take k)) (k : Int)) := fun h => pass_one hkl h
      have HQ : Hid (Pass bs k ↔ Good (valL (bs.take k)) ∧ put (valL (bs.take k)) = bs.take k) := Iff.rfl
      have Rk : Hid (Row .u8 wr (some ⟨b, off, none⟩) (bs.take k)) := by
        refine ⟨by omega, Or.inr ⟨b, off, rfl, Nat.lt_of_lt_of_le hb hnx.size, fun i hi => hcw i (by omega)⟩⟩
      obtain ⟨n, hn⟩ : ∃ n, valL (bs.take k) = n := ⟨_, rfl⟩
      obtain ⟨q, hq⟩ : ∃ q, bs.take k = q := ⟨_, rfl⟩
      rw [hn] at C HP HQ
      rw [hq] at HQ Rk htl
      have HTL : Hid (q.length = k) := htl
      have HN : Hid (∀ q, 1 ≤ q → q < k → ¬ Pass bs q) := hno
      have HBq : Hid (∀ z ∈ q, Byte z) := by rw [← hq]; exact fun z hz => hB z (List.mem_of_mem_take hz)
      clear hcw hn hq htl hno hc hB
      by_cases hg : Good n
      · by_cases hwk : wid n = k
        · have s1 := fun (v : World) (hv : Row .u8 v (some ⟨b, off, none⟩) q) => str_of_row hv k HTL.out cap
          have r1 : Row .u8 wr.drew (some ⟨b, off, none⟩) q := Rk.out.below (B := wr.heap.size) ((Below.refl _ _).drew) (fun x hx => by cases hx; exact Nat.lt_of_lt_of_le hb hnx.size)
          have r2 : ∀ o, Row .u8 (wr.alloc o).drew (some ⟨b, off, none⟩) q := fun o => Rk.out.below (B := wr.heap.size) (((Below.refl _ _).alloc (Nat.le_refl _) _).drew) (fun x hx => by cases hx; exact Nat.lt_of_lt_of_le hb hnx.size)
          have t1 := s1 _ r1
          have t2 := fun o => s1 _ (r2 o)
          have hpl : (put n).length = k := by rw [put_length, hwk]
          have t3 : (convert 23 9 (.slice (some ⟨wr.heap.size, 0, none⟩) k k)).run Tryd.prog (wr.alloc (.cells (bv (put n)).toArray 5)).drew = .ok (.string (strOfNums (put n))) (wr.alloc (.cells (bv (put n)).toArray 5)).drew :=
            str_of_row (a := some ⟨wr.heap.size, 0, none⟩) ((row_new .u8 5 wr (put n) (0, 0) (by omega)).below (B := wr.heap.size + 1) ((Below.refl _ _).drew) (fun x hx => by cases hx; exact Nat.lt_succ_self _)) k hpl k
          have C2 : ∀ v : World, Calls Tryd.prog 19 #[.int .i64 n] v fun e w' => e = .returned (.slice (some ⟨v.heap.size, 0, none⟩) k k) ∧ w' = v.alloc (.cells (bv (put n)).toArray 5) := fun v => by
            have := put_any n v hg
            rwa [hwk] at this
          have HC2 : Hid _ := C2
          have HG : Hid (Good n) := hg
          have HM : Hid (wid n = k) := hwk
          have hkk : ((k : Int) == (k : Int)) = true := by simp
          clear s1 r1 r2 C2 hpl
          by_cases hpq : put n = q
          · have HT : Hid (IsOne bs n k) := HP.out (HQ.out.2 ⟨hg, hpq⟩)
            clear hg hwk
            subst hpq
            go_wp2_with (go_at_call 21; refine C.mono ?_; rintro e w' ⟨rfl, hw⟩; rw [hw])
            go_region_with (first | (go_at_call 11; refine (goodR_yes HG.out _).mono ?_; rintro e w' ⟨rfl, hw⟩; rw [hw]) | (go_at_call 22; refine (wid_as HM.out _).mono ?_; rintro e w' ⟨rfl, hw⟩; rw [hw]) | (go_at_call 19; refine (HC2.out _).mono ?_; rintro e w' ⟨rfl, hw⟩; rw [hw]))
            all_goals go_wp2
            all_goals go_ret2
            all_goals exact ⟨⟨_, _, rfl, HT.out⟩, (hnx.alloc hnx.size _).drew⟩
          · have HF : Hid (¬ Pass bs k) := fun h => hpq (HQ.out.1 h).2
            have hse := str_ne (put_bytes hg) HBq.out hpq
            clear hg hwk hpq
            go_wp2_with (go_at_call 21; refine C.mono ?_; rintro e w' ⟨rfl, hw⟩; rw [hw])
            go_region_with (first | (go_at_call 11; refine (goodR_yes HG.out _).mono ?_; rintro e w' ⟨rfl, hw⟩; rw [hw]) | (go_at_call 22; refine (wid_as HM.out _).mono ?_; rintro e w' ⟨rfl, hw⟩; rw [hw]) | (go_at_call 19; refine (HC2.out _).mono ?_; rintro e w' ⟨rfl, hw⟩; rw [hw]))
            all_goals go_wp2
            all_goals
              go_roundw
              case rel => exact ⟨k + 1, by omega, by omega, by go_num, not_next HN.out HF.out, (hnx.alloc hnx.size _).drew⟩
              case measure => simp [intOf]; omega
        · have HF : Hid (¬ Pass bs k) := fun h => by
            have h1 := (HQ.out.1 h).2
            have h2 := put_length n
            have h3 := HTL.out
            rw [h1] at h2
            omega
          have hne : ((wid n : Int) == (k : Int)) = false := beq_eq_false_iff_ne.2 (by omega)
          have HG : Hid (Good n) := hg
          obtain ⟨m, hm⟩ : ∃ m, wid n = m := ⟨_, rfl⟩
          have HM : Hid (wid n = m) := hm
          rw [hm] at hne
          clear hg hwk hm
          go_wp2_with (go_at_call 21; refine C.mono ?_; rintro e w' ⟨rfl, hw⟩; rw [hw])
          go_quiet (first | (go_at_call 11; exact Calls.quiet_of_same (goodR_yes HG.out _)) | (go_at_call 22; exact Calls.quiet_of_same (wid_as HM.out _)))
          go_wp2
          go_roundw
          case rel => exact ⟨k + 1, by omega, by omega, by go_num, not_next HN.out HF.out, drewN_below hnx _⟩
          case measure => simp [intOf]; omega
      · have hgb := goodB_false hg
        have HF : Hid (¬ Pass bs k) := fun h => hg (HQ.out.1 h).1
        have HG : Hid (¬ Good n) := hg
        clear hg hgb
        go_wp2_with (go_at_call 21; refine C.mono ?_; rintro e w' ⟨rfl, hw⟩; rw [hw])
        go_quiet ((go_at_call 11; exact Calls.quiet_of_same (goodR_no HG.out _)))
        go_wp2
        go_roundw
        case rel => exact ⟨k + 1, by omega, by omega, by go_num, not_next HN.out HF.out, drewN_below hnx _⟩
        case measure => simp [intOf]; omega
    · have N : Hid (IsOne bs 0 0) := one_none (pass_none fun q h1 h2 h3 => hno q h1 (by omega))
      clear hno hc hB
      by_cases h4 : k ≤ 4
      · have h5 : ¬ k ≤ bs.length := fun h => hin ⟨h4, h⟩
        have h6 : bs.length < k := by omega
        clear hin h5
        go_wp2
        go_ret2
        exact ⟨⟨0, 0, rfl, N.out⟩, hnx⟩
      · have h5 : 4 < k := by omega
        clear hin
        go_wp2
        go_ret2
        exact ⟨⟨0, 0, rfl, N.out⟩, hnx⟩
end Go.Proofs.YtkigpbajbafpcaaDoor
