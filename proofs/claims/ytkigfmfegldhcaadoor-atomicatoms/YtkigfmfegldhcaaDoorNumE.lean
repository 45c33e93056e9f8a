/-
  The contract of the chapter's Prod (the reference): the product of the numbers if it fits, else 0 and ErrOverflow; memory stays as it was; conditions: the numbers fit int64, and there are at most 2^47 of them.
-/
import Derived.Test.YtkigfmfegldhcaaDoorNumD
namespace Go.Proofs.YtkigfmfegldhcaaDoor.Num
open Go.ChangeShapes Go.WideShapes Go.ChangeAt Go.RowKit
theorem rstep_over {p z M : Int} {n : Nat} {ov : Bool} (hM : M = (z.natAbs : Int)) (hz : z ≠ 0) (h : 9223372036854775808 / M < (n : Int)) (h1 : ov = false → n = p.natAbs) (h2 : ov = true → 9223372036854775808 < p.natAbs) :
    9223372036854775808 < (p * z).natAbs := by
  subst hM
  have hm : 0 < z.natAbs := by omega
  rw [Int.natAbs_mul]
  cases ov with
  | true =>
    have := h2 rfl
    exact Nat.lt_of_lt_of_le this (Nat.le_mul_of_pos_right _ hm)
  | false =>
    rw [← h1 rfl]
    have h' : 9223372036854775808 / z.natAbs < n := by
      have e : ((9223372036854775808 / z.natAbs : Nat) : Int) = 9223372036854775808 / (z.natAbs : Int) := by simp
      omega
    exact (Nat.div_lt_iff_lt_mul hm).1 h'
theorem rstep_in {p z M : Int} {n : Nat} {ov : Bool} (hM : M = (z.natAbs : Int)) (hz : z ≠ 0) (hn : 1 ≤ n) (h : (n : Int) ≤ 9223372036854775808 / M) (h1 : ov = false → n = p.natAbs) (h2 : ov = true → 9223372036854775808 < p.natAbs) :
    IntKind.u64.wrap ((n : Int) * M) = ((n * z.natAbs : Nat) : Int) ∧ 1 ≤ n * z.natAbs ∧ n * z.natAbs ≤ 9223372036854775808 ∧ (ov = false → n * z.natAbs = (p * z).natAbs) ∧ (ov = true → 9223372036854775808 < (p * z).natAbs) := by
  subst hM
  have hm : 0 < z.natAbs := by omega
  have h' : n ≤ 9223372036854775808 / z.natAbs := by
    have e : ((9223372036854775808 / z.natAbs : Nat) : Int) = 9223372036854775808 / (z.natAbs : Int) := by simp
    omega
  have hle := (Nat.le_div_iff_mul_le hm).1 h'
  refine ⟨?_, Nat.mul_pos hn hm, hle, ?_, ?_⟩
  · rw [mulN, wrapN]; omega
  · intro e; rw [Int.natAbs_mul, h1 e]
  · intro e
    rw [Int.natAbs_mul]
    exact Nat.lt_of_lt_of_le (h2 e) (Nat.le_mul_of_pos_right _ hm)
set_option maxHeartbeats 1000000 in
theorem rprod_any (zs : List Int) (a : Option Addr) (cap : Nat) (w : World) (h : Row w a zs) :
    Calls Tryd.prog 60 #[.slice a zs.length cap] w fun e w' => e = .returned (.tuple #[.int .i64 (resV (prodL zs)), .int .i64 (resE (prodL zs))]) ∧ w' = w := by
  have hrow := @row_at _ _ _ h
  have hin := row_in h
  have hlen := h.2.1
  clear h
  go_enter Tryd.func60, Tryd.ntmps60
  go_wp2
  go_loop [7] (fun i => ∃ k : Nat, k ≤ zs.length ∧ i = .int .i64 k ∧ ∀ j, j < k → zs[j]?.getD 0 ≠ 0) (fun i => zs.length - (intOf i).toNat)
  case atStart => exact ⟨0, Nat.zero_le _, rfl, fun j hj => by omega⟩
  case round =>
    obtain ⟨k, hk, rfl, hno⟩ := hrel
    by_cases hlt : k < zs.length
    · obtain ⟨b, off, ha, hb, hck⟩ := hrow hlt
      subst ha
      by_cases hz : zs[k]?.getD 0 = 0
      · have H := (show Hid _ from prod_zero (hasZ_yes hlt hz))
        rw [hz] at hck
        clear hrow hno hz hin
        go_wp2
        go_ret2
        exact ⟨ret2 (by rw [H.out]; rfl) (by rw [H.out]; rfl), rfl⟩
      · have H : Hid (∀ j, j < k + 1 → zs[j]?.getD 0 ≠ 0) := by
          intro j hj
          by_cases e : j = k
          · subst e; exact hz
          · exact hno j (by omega)
        obtain ⟨z, hzz⟩ : ∃ z, z = zs[k]?.getD 0 := ⟨_, rfl⟩
        rw [← hzz] at hck hz
        clear hrow hno hzz hin
        go_wp2
        go_round
        case rel => exact ⟨k + 1, by omega, by go_num, H.out⟩
        case measure => simp [intOf]; omega
    · have HZ := (show Hid _ from hasZ_no (zs := zs) fun j hj => hno j (by omega))
      clear hno
      go_wp2
      go_loop [4, 5, 6, 8] (fun s b o i => ∃ k n : Nat, ∃ ov : Bool, k ≤ zs.length ∧ i = .int .i64 k ∧ s = .int .u64 n ∧ 1 ≤ n ∧ n ≤ 9223372036854775808 ∧ b = .bool (decide (prodL (zs.take k) < 0)) ∧ o = .bool ov ∧ (ov = false → n = (prodL (zs.take k)).natAbs) ∧ (ov = true → 9223372036854775808 < (prodL (zs.take k)).natAbs)) (fun _ _ _ i => zs.length - (intOf i).toNat)
      case atStart => exact ⟨0, 1, false, Nat.zero_le _, rfl, rfl, by omega, by omega, rfl, rfl, fun _ => rfl, fun h => by cases h⟩
      case round =>
        obtain ⟨k2, n, ov, hk2, rfl, rfl, hn1, hn2, rfl, rfl, ho1, ho2⟩ := hrel
        have HO1 := (show Hid _ from ho1)
        have HO2 := (show Hid _ from ho2)
        clear ho1 ho2
        by_cases hlt2 : k2 < zs.length
        · have hp : prodL (zs.take k2) ≠ 0 := prod_ne (hasZ_take HZ.out k2).1
          have HP : Hid (prodL (zs.take (k2 + 1)) = prodL (zs.take k2) * zs[k2]?.getD 0) := take_prod zs k2 hlt2
          have hzn := hasZ_get HZ.out hlt2
          obtain ⟨b, off, ha, hb, hck⟩ := hrow hlt2
          have hi := hin k2
          subst ha
          generalize hPP : prodL (zs.take k2) = p at *
          generalize hzzz : zs[k2]?.getD 0 = z at *
          clear hPP hzzz hrow hin
          have HN := (show Hid _ from neg_mul_iff hp hzn)
          clear hp
          obtain ⟨hi1, hi2⟩ := hi
          by_cases hneg : z < 0
          · have HM : Hid (-(z + 1) + 1 = (z.natAbs : Int)) := by show -(z + 1) + 1 = (z.natAbs : Int); omega
            have HB : Hid ((!decide (p < 0)) = decide (p * z < 0)) := by
              have := HN.out
              show (!decide (p < 0)) = decide (p * z < 0)
              rw [← this]; simp [hneg]
            clear HN
            go_wp2
            · have hq : 9223372036854775808 / (-(z + 1) + 1) < (n : Int) := by assumption
              have S := rstep_over HM.out hzn hq HO1.out HO2.out
              go_round
              case rel => exact ⟨k2 + 1, z.natAbs, true, by omega, by go_num, by rw [HM.out], by omega, by omega, by rw [HP.out, HB.out], rfl, (fun h => nomatch h), (fun _ => by rw [HP.out]; exact S)⟩
              case measure => simp [intOf]; omega
            · have hq : (n : Int) ≤ 9223372036854775808 / (-(z + 1) + 1) := by assumption
              have S := rstep_in HM.out hzn hn1 hq HO1.out HO2.out
              go_round
              case rel => exact ⟨k2 + 1, n * z.natAbs, ov, by omega, by go_num, by rw [S.1], S.2.1, S.2.2.1, by rw [HP.out, HB.out], rfl, (fun h => by rw [HP.out]; exact S.2.2.2.1 h), (fun h => by rw [HP.out]; exact S.2.2.2.2 h)⟩
              case measure => simp [intOf]; omega
          · have HM : Hid (z = (z.natAbs : Int)) := by show z = (z.natAbs : Int); omega
            have HB : Hid (decide (p < 0) = decide (p * z < 0)) := by
              have := HN.out
              show decide (p < 0) = decide (p * z < 0)
              rw [← this]; simp [hneg]
            clear HN
            go_wp2
            · have hq : 9223372036854775808 / z < (n : Int) := by assumption
              have S := rstep_over HM.out hzn hq HO1.out HO2.out
              go_round
              case rel => exact ⟨k2 + 1, z.natAbs, true, by omega, by go_num, by rw [← HM.out], by omega, by omega, by rw [HP.out, HB.out], rfl, (fun h => nomatch h), (fun _ => by rw [HP.out]; exact S)⟩
              case measure => simp [intOf]; omega
            · have hq : (n : Int) ≤ 9223372036854775808 / z := by assumption
              have S := rstep_in HM.out hzn hn1 hq HO1.out HO2.out
              go_round
              case rel => exact ⟨k2 + 1, n * z.natAbs, ov, by omega, by go_num, by rw [S.1], S.2.1, S.2.2.1, by rw [HP.out, HB.out], rfl, (fun h => by rw [HP.out]; exact S.2.2.2.1 h), (fun h => by rw [HP.out]; exact S.2.2.2.2 h)⟩
              case measure => simp [intOf]; omega
        · have hke : k2 = zs.length := by omega
          subst hke
          have ht : zs.take zs.length = zs := List.take_length
          rw [ht] at HO1 HO2 ⊢
          clear ht hrow hin HZ
          cases ov with
          | true =>
            have F := (show Hid _ from fit_out (x := prodL zs) (by have := HO2.out rfl; omega))
            clear HO1 HO2
            go_wp2
            all_goals
              go_ret2
              exact ⟨ret2 F.out.1.symm F.out.2.symm, rfl⟩
          | false =>
            have hn := HO1.out rfl
            have HNP : Hid (n = (prodL zs).natAbs) := hn
            clear HO1 HO2 hn
            by_cases hP : prodL zs < 0
            · have F := (show Hid _ from fit_in (x := prodL zs) (by have := HNP.out; omega) (by omega))
              have HV : Hid (-((n : Int) - 1) - 1 = resV (prodL zs) ∧ 0 = resE (prodL zs) ∧ ((n : Int) = 9223372036854775808 → -9223372036854775808 = resV (prodL zs))) := by
                rw [F.out.1, F.out.2]
                have := HNP.out
                exact ⟨by omega, rfl, by omega⟩
              clear F HNP
              go_wp2
              all_goals
                go_ret2
                first
                  | exact ⟨ret2 HV.out.1 HV.out.2.1, rfl⟩
                  | exact ⟨ret2 (HV.out.2.2 (by assumption)) HV.out.2.1, rfl⟩
            · by_cases hn : n = 9223372036854775808
              · have F := (show Hid _ from fit_out (x := prodL zs) (by have := HNP.out; omega))
                clear HNP
                subst hn
                go_wp2
                all_goals
                  go_ret2
                  exact ⟨ret2 F.out.1.symm F.out.2.symm, rfl⟩
              · have F := (show Hid _ from fit_in (x := prodL zs) (by omega) (by have := HNP.out; omega))
                have HV : Hid ((n : Int) = resV (prodL zs) ∧ 0 = resE (prodL zs)) := by
                  rw [F.out.1, F.out.2]
                  have := HNP.out
                  exact ⟨by omega, rfl⟩
                clear HNP F
                go_wp2
                all_goals
                  go_ret2
                  exact ⟨ret2 HV.out.1 HV.out.2, rfl⟩
end Go.Proofs.YtkigfmfegldhcaaDoor.Num
