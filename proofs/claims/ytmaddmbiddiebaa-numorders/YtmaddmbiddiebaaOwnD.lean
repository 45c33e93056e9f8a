/-
  The contract of Prod of layer 1: the product of the numbers if it fits, else 0 and ErrOverflow; memory stays as it was; conditions: the numbers fit int64, and there are at most 2^47 of them.
-/
import Derived.Test.YtmaddmbiddiebaaOwnC
namespace Go.Proofs.Ytmaddmbiddiebaa
open Go.ChangeShapes Go.WideShapes Go.ChangeAt Go.RowKit
theorem row_at {w : World} {a : Option Addr} {zs : List Int} (h : Row w a zs) {k : Nat} (hk : k < zs.length) : ∃ b off, a = some ⟨b, off, none⟩ ∧ b < w.heap.size ∧ w.cell? ⟨b, off + k, none⟩ = some (.int .i64 (zs[k]?.getD 0)) := by
  obtain ⟨_, _, h⟩ := h
  rcases h with rfl | ⟨b, off, ha, hb, hc⟩
  · simp at hk
  · exact ⟨b, off, ha, hb, by rw [hc k hk, List.getD_eq_getElem?_getD]⟩
theorem retB {a b : Bool} (h : a = b) : Ending.returned (.bool a) = .returned (.bool b) := by rw [h]
def hasZ (zs : List Int) : Bool := zs.any (fun z => decide (z = 0))
theorem hasZ_yes {zs : List Int} {k : Nat} (hk : k < zs.length) (h : zs[k]?.getD 0 = 0) : hasZ zs = true := by
  simp only [hasZ, List.any_eq_true, decide_eq_true_eq]
  exact ⟨zs[k], List.getElem_mem hk, by simpa [hk] using h⟩
theorem hasZ_no {zs : List Int} (h : ∀ j, j < zs.length → zs[j]?.getD 0 ≠ 0) : hasZ zs = false := by
  simp only [hasZ, List.any_eq_false, decide_eq_true_eq]
  intro z hz e
  obtain ⟨j, hj, rfl⟩ := List.getElem_of_mem hz
  exact h j hj (by simpa [hj] using e)
theorem hasZero_any (zs : List Int) (a : Option Addr) (cap : Nat) (w : World) (h : Row w a zs) :
    Calls Try.prog 33 #[.slice a zs.length cap] w fun e w' => e = .returned (.bool (hasZ zs)) ∧ w' = w := by
  have hrow := @row_at _ _ _ h
  have hlen := h.2.1
  clear h
  go_enter Try.func33, Try.ntmps33
  go_wp2
  go_loop [6] (fun i => ∃ k : Nat, k ≤ zs.length ∧ i = .int .i64 k ∧ ∀ j, j < k → zs[j]?.getD 0 ≠ 0) (fun i => zs.length - (intOf i).toNat)
  case atStart => exact ⟨0, Nat.zero_le _, rfl, fun j hj => by omega⟩
  case round =>
    obtain ⟨k, hk, rfl, hno⟩ := hrel
    by_cases hlt : k < zs.length
    · obtain ⟨b, off, ha, hb, hck⟩ := hrow hlt
      subst ha
      by_cases hz : zs[k]?.getD 0 = 0
      · have H := (show Hid _ from hasZ_yes hlt hz)
        rw [hz] at hck
        clear hrow hno hz
        go_wp2
        go_ret
        exact ⟨retB H.out.symm, rfl⟩
      · have H : Hid (∀ j, j < k + 1 → zs[j]?.getD 0 ≠ 0) := by
          intro j hj
          by_cases e : j = k
          · subst e; exact hz
          · exact hno j (by omega)
        obtain ⟨z, hzz⟩ : ∃ z, z = zs[k]?.getD 0 := ⟨_, rfl⟩
        rw [← hzz] at hck hz
        clear hrow hno hzz
        go_wp2
        go_round
        case rel => exact ⟨k + 1, by omega, by go_num, H.out⟩
        case measure => simp [intOf]; omega
    · have H := (show Hid _ from hasZ_no (zs := zs) fun j hj => hno j (by omega))
      clear hrow hno
      go_wp2
      go_ret
      exact ⟨retB H.out.symm, rfl⟩

def prodL : List Int → Int
  | [] => 1
  | x :: l => x * prodL l
theorem prodL_append (l m : List Int) : prodL (l ++ m) = prodL l * prodL m := by
  induction l with
  | nil => simp [prodL]
  | cons x l ih => simp [prodL, ih, Int.mul_assoc]
theorem take_prod (zs : List Int) (k : Nat) (h : k < zs.length) : prodL (zs.take (k + 1)) = prodL (zs.take k) * zs[k]?.getD 0 := by
  rw [List.take_succ_eq_append_getElem h, prodL_append]
  simp [h, prodL]
theorem prod_zero {zs : List Int} (h : hasZ zs = true) : prodL zs = 0 := by
  induction zs with
  | nil => simp [hasZ] at h
  | cons x l ih =>
    simp only [hasZ, List.any_cons, Bool.or_eq_true, decide_eq_true_eq] at h
    rcases h with h | h
    · simp [prodL, h]
    · have := ih h
      simp [prodL, this]
theorem prod_ne {zs : List Int} (h : hasZ zs = false) : prodL zs ≠ 0 := by
  induction zs with
  | nil => simp [prodL]
  | cons x l ih =>
    simp only [hasZ, List.any_cons, Bool.or_eq_false_iff, decide_eq_false_iff_not] at h
    exact Int.mul_ne_zero h.1 (ih h.2)
theorem hasZ_append (l m : List Int) : hasZ (l ++ m) = (hasZ l || hasZ m) := by simp [hasZ]
theorem hasZ_take {zs : List Int} (h : hasZ zs = false) (k : Nat) : hasZ (zs.take k) = false ∧ hasZ (zs.drop k) = false := by
  have e : hasZ (zs.take k ++ zs.drop k) = false := by rw [List.take_append_drop]; exact h
  rw [hasZ_append] at e
  simpa using e
theorem hasZ_get {zs : List Int} (h : hasZ zs = false) {k : Nat} (hk : k < zs.length) : zs[k]?.getD 0 ≠ 0 := by
  intro e
  rw [hasZ_yes hk e] at h
  cases h
/-- Without a nought a product's size never shrinks. -/
theorem prod_grows {zs : List Int} (h : hasZ zs = false) (k : Nat) : (prodL (zs.take k)).natAbs ≤ (prodL zs).natAbs := by
  have e : prodL zs = prodL (zs.take k) * prodL (zs.drop k) := by rw [← prodL_append, List.take_append_drop]
  have h2 := prod_ne (hasZ_take h k).2
  rw [e, Int.natAbs_mul]
  exact Nat.le_mul_of_pos_right _ (by omega)
theorem neg_mul_iff {p z : Int} (hp : p ≠ 0) (hz : z ≠ 0) : (!(decide (p < 0) == decide (z < 0))) = decide (p * z < 0) := by
  rcases Int.lt_or_gt_of_ne hp with h1 | h1 <;> rcases Int.lt_or_gt_of_ne hz with h2 | h2
  · have := Int.mul_pos_of_neg_of_neg h1 h2
    have n : ¬ p * z < 0 := by omega
    simp [h1, h2, n]
  · have := Int.mul_neg_of_neg_of_pos h1 h2
    have n : ¬ z < 0 := by omega
    simp [h1, n, this]
  · have := Int.mul_neg_of_pos_of_neg h1 h2
    have n : ¬ p < 0 := by omega
    simp [h2, n, this]
  · have := Int.mul_pos h1 h2
    have n : ¬ p < 0 := by omega
    have n2 : ¬ z < 0 := by omega
    have n3 : ¬ p * z < 0 := by omega
    simp [n, n2, n3]
theorem sgd_self (p : Int) : sgdI (p.natAbs : Int) (decide (p < 0)) = p := by
  unfold sgdI
  by_cases h : p < 0
  · simp [h]; omega
  · simp [h]; omega
set_option maxHeartbeats 1000000 in
theorem prod_any (zs : List Int) (a : Option Addr) (cap : Nat) (w : World) (h : Row w a zs) :
    Calls Try.prog 25 #[.slice a zs.length cap] w fun e w' => e = .returned (.tuple #[.int .i64 (resV (prodL zs)), .int .i64 (resE (prodL zs))]) ∧ w' = w := by
  have hz0 := hasZero_any zs a cap w h
  have hrow := @row_at _ _ _ h
  have hin := row_in h
  have hlen := h.2.1
  clear h
  cases hzz : hasZ zs with
  | true =>
    rw [hzz] at hz0
    rw [prod_zero hzz]
    go_enter Try.func25, Try.ntmps25
    go_wp2_with (go_at_call 33; refine hz0.mono ?_; rintro e w' ⟨rfl, rfl⟩)
    go_ret2
    exact ⟨rfl, rfl⟩
  | false =>
    rw [hzz] at hz0
    have HZ : Hid (hasZ zs = false) := hzz
    clear hzz
    go_enter Try.func25, Try.ntmps25
    go_wp2_with (go_at_call 33; refine hz0.mono ?_; rintro e w' ⟨rfl, hw⟩; rw [hw])
    clear hz0
    go_loop [4, 5, 13] (fun s b i => ∃ k : Nat, k ≤ zs.length ∧ i = .int .i64 k ∧ s = .int .u64 ((prodL (zs.take k)).natAbs : Int) ∧ (prodL (zs.take k)).natAbs < 18446744073709551616 ∧ b = .bool (decide (prodL (zs.take k) < 0))) (fun _ _ i => zs.length - (intOf i).toNat)
    case atStart => exact ⟨0, Nat.zero_le _, rfl, rfl, by simp [prodL], rfl⟩
    case round =>
      obtain ⟨k, hk, rfl, rfl, hs, rfl⟩ := hrel
      by_cases hlt : k < zs.length
      · have hp : prodL (zs.take k) ≠ 0 := prod_ne (hasZ_take HZ.out k).1
        have HP : Hid (prodL (zs.take (k + 1)) = prodL (zs.take k) * zs[k]?.getD 0) := take_prod zs k hlt
        have HG : Hid ((prodL (zs.take (k + 1))).natAbs ≤ (prodL zs).natAbs) := prod_grows HZ.out (k + 1)
        have hzn := hasZ_get HZ.out hlt
        obtain ⟨b, off, ha, hb, hck⟩ := hrow hlt
        have hi := hin k
        subst ha
        generalize hPP : prodL (zs.take k) = p at *
        generalize hzzz : zs[k]?.getD 0 = z at *
        clear hPP hzzz hrow hin
        have hz' : z.natAbs < 18446744073709551616 := by obtain ⟨h1, h2⟩ := hi; omega
        by_cases hov : p.natAbs * z.natAbs < 18446744073709551616
        · have e1 : p.natAbs * z.natAbs / 18446744073709551616 = 0 := Nat.div_eq_of_lt hov
          have e2 : p.natAbs * z.natAbs % 18446744073709551616 = p.natAbs * z.natAbs := Nat.mod_eq_of_lt hov
          have HN := (show Hid _ from neg_mul_iff hp hzn)
          clear hp hzn
          go_wp2_with (first | (go_at_call 29; refine (sizeOf_any _ hi _).mono ?_; rintro e w' ⟨rfl, rfl⟩) | (go_at_call 28; refine (mul64_any _ _ hs hz' _).mono ?_; rintro e w' ⟨rfl, rfl⟩; rw [e1, e2]))
          go_round
          case rel =>
            refine ⟨k + 1, by omega, by go_num, ?_, ?_, ?_⟩
            · rw [HP.out, Int.natAbs_mul]; simp
            · rw [HP.out, Int.natAbs_mul]; exact hov
            · rw [HP.out, ← HN.out]
          case measure => simp [intOf]; omega
        · have f := fit_big (x := prodL zs) (by have h1 := HP.out; have h2 := HG.out; rw [h1, Int.natAbs_mul] at h2; omega)
          have F := (show Hid _ from f)
          have e1 : ¬ ((p.natAbs * z.natAbs / 18446744073709551616 : Nat) : Int) = 0 := by omega
          have e2 : (((p.natAbs * z.natAbs / 18446744073709551616 : Nat) : Int) != 0) = true := by simpa using e1
          obtain ⟨hi', hhi⟩ : ∃ n : Nat, n = p.natAbs * z.natAbs / 18446744073709551616 := ⟨_, rfl⟩
          obtain ⟨lo', hlo⟩ : ∃ n : Nat, n = p.natAbs * z.natAbs % 18446744073709551616 := ⟨_, rfl⟩
          rw [← hhi] at e1 e2
          have HH := (show Hid _ from hhi)
          have HL := (show Hid _ from hlo)
          clear hhi hlo hov f hp hzn
          go_wp2_with (first | (go_at_call 29; refine (sizeOf_any _ hi _).mono ?_; rintro e w' ⟨rfl, rfl⟩) | (go_at_call 28; refine (mul64_any _ _ hs hz' _).mono ?_; rintro e w' ⟨rfl, rfl⟩; rw [← HH.out, ← HL.out]))
          go_ret2
          exact ⟨ret2 F.out.1.symm F.out.2.symm, rfl⟩
      · have hke : k = zs.length := by omega
        subst hke
        have ht : zs.take zs.length = zs := List.take_length
        rw [ht] at hs ⊢
        have hsg := sgd_self (prodL zs)
        clear ht
        go_wp2_with (go_at_call 30; refine (signed_any _ _ (by omega) (by omega) _).mono ?_; rintro e w' ⟨rfl, rfl⟩)
        go_ret2
        exact ⟨rfl, rfl⟩
end Go.Proofs.Ytmaddmbiddiebaa
