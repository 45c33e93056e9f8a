/-
  The contracts of the document's Place, of layer 3's Places and the document's, and of the statements' own comparison of two lists of numbers; for all shapes.
-/
import Derived.Test.YtmjncdhahdpplaaOwnC
import Derived.Deep.OwnRows
import Derived.Deep.QuietTactic
import Derived.BigQuiet
namespace Go.Proofs.Ytmjncdhahdpplaa
open Go.ChangeShapes Go.WideShapes Go.ChangeAt Go.RowKit
theorem wrapId {x : Int} (h1 : -9223372036854775808 ≤ x) (h2 : x ≤ 9223372036854775807) : wrap64 x = x := by unfold wrap64; omega
theorem drewN_below {B : Nat} {w wr : World} (h : Below B w wr) (m : Nat) : Below B w (wr.drewN m) := ⟨h.os, h.tape, h.output, h.size, h.block⟩
set_option maxHeartbeats 1000000 in
theorem rplace_any {lo lo' : Nat} (l m : List Int) (a a' : Option Addr) (cap cap' : Nat) (w : World) (R : Row lo w a l) (R' : Row lo' w a' m) :
    Calls Try.prog 69 #[.slice a l.length cap, .slice a' m.length cap'] w fun e w' => e = .returned (.tuple #[.int .i64 (plcV l m), .int .i64 (plcE l m)]) ∧ Below w.heap.size w w' := by
  have C := rsize_any l a cap w R
  have hrow := @row_at _ _ _ _ R
  have hrow' := @row_at _ _ _ _ R'
  have hl := R.1
  have hl' := R'.1
  clear R R'
  by_cases hs : sizeE l = 0
  · by_cases h : m.length = l.length
    · have FO : Hid (∀ j, j < l.length → m[j]?.getD 0 < 0 ∨ l[j]?.getD 0 ≤ m[j]?.getD 0 → plcV l m = 0 ∧ plcE l m = 8) := fun j hj ho => plc_out hs h hj ho
      have FI : Hid ((∀ i, i < l.length → 0 ≤ m[i]?.getD 0 ∧ m[i]?.getD 0 < l[i]?.getD 0) → plcV l m = place l m ∧ plcE l m = 0 ∧ ¬ hasZero l) := fun hi => plc_in hs h hi
      have FB : Hid (¬ hasZero l → ∀ j, j < l.length → (∀ i, i < j → 0 ≤ m[i]?.getD 0 ∧ m[i]?.getD 0 < l[i]?.getD 0) → 0 ≤ m[j]?.getD 0 → m[j]?.getD 0 < l[j]?.getD 0 → 0 ≤ place (l.take j) (m.take j) ∧ place (l.take j) (m.take j) ≤ 16384 ∧ l[j]?.getD 0 ≤ 16384 ∧ 0 ≤ place (l.take j) (m.take j) * l[j]?.getD 0 ∧ place (l.take j) (m.take j) * l[j]?.getD 0 ≤ 268435456) := fun hz j hj hi h1 h2 => place_facts hs h hz hj hi h1 h2
      have FS : Hid (∀ j, j < l.length → place (l.take (j + 1)) (m.take (j + 1)) = place (l.take j) (m.take j) * l[j]?.getD 0 + m[j]?.getD 0) := fun j hj => place_take l m h j hj
      rw [hs] at C
      generalize plcV l m = V at FO FI
      generalize plcE l m = E at FO FI
      clear hs
      generalize sizeV l = S at C
      have hm0 : Hid (m.length = l.length) := h
      rw [h]
      clear h
      go_enter Try.func69, Try.ntmps69
      go_wp2_with (go_at_call 67; refine C.mono ?_; rintro e w' ⟨rfl, hw⟩; rw [hw])
      clear C
      go_loopw [8, 9] (fun x i wr => ∃ j : Nat, ∃ z : Int, j ≤ l.length ∧ i = .int .i64 j ∧ x = .int .i64 z ∧ Below w.heap.size w wr ∧ (¬ hasZero l → z = place (l.take j) (m.take j)) ∧ (∀ i, i < j → 0 ≤ m[i]?.getD 0 ∧ m[i]?.getD 0 < l[i]?.getD 0)) (fun _ i _ => l.length - (intOf i).toNat)
      case atStart => exact ⟨0, 0, Nat.zero_le _, rfl, rfl, Below.refl _ _, by simp [place], by simp⟩
      case round =>
        obtain ⟨j, z, hj, rfl, rfl, hnx, g1, g2⟩ := hrel
        have G : Hid ((¬ hasZero l → z = place (l.take j) (m.take j)) ∧ (∀ i, i < j → 0 ≤ m[i]?.getD 0 ∧ m[i]?.getD 0 < l[i]?.getD 0)) := ⟨g1, g2⟩
        clear g1 g2
        by_cases hlt : j < l.length
        · obtain ⟨b, off, ha, hb, hck⟩ := hrow hlt
          obtain ⟨b', off', ha', hb', hck'⟩ := hrow' (j := j) (by rw [hm0.out]; exact hlt)
          subst ha
          subst ha'
          have hc1 : wr.cell? ⟨b, off + j, none⟩ = some (.int .i64 (l[j]?.getD 0)) := (hnx.cell (p := ⟨b, off + j, none⟩) hb).trans hck
          have hc2 : wr.cell? ⟨b', off' + j, none⟩ = some (.int .i64 (m[j]?.getD 0)) := (hnx.cell (p := ⟨b', off' + j, none⟩) hb').trans hck'
          obtain ⟨s, hs⟩ : ∃ s, l[j]?.getD 0 = s := ⟨_, rfl⟩
          obtain ⟨t, ht⟩ : ∃ t, m[j]?.getD 0 = t := ⟨_, rfl⟩
          have HS : Hid (l[j]?.getD 0 = s ∧ m[j]?.getD 0 = t) := ⟨hs, ht⟩
          rw [hs] at hc1
          rw [ht] at hc2
          clear hrow hrow' hs ht hck hck'
          by_cases ho : t < 0 ∨ s ≤ t
          · have fm : Hid (V = 0 ∧ E = 8) := FO.out j hlt (by rw [HS.out.1, HS.out.2]; exact ho)
            by_cases ht0 : t < 0
            · have hd : decide (t < 0) = true := decide_eq_true ht0
              clear ho
              go_wp2
              go_quiet (fail)
              go_wp2
              go_ret2
              exact ⟨retII ⟨fm.out.1.symm, fm.out.2.symm⟩, drewN_below hnx _⟩
            · have hd : decide (t < 0) = false := decide_eq_false ht0
              have hd2 : s ≤ t := by omega
              clear ho
              go_wp2
              go_quiet (fail)
              go_wp2
              go_ret2
              exact ⟨retII ⟨fm.out.1.symm, fm.out.2.symm⟩, drewN_below hnx _⟩
          · have ht0 : ¬ t < 0 := by omega
            have hts : ¬ s ≤ t := by omega
            have GN : Hid (∀ i, i < j + 1 → 0 ≤ m[i]?.getD 0 ∧ m[i]?.getD 0 < l[i]?.getD 0) := by
              intro i hi
              rcases Nat.lt_succ_iff_lt_or_eq.1 hi with h | rfl
              · exact G.out.2 i h
              · rw [HS.out.1, HS.out.2]; omega
            have HZ : Hid (¬ hasZero l → wrap64 (wrap64 (z * s) + t) = place (l.take (j + 1)) (m.take (j + 1))) := by
              intro hz
              have hzz := G.out.1 hz
              obtain ⟨f1, f2, f3, f4, f5⟩ := FB.out hz j hlt G.out.2 (by rw [HS.out.2]; omega) (by rw [HS.out.1, HS.out.2]; omega)
              rw [← hzz, HS.out.1] at f4 f5
              rw [HS.out.1] at f3
              rw [FS.out j hlt, ← hzz, HS.out.1, HS.out.2, wrapId (x := z * s) (by omega) (by omega), wrapId (by omega) (by omega)]
            clear ho
            have hd : decide (t < 0) = false := decide_eq_false ht0
            go_wp2
            go_quiet (fail)
            go_wp2
            go_quiet (fail)
            go_wp2
            go_roundw
            case rel => exact ⟨j + 1, _, by omega, by go_num, rfl, drewN_below hnx _, HZ.out, GN.out⟩
            case measure => simp [intOf]; omega
        · have hje : j = l.length := by omega
          subst hje
          have fi := FI.out G.out.2
          have hz := G.out.1 fi.2.2
          rw [List.take_length, ← hm0.out, List.take_length] at hz
          have fo : Hid (V = z ∧ E = 0) := ⟨by rw [hz, fi.1], fi.2.1⟩
          clear fi hz
          go_wp2
          go_ret2
          exact ⟨retII ⟨fo.out.1.symm, fo.out.2.symm⟩, hnx⟩
    · rw [(plc_len hs h).1, (plc_len hs h).2]
      rw [hs] at C
      clear hs
      have h' : ¬ (m.length : Int) = (l.length : Int) := by omega
      go_enter Try.func69, Try.ntmps69
      go_wp2_with (go_at_call 67; refine C.mono ?_; rintro e w' ⟨rfl, hw⟩; rw [hw])
      go_ret2
      exact ⟨rfl, Below.refl _ _⟩
  · rw [(plc_bad hs).1, (plc_bad hs).2]
    generalize sizeE l = E at C hs
    go_enter Try.func69, Try.ntmps69
    go_wp2_with (go_at_call 67; refine C.mono ?_; rintro e w' ⟨rfl, hw⟩; rw [hw])
    go_ret2
    exact ⟨rfl, Below.refl _ _⟩
set_option maxHeartbeats 1000000 in
theorem ints_any {lo lo' : Nat} (l m : List Int) (a a' : Option Addr) (cap cap' : Nat) (w : World) (R : Row lo w a l) (R' : Row lo' w a' m) (h : m = l) :
    Calls Try.prog 84 #[.slice a l.length cap, .slice a' m.length cap'] w fun e w' => e = .returned (.bool true) ∧ Below w.heap.size w w' := by
  subst h
  have hrow := @row_at _ _ _ _ R
  have hrow' := @row_at _ _ _ _ R'
  have hl := R.1
  clear R R'
  go_enter Try.func84, Try.ntmps84
  go_wp2
  go_loopw [5] (fun i wr => ∃ j : Nat, j ≤ m.length ∧ i = .int .i64 j ∧ Below w.heap.size w wr) (fun i _ => m.length - (intOf i).toNat)
  case atStart => exact ⟨0, Nat.zero_le _, rfl, Below.refl _ _⟩
  case round =>
    obtain ⟨j, hj, rfl, hnx⟩ := hrel
    by_cases hlt : j < m.length
    · obtain ⟨b, off, ha, hb, hck⟩ := hrow hlt
      obtain ⟨b', off', ha', hb', hck'⟩ := hrow' hlt
      subst ha
      subst ha'
      have hc1 : wr.cell? ⟨b, off + j, none⟩ = some (.int .i64 (m[j]?.getD 0)) := (hnx.cell (p := ⟨b, off + j, none⟩) hb).trans hck
      have hc2 : wr.cell? ⟨b', off' + j, none⟩ = some (.int .i64 (m[j]?.getD 0)) := (hnx.cell (p := ⟨b', off' + j, none⟩) hb').trans hck'
      obtain ⟨z, hz⟩ : ∃ z, m[j]?.getD 0 = z := ⟨_, rfl⟩
      rw [hz] at hc1 hc2
      clear hrow hrow' hck hck' hz
      go_wp2
      go_region
      all_goals go_wp2
      all_goals go_roundw
      case rel => exact ⟨j + 1, by omega, by go_num, hnx.drew⟩
      case measure => simp [intOf]; omega
    · go_wp2
      go_ret
      exact ⟨rfl, hnx⟩
theorem int3 : (Try.prog.info? 3).map (fun i => (i.zero, i.size, i.bytes)) = some (some (.int .i64 0), 1, 8) := by kernel_rfl
/-- Places' answer. -/
def PlacesIs (l : List Int) (n : Int) (w : World) (e : Ending) (w' : World) : Prop :=
  Below w.heap.size w w' ∧ (sizeE l ≠ 0 → e = .returned (.tuple #[.slice none 0 0, .int .i64 (sizeE l)])) ∧
  (sizeE l = 0 → ¬ (0 ≤ n ∧ n < sizeV l) → e = .returned (.tuple #[.slice none 0 0, .int .i64 8])) ∧
  (sizeE l = 0 → 0 ≤ n → n < sizeV l → ∃ b, e = .returned (.tuple #[.slice (some ⟨b, 0, none⟩) l.length l.length, .int .i64 0]) ∧ Row w.heap.size w' (some ⟨b, 0, none⟩) (digits l n) ∧ (∀ z ∈ l, 0 < z) ∧ n < prodL l)
theorem sizeV_in {l : List Int} {n : Int} (hs : sizeE l = 0) (h0 : 0 ≤ n) (h1 : n < sizeV l) : ¬ 8 < l.length ∧ (∀ z ∈ l, 0 < z) ∧ sizeV l = prodL l ∧ prodL l ≤ 16384 := by
  obtain ⟨a, b, c⟩ := sizeE_ok hs
  rcases c with c | ⟨c, d⟩
  · rw [(size_zero a b c).1] at h1
    omega
  · exact ⟨a, all_pos b c, (size_ok a b c (by omega)).1, d⟩
/-- Digit i of the places. -/
theorem digits_get (l : List Int) (hp : ∀ z ∈ l, 0 < z) (n : Int) (i : Nat) (hi : i < l.length) : (digits l n)[i]?.getD 0 = n % prodL (l.drop i) / prodL (l.drop (i + 1)) ∨ i = 0 := by
  induction l generalizing n i with
  | nil => simp at hi
  | cons s ss ih =>
    cases i with
    | zero => exact Or.inr rfl
    | succ i =>
      left
      have hp' : ∀ z ∈ ss, 0 < z := fun z hz => hp z (List.mem_cons_of_mem _ hz)
      simp only [digits, List.getElem?_cons_succ, List.drop_succ_cons]
      have hi' : i < ss.length := by simpa using hi
      rcases ih hp' (n % prodL ss) i hi' with h | h
      · rw [h]
        have e : prodL ss = prodL (ss.take i) * prodL (ss.drop i) := by rw [← prodL_append, List.take_append_drop]
        have : n % prodL ss % prodL (ss.drop i) = n % prodL (ss.drop i) := by
          rw [e]
          exact Int.emod_emod_of_dvd n ⟨prodL (ss.take i), Int.mul_comm _ _⟩
        rw [this]
      · subst h
        cases ss with
        | nil => simp at hi'
        | cons x xs => simp [digits]
theorem digit_ref (l : List Int) (hp : ∀ z ∈ l, 0 < z) (n : Int) (h0 : 0 ≤ n) (h1 : n < prodL l) (i : Nat) (hi : i < l.length) : (digits l n)[i]?.getD 0 = n % prodL (l.drop i) / prodL (l.drop (i + 1)) := by
  rcases digits_get l hp n i hi with h | h
  · exact h
  · subst h
    cases l with
    | nil => simp at hi
    | cons x xs =>
      simp only [digits, List.drop_zero, List.drop_succ_cons, Int.emod_eq_of_lt h0 h1]
      simp
theorem prodL_drop (l : List Int) (i : Nat) (hi : i < l.length) : prodL (l.drop i) = l[i]?.getD 0 * prodL (l.drop (i + 1)) := by
  rw [List.drop_eq_getElem_cons hi]
  simp [prodL, hi]
theorem mod_div (n s p : Int) (hs : 0 < s) (hp : 0 < p) (h0 : 0 ≤ n) : n % (s * p) / p = n / p % s := by
  obtain ⟨n', rfl⟩ := Int.eq_ofNat_of_zero_le h0
  obtain ⟨s', rfl⟩ := Int.eq_ofNat_of_zero_le (Int.le_of_lt hs)
  obtain ⟨p', rfl⟩ := Int.eq_ofNat_of_zero_le (Int.le_of_lt hp)
  have := Nat.mod_mul_right_div_self n' p' s'
  rw [Nat.mul_comm] at this
  exact_mod_cast this
theorem digit_own (l : List Int) (hp : ∀ z ∈ l, 0 < z) (n : Int) (h0 : 0 ≤ n) (h1 : n < prodL l) (i : Nat) (hi : i < l.length) : (digits l n)[i]?.getD 0 = n / prodL (l.drop (i + 1)) % l[i]?.getD 0 := by
  rw [digit_ref l hp n h0 h1 i hi, prodL_drop l i hi, mod_div n _ _ (hp _ (getD_mem hi)) (by have := prodL_pos (l := l.drop (i + 1)) fun z hz => hp z (List.mem_of_mem_drop hz); omega) h0]
theorem row_made {w : World} {b : Nat} {t : TypeId} {n : Nat} {f : Nat → Value} {zs : List Int} {lo : Nat} (h : w.rowIs b t n f) (hl : zs.length = n) (hlo : lo ≤ b) (hm : n ≤ 140737488355328) (hf : ∀ i, i < n → f i = .int .i64 (zs[i]?.getD 0)) : Row lo w (some ⟨b, 0, none⟩) zs := by
  refine ⟨by omega, Or.inr ⟨b, 0, rfl, hlo, h.lt, ?_⟩⟩
  intro i hi
  rw [Nat.zero_add, h.cell (by omega), hf i (by omega)]
end Go.Proofs.Ytmjncdhahdpplaa
