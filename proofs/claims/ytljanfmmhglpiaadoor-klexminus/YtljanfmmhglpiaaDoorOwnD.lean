/-
  The contracts of the document's Place, of layer 3's Places and the document's, and of the statements' own comparison of two lists of numbers; for all shapes.
-/
import Derived.Test.YtljanfmmhglpiaaDoorOwnB
import Derived.Test.YtljanfmmhglpiaaDoorOwnC
import Derived.Test.YtljanfmmhglpiaaDoorRows
import Derived.WalkKit
import Derived.ProofKit
import Derived.Below
import Derived.Deep.OwnRows
import Derived.Deep.QuietTactic
import Derived.BigQuiet
namespace Go.Proofs.YtljanfmmhglpiaaDoor
open Go.ChangeShapes Go.WideShapes Go.ChangeAt Go.RowKit
theorem wrapId {x : Int} (h1 : -9223372036854775808 ≤ x) (h2 : x ≤ 9223372036854775807) : wrap64 x = x := by unfold wrap64; omega
theorem drewN_below {B : Nat} {w wr : World} (h : Below B w wr) (m : Nat) : Below B w (wr.drewN m) := ⟨h.os, h.tape, h.output, h.size, h.block⟩
theorem int3 : (Tryd.prog.info? 3).map (fun i => (i.zero, i.size, i.bytes)) = some (some (.int .i64 0), 1, 8) := by kernel_rfl
/-- Places' answer. -/
def PlacesIs (l : List Int) (n : Int) (w : World) (e : Ending) (w' : World) : Prop :=
  Below w.heap.size w w' ∧ (sizeE l ≠ 0 → e = .returned (.tuple #[.slice none 0 0, .int .i64 (sizeE l)])) ∧
  (sizeE l = 0 → ¬ (0 ≤ n ∧ n < sizeV l) → e = .returned (.tuple #[.slice none 0 0, .int .i64 8])) ∧
  (sizeE l = 0 → 0 ≤ n → n < sizeV l → ∃ b, e = .returned (.tuple #[.slice (some ⟨b, 0, none⟩) l.length l.length, .int .i64 0]) ∧ Row w.heap.size w' (some ⟨b, 0, none⟩) (digits l n) ∧ (∀ z ∈ l, 0 < z) ∧ n < prodL l)
theorem sizeV_in {l : List Int} {n : Int} (hs : sizeE l = 0) (h0 : 0 ≤ n) (h1 : n < sizeV l) : ¬ 8 < l.length ∧ (∀ z ∈ l, 0 < z) ∧ sizeV l = prodL l ∧ prodL l ≤ 16384 := by
  obtain ⟨a, b, c⟩ := sizeE_ok hs
  rcases c with c | ⟨c, d⟩
  · rw [(size_zero a b c).1] at h1
    omega
  · exact ⟨a, all_pos b c, (size_ok a b c (by omega)).1, d⟩
/-- Digit i of the places. -/
theorem digits_get (l : List Int) (hp : ∀ z ∈ l, 0 < z) (n : Int) (i : Nat) (hi : i < l.length) : (digits l n)[i]?.getD 0 = n % prodL (l.drop i) / prodL (l.drop (i + 1)) ∨ i = 0 := by
  induction l generalizing n i with
  | nil => simp at hi
  | cons s ss ih =>
    cases i with
    | zero => exact Or.inr rfl
    | succ i =>
      left
      have hp' : ∀ z ∈ ss, 0 < z := fun z hz => hp z (List.mem_cons_of_mem _ hz)
      simp only [digits, List.getElem?_cons_succ, List.drop_succ_cons]
      have hi' : i < ss.length := by simpa using hi
      rcases ih hp' (n % prodL ss) i hi' with h | h
      · rw [h]
        have e : prodL ss = prodL (ss.take i) * prodL (ss.drop i) := by rw [← prodL_append, List.take_append_drop]
        have : n % prodL ss % prodL (ss.drop i) = n % prodL (ss.drop i) := by
          rw [e]
          exact Int.emod_emod_of_dvd n ⟨prodL (ss.take i), Int.mul_comm _ _⟩
        rw [this]
      · subst h
        cases ss with
        | nil => simp at hi'
        | cons x xs => simp [digits]
theorem digit_ref (l : List Int) (hp : ∀ z ∈ l, 0 < z) (n : Int) (h0 : 0 ≤ n) (h1 : n < prodL l) (i : Nat) (hi : i < l.length) : (digits l n)[i]?.getD 0 = n % prodL (l.drop i) / prodL (l.drop (i + 1)) := by
  rcases digits_get l hp n i hi with h | h
  · exact h
  · subst h
    cases l with
    | nil => simp at hi
    | cons x xs =>
      simp only [digits, List.drop_zero, List.drop_succ_cons, Int.emod_eq_of_lt h0 h1]
      simp
theorem prodL_drop (l : List Int) (i : Nat) (hi : i < l.length) : prodL (l.drop i) = l[i]?.getD 0 * prodL (l.drop (i + 1)) := by
  rw [List.drop_eq_getElem_cons hi]
  simp [prodL, hi]
theorem mod_div (n s p : Int) (hs : 0 < s) (hp : 0 < p) (h0 : 0 ≤ n) : n % (s * p) / p = n / p % s := by
  obtain ⟨n', rfl⟩ := Int.eq_ofNat_of_zero_le h0
  obtain ⟨s', rfl⟩ := Int.eq_ofNat_of_zero_le (Int.le_of_lt hs)
  obtain ⟨p', rfl⟩ := Int.eq_ofNat_of_zero_le (Int.le_of_lt hp)
  have := Nat.mod_mul_right_div_self n' p' s'
  rw [Nat.mul_comm] at this
  exact_mod_cast this
theorem digit_own (l : List Int) (hp : ∀ z ∈ l, 0 < z) (n : Int) (h0 : 0 ≤ n) (h1 : n < prodL l) (i : Nat) (hi : i < l.length) : (digits l n)[i]?.getD 0 = n / prodL (l.drop (i + 1)) % l[i]?.getD 0 := by
  rw [digit_ref l hp n h0 h1 i hi, prodL_drop l i hi, mod_div n _ _ (hp _ (getD_mem hi)) (by have := prodL_pos (l := l.drop (i + 1)) fun z hz => hp z (List.mem_of_mem_drop hz); omega) h0]
theorem row_made {w : World} {b : Nat} {t : TypeId} {n : Nat} {f : Nat → Value} {zs : List Int} {lo : Nat} (h : w.rowIs b t n f) (hl : zs.length = n) (hlo : lo ≤ b) (hm : n ≤ 140737488355328) (hf : ∀ i, i < n → f i = .int .i64 (zs[i]?.getD 0)) : Row lo w (some ⟨b, 0, none⟩) zs := by
  refine ⟨by omega, Or.inr ⟨b, 0, rfl, hlo, h.lt, ?_⟩⟩
  intro i hi
  rw [Nat.zero_add, h.cell (by omega), hf i (by omega)]
end Go.Proofs.YtljanfmmhglpiaaDoor
