/-
  The contract of Write of layer 2: for all numbers, the signs' bytes in memory of its own, or ErrUtf8 and nothing where one is none.
-/
import Derived.Test.YtkigpbajbafpcaaDoorOwnE
namespace Go.Proofs.YtkigpbajbafpcaaDoor
open Go.ChangeShapes Go.WideShapes Go.ChangeAt Go.RowKit
theorem row_at {k : IntKind} {w : World} {a : Option Addr} {l : List Int} (R : Row k w a l) {j : Nat} (h : j < l.length) : ∃ b off, a = some ⟨b, off, none⟩ ∧ b < w.heap.size ∧ w.cell? ⟨b, off + j, none⟩ = some (.int k (l[j]?.getD 0)) := by
  rcases R.2 with h0 | ⟨b, off, ha, hb, hc⟩
  · subst h0; simp at h
  · exact ⟨b, off, ha, hb, hc j h⟩
/-- How far the numbers are good. -/
theorem good_until (l : List Int) : ∃ p, p ≤ l.length ∧ (∀ z ∈ l.take p, Good z) ∧ (p < l.length → ¬ Good (l[p]?.getD 0)) := by
  induction l with
  | nil => exact ⟨0, Nat.le_refl _, by simp, by simp⟩
  | cons x l ih =>
    by_cases hx : Good x
    · obtain ⟨p, h1, h2, h3⟩ := ih
      refine ⟨p + 1, by simp; omega, ?_, fun h => by simpa using h3 (by simpa using h)⟩
      intro z hz
      rw [List.take_succ_cons] at hz
      rcases List.mem_cons.1 hz with rfl | hz
      · exact hx
      · exact h2 z hz
    · exact ⟨0, Nat.zero_le _, by simp, fun _ => by simpa using hx⟩
theorem row_owned {k : IntKind} {e : TypeId} {w : World} {base : Nat} {v : Value} {zs : List Int} (h : w.ownsRow base e 1 v zs.length (zs.map (Value.int k))) (hl : zs.length ≤ 140737488355328) :
    ∃ a cap, v = .slice a zs.length cap ∧ Row k w a zs ∧ (∀ x, a = some x → base ≤ x.block) ∧ (zs.length : Int) ≤ cap ∧ (a = none → zs.length = 0 ∧ cap = 0) := by
  obtain ⟨h1, h2⟩ := h
  rcases h2 with ⟨rfl, h2⟩ | ⟨g, cap, cur, rfl, hb, hg, hn, hm, hs, ht⟩
  · have e : zs = [] := List.eq_nil_of_length_eq_zero h2
    subst e
    exact ⟨none, 0, rfl, ⟨by simp, Or.inl rfl⟩, (fun x hx => by cases hx), by simp, (fun _ => ⟨rfl, rfl⟩)⟩
  · refine ⟨_, _, rfl, ⟨hl, Or.inr ⟨g, 0, rfl, ?_, ?_⟩⟩, (fun x hx => by cases hx; exact hb), by omega, (fun h => by cases h)⟩
    · exact lt_of_block hg
    · intro i hi
      have hown : w.ownsRow base e 1 (.slice (some ⟨g, 0, none⟩) zs.length cap) zs.length (zs.map (Value.int k)) := ⟨h1, Or.inr ⟨g, cap, cur, rfl, hb, hg, hn, hm, hs, ht⟩⟩
      have := hown.cellAt i (by omega)
      simp only [Nat.zero_add]
      rw [this, List.getElem?_map, List.getElem?_eq_getElem hi]
      rfl
theorem enc_snoc (l : List Int) (j : Nat) (hlt : j < l.length) : enc (l.take (j + 1)) = enc (l.take j) ++ put (l[j]?.getD 0) := by
  rw [List.take_succ_eq_append_getElem hlt, enc_append, List.getElem?_eq_getElem hlt]
  simp [enc]
theorem bv_append (l m : List Int) : bv (l ++ m) = bv l ++ bv m := List.map_append
/-- What Write tells. -/
def Wrote (l : List Int) (p : Nat) (w : World) (e : Ending) (w' : World) : Prop :=
  (p = l.length → ∃ a, e = .returned (.tuple #[.slice a (enc l).length (enc l).length, .int .i64 0]) ∧ Row .u8 w' a (enc l) ∧ ∀ x, a = some x → w.heap.size ≤ x.block) ∧
  (p < l.length → e = .returned (.tuple #[.slice none 0 0, .int .i64 3])) ∧ Below w.heap.size w w'
set_option maxHeartbeats 2000000 in
theorem write_any (l : List Int) (p : Nat) (a : Option Addr) (cap : Nat) (w : World) (R : Row .i64 w a l) (T : Tab w) (hl : l.length * 8 ≤ 140737488355328) (hp : p ≤ l.length) (hg : ∀ z ∈ l.take p, Good z) (hb : p < l.length → ¬ Good (l[p]?.getD 0)) :
    Calls Tryd.prog 8 #[.slice a l.length cap] w fun e w' => Wrote l p w e w' := by
  have hrow := @row_at _ _ _ _ R
  have Hb : Hid (p < l.length → ¬ Good (l[p]?.getD 0)) := hb
  clear hb
  go_enter Tryd.func8, Tryd.ntmps8
  go_wp2
  go_loopw [4, 8] (fun v i wr => ∃ j : Nat, j ≤ p ∧ i = .int .i64 j ∧ wr.ownsRow w.heap.size 5 1 v (enc (l.take j)).length (bv (enc (l.take j))) ∧ Below w.heap.size w wr) (fun _ i _ => l.length - (intOf i).toNat)
  case atStart => exact ⟨0, Nat.zero_le _, rfl, World.ownsRow_nil _ _ _ _, Below.refl _ _⟩
  case round =>
    obtain ⟨j, hj, rfl, hown, hnx⟩ := hrel
    have T' := T.below hnx T.1
    by_cases hlt : j < l.length
    · obtain ⟨b, off, ha, hb, hck⟩ := hrow hlt
      subst ha
      have hcx : wr.cell? ⟨b, off + j, none⟩ = some (.int .i64 (l[j]?.getD 0)) := (hnx.cell (p := ⟨b, off + j, none⟩) hb).trans hck
      by_cases hjp : j < p
      · have hgj : Good (l[j]?.getD 0) := by
          rw [List.getElem?_eq_getElem hlt]
          refine hg _ ?_
          rw [List.mem_take_iff_getElem]
          exact ⟨j, by omega, rfl⟩
        have HS : Hid (enc (l.take (j + 1)) = enc (l.take j) ++ put (l[j]?.getD 0)) := enc_snoc l j hlt
        have hlen := (enc_len (l.take j)).2
        rw [List.length_take] at hlen
        have hgb := goodB_true hgj
        have HG : Hid (Good (l[j]?.getD 0)) := hgj
        clear hgj
        obtain ⟨z, hz⟩ : ∃ z, l[j]?.getD 0 = z := ⟨_, rfl⟩
        rw [hz] at hcx HS hgb HG
        clear hck hrow hz hg
        go_wp2_with (first | (go_at_call 10; refine (good_any _ _).mono ?_; rintro e w' ⟨rfl, hw⟩; rw [hw]) | (go_at_call 18; refine (grow_any _ _ _ _ w.heap.size _ T' HG.out hown hnx.size (by omega)).mono ?_; rintro e w1 ⟨v', rfl, hown', hbel⟩))
        go_roundw
        case rel => exact ⟨j + 1, by omega, by go_num, by rw [HS.out, List.length_append, put_length, bv_append]; exact hown', hnx.trans hbel⟩
        case measure => simp [intOf]; omega
      · have hje : j = p := by omega
        subst hje
        have hgj := Hb.out hlt
        have hgb := goodB_false hgj
        clear hgj
        obtain ⟨z, hz⟩ : ∃ z, l[j]?.getD 0 = z := ⟨_, rfl⟩
        rw [hz] at hcx hgb
        clear hck hrow hz hg
        go_wp2_with (first | (go_at_call 10; refine (good_any _ _).mono ?_; rintro e w' ⟨rfl, hw⟩; rw [hw]))
        go_ret2
        exact ⟨fun h => absurd h (by omega), fun _ => rfl, hnx⟩
    · have hje : j = l.length := by omega
      have hjp : p = l.length := by omega
      subst hje
      rw [List.take_length] at hown
      have hlen := (enc_len l).2
      obtain ⟨a', c', hv, R', hx, hcap, hnil⟩ := row_owned hown (by omega)
      subst hv
      clear hown hrow
      go_wp2
      go_ret2
      exact ⟨fun _ => ⟨a', rfl, R', hx⟩, fun h => absurd h (by omega), hnx⟩
end Go.Proofs.YtkigpbajbafpcaaDoor
