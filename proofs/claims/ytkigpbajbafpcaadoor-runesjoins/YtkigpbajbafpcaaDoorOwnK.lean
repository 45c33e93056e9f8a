/-
  The contract of the document's own Write: for all numbers, the signs' bytes in memory of its own, or ErrUtf8 and nothing where one is none.
-/
import Derived.Test.YtkigpbajbafpcaaDoorOwnJ
namespace Go.Proofs.YtkigpbajbafpcaaDoor
open Go.ChangeShapes Go.WideShapes Go.ChangeAt Go.RowKit
/-- What the document's Write tells. -/
def WroteR (l : List Int) (p : Nat) (w : World) (e : Ending) (w' : World) : Prop :=
  (p = l.length → ∃ a c, e = .returned (.tuple #[.slice a (enc l).length c, .int .i64 0]) ∧ Row .u8 w' a (enc l)) ∧
  (p < l.length → e = .returned (.tuple #[.slice none 0 0, .int .i64 3])) ∧ Below w.heap.size w w'
theorem news_new (w : World) (zs : List Int) (j : Nat) (u : Value) (hj : (bv zs)[j]? = some u) : (w.alloc (.cells (bv zs).toArray 5)).cell? ((⟨w.heap.size, 0, none⟩ : Addr).add j) = some u := by
  have ea : (⟨w.heap.size, 0, none⟩ : Addr).add j = ⟨w.heap.size, j, none⟩ := by
    unfold Addr.add
    split
    · subst_vars; rfl
    · simp
  have hb : (w.alloc (.cells (bv zs).toArray 5)).heap[w.heap.size]? = some (.cells (bv zs).toArray 5) := by
    show (w.heap.push _)[w.heap.size]? = _
    simp
  rw [ea]
  unfold World.cell?
  simp only [hb]
  simpa using hj
set_option maxHeartbeats 2000000 in
theorem writeR_any (l : List Int) (p : Nat) (a : Option Addr) (cap : Nat) (w : World) (R : Row .i64 w a l) (hl : l.length * 8 ≤ 140737488355328) (hp : p ≤ l.length) (hg : ∀ z ∈ l.take p, Good z) (hb : p < l.length → ¬ Good (l[p]?.getD 0)) :
    Calls Tryd.prog 9 #[.slice a l.length cap] w fun e w' => WroteR l p w e w' := by
  obtain ⟨i0, hi, hz0, hz1, hz2⟩ := info_parts info5
  have hrow := @row_at _ _ _ _ R
  have Hb : Hid (p < l.length → ¬ Good (l[p]?.getD 0)) := hb
  clear hb
  go_enter Tryd.func9, Tryd.ntmps9
  go_wp2
  go_loopw [4, 5] (fun v i wr => ∃ j : Nat, j ≤ p ∧ i = .int .i64 j ∧ wr.ownsRow w.heap.size 5 1 v (enc (l.take j)).length (bv (enc (l.take j))) ∧ Below w.heap.size w wr) (fun _ i _ => l.length - (intOf i).toNat)
  case atStart => exact ⟨0, Nat.zero_le _, rfl, World.ownsRow_nil _ _ _ _, Below.refl _ _⟩
  case round =>
    obtain ⟨j, hj, rfl, hown, hnx⟩ := hrel
    by_cases hlt : j < l.length
    · obtain ⟨b, off, ha, hb, hck⟩ := hrow hlt
      subst ha
      have hcx : wr.cell? ⟨b, off + j, none⟩ = some (.int .i64 (l[j]?.getD 0)) := (hnx.cell (p := ⟨b, off + j, none⟩) hb).trans hck
      by_cases hjp : j < p
      · have hgj : Good (l[j]?.getD 0) := by
          rw [List.getElem?_eq_getElem hlt]
          refine hg _ ?_
          rw [List.mem_take_iff_getElem]
          exact ⟨j, by omega, rfl⟩
        have HS : Hid (enc (l.take (j + 1)) = enc (l.take j) ++ put (l[j]?.getD 0)) := enc_snoc l j hlt
        have hlen := (enc_len (l.take j)).2
        rw [List.length_take] at hlen
        have hgb := goodB_true hgj
        have HG : Hid (Good (l[j]?.getD 0)) := hgj
        clear hgj
        obtain ⟨z, hz⟩ : ∃ z, l[j]?.getD 0 = z := ⟨_, rfl⟩
        rw [hz] at hcx HS hgb HG
        clear hck hrow hz hg
        have hwz := wid_pos z
        have HL := put_length z
        have hne : Hid (put z ≠ []) := put_ne
        have HN : Hid (∀ w' : World, ∀ j u, (bv (put z))[j]? = some u → (w'.alloc (.cells (bv (put z)).toArray 5)).cell? ((⟨w'.heap.size, 0, none⟩ : Addr).add j) = some u) := fun w' => news_new w' (put z)
        obtain ⟨q, hq⟩ : ∃ q, put z = q := ⟨_, rfl⟩
        obtain ⟨k, hk⟩ : ∃ k, wid z = k := ⟨_, rfl⟩
        have C := put_any z wr HG.out
        rw [hk] at hwz HL C
        rw [hq] at HL C HS HN hne
        have HQ : Hid (put z = q) := hq
        have HK : Hid (wid z = k) := hk
        have HL' : Hid (q.length = k) := HL
        clear hq hk HL
        go_wp2_with (first | (go_at_call 11; refine (goodR_any _ _).mono ?_; rintro e w' ⟨rfl, hw⟩; rw [hw]) | (go_at_call 19; refine C.mono ?_; rintro e w1 ⟨rfl, hw1⟩; rw [hw1]) | (at_builtin; refine wpList_append_own _ rfl _ _ 23 rfl w.heap.size 5 i0 (.int .u8 0) 1 1 Tryd.underlying23 hi hz0 hz1 hz2 rfl (by decide) _ _ _ rfl (hown.alloc _) ⟨wr.heap.size, 0, none⟩ k k (bv q) rfl ?c0 (HN.out wr) ?c2 ?c3 ?c4 ?c5 ?_))
        case c0 => have := HL'.out; simp; omega
        case c2 => intro u hu; simp at hu; obtain ⟨x, _, rfl⟩ := hu; rfl
        case c3 => unfold maxLen; omega
        case c4 => omega
        case c5 => have := hnx.size; simp; omega
        · intro v' w2 hown' hgrow _
          have hbel : Below w.heap.size w w2 := (hnx.alloc hnx.size _).grown hgrow (by have := hnx.size; simp; omega) (fun x hx => (hown.lt x hx).1)
          have hown2 : w2.ownsRow w.heap.size 5 1 v' (enc (l.take (j + 1))).length (bv (enc (l.take (j + 1)))) := by
            rw [HS.out, List.length_append, HL'.out, bv_append]
            exact hown'
          clear hown' hgrow hown hnx hcx C
          go_wp2
          go_roundw
          case rel => exact ⟨j + 1, by omega, by go_num, hown2, hbel⟩
          case measure => simp [intOf]; omega
      · have hje : j = p := by omega
        subst hje
        have hgj := Hb.out hlt
        have hgb := goodB_false hgj
        clear hgj
        obtain ⟨z, hz⟩ : ∃ z, l[j]?.getD 0 = z := ⟨_, rfl⟩
        rw [hz] at hcx hgb
        clear hck hrow hz hg
        go_wp2_with (first | (go_at_call 11; refine (goodR_any _ _).mono ?_; rintro e w' ⟨rfl, hw⟩; rw [hw]))
        go_ret2
        exact ⟨fun h => absurd h (by omega), fun _ => rfl, hnx⟩
    · have hje : j = l.length := by omega
      have hjp : p = l.length := by omega
      subst hje
      rw [List.take_length] at hown
      have hlen := (enc_len l).2
      obtain ⟨a', c', hv, R', hx, hcap, hnil⟩ := row_owned hown (by omega)
      subst hv
      clear hown hrow
      go_wp2
      go_ret2
      exact ⟨fun _ => ⟨a', _, rfl, R'⟩, fun h => absurd h (by omega), hnx⟩
end Go.Proofs.YtkigpbajbafpcaaDoor
