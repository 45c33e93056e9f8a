/-
  The contracts of layer 3's Places and of the document's: where a cell stands, axis by axis, in memory of its own; for all shapes and numbers.
-/
import Derived.Test.YtmjncdhahdpplaaOwnD
namespace Go.Proofs.Ytmjncdhahdpplaa
open Go.ChangeShapes Go.WideShapes Go.ChangeAt Go.RowKit
theorem places_bad {l : List Int} {n : Int} {w w' : World} (hs : ¬ sizeE l = 0) (hb : Below w.heap.size w w') : PlacesIs l n w (.returned (.tuple #[.slice none 0 0, .int .i64 (sizeE l)])) w' :=
  ⟨hb, fun _ => rfl, fun h => absurd h hs, fun h => absurd h hs⟩
theorem places_out {l : List Int} {n : Int} {w w' : World} (hs : sizeE l = 0) (ho : ¬ (0 ≤ n ∧ n < sizeV l)) (hb : Below w.heap.size w w') : PlacesIs l n w (.returned (.tuple #[.slice none 0 0, .int .i64 8])) w' :=
  ⟨hb, fun h => absurd hs h, fun _ _ => rfl, fun _ h1 h2 => absurd ⟨h1, h2⟩ ho⟩
theorem places_in {l : List Int} {n : Int} {w w' : World} (hs : sizeE l = 0) (h0 : 0 ≤ n) (h1 : n < sizeV l) (hb : Below w.heap.size w w') (f : Nat → Value) (hr : w'.rowIs w.heap.size 3 l.length f) (hf : ∀ i, i < l.length → f i = .int .i64 ((digits l n)[i]?.getD 0)) : PlacesIs l n w (.returned (.tuple #[.slice (some ⟨w.heap.size, 0, none⟩) l.length l.length, .int .i64 0])) w' := by
  obtain ⟨a, b, c, d⟩ := sizeV_in hs h0 h1
  exact ⟨hb, fun h => absurd hs h, fun _ h => absurd ⟨h0, h1⟩ h, fun _ _ _ => ⟨_, rfl, row_made hr (digits_length l n) (Nat.le_refl _) (by omega) hf, b, by omega⟩⟩
theorem cell_apart {w : World} {p q : Addr} {v : Value} (h : p.block ≠ q.block) (x : Value) (hc : w.cell? p = some v) : (w.setCell q x).cell? p = some v := by
  rw [World.cell?_of_block (w := w) (Below.heap_setCell w q x p.block h)]
  exact hc
set_option maxHeartbeats 1000000 in
theorem rplaces_any {lo : Nat} (l : List Int) (n : Int) (a : Option Addr) (cap : Nat) (w : World) (R : Row lo w a l) :
    Calls Try.prog 68 #[.slice a l.length cap, .int .i64 n] w fun e w' => PlacesIs l n w e w' := by
  have C := rsize_any l a cap w R
  have hrow := @row_at _ _ _ _ R
  have hl := R.1
  clear R
  by_cases hs : sizeE l = 0
  · by_cases ho : 0 ≤ n ∧ n < sizeV l
    · obtain ⟨h0, h1⟩ := ho
      obtain ⟨s1, s2, s3, s4⟩ := sizeV_in hs h0 h1
      have FIN := fun (w' : World) (hb : Below w.heap.size w w') f hr hf => places_in hs h0 h1 hb f hr hf
      rw [hs] at C
      have DG : Hid (∀ i, i < l.length → (digits l n)[i]?.getD 0 = n % prodL (l.drop i) / prodL (l.drop (i + 1))) := fun i hi => digit_ref l s2 n h0 (by omega) i hi
      have DD : Hid (∀ i, i < l.length → 0 < l[i]?.getD 0 ∧ l[i]?.getD 0 ≤ 16384 ∧ 0 < prodL (l.drop (i + 1)) ∧ prodL (l.drop i) = l[i]?.getD 0 * prodL (l.drop (i + 1)) ∧ prodL (l.drop i) ≤ 16384 ∧ 0 ≤ n % prodL (l.drop i) ∧ n % prodL (l.drop i) ≤ 16384 ∧ n % prodL (l.drop i) % prodL (l.drop (i + 1)) = n % prodL (l.drop (i + 1))) := by
        intro i hi
        have p1 := s2 _ (getD_mem hi)
        have p2 := prod_of_mem s2 (getD_mem hi)
        have p3 := prodL_pos (l := l.drop (i + 1)) fun z hz => s2 z (List.mem_of_mem_drop hz)
        have p4 := prodL_pos (l := l.drop i) fun z hz => s2 z (List.mem_of_mem_drop hz)
        have p5 : prodL (l.drop i) ≤ prodL l := by
          have e : prodL l = prodL (l.take i) * prodL (l.drop i) := by rw [← prodL_append, List.take_append_drop]
          have p6 := prodL_pos (l := l.take i) fun z hz => s2 z (List.mem_of_mem_take hz)
          have := Int.mul_le_mul (a := 1) (b := prodL (l.drop i)) (c := prodL (l.take i)) (d := prodL (l.drop i)) (by omega) (by omega) (by omega) (by omega)
          omega
        have p7 := Int.emod_nonneg n (show prodL (l.drop i) ≠ 0 by omega)
        have p8 := Int.emod_lt_of_pos n (show 0 < prodL (l.drop i) by omega)
        refine ⟨p1, by omega, by omega, prodL_drop l i hi, by omega, p7, by omega, ?_⟩
        exact Int.emod_emod_of_dvd n ⟨l[i]?.getD 0, by rw [prodL_drop l i hi, Int.mul_comm]⟩
      have H0 : Hid (n = n % prodL (l.drop 0) ∧ sizeV l = prodL (l.drop 0)) := ⟨by rw [List.drop_zero, Int.emod_eq_of_lt h0 (by omega)], s3⟩
      have mk := run_make_row' (P := Try.prog) 22 3 (.int .i64 0) 8 Try.underlying22 int3 rfl .i64 .i64 l.length (by omega) (by omega)
      have rm := World.rowIs_made w (.int .i64 0) l.length 3
      have bm : Below w.heap.size w (w.alloc (.cells (madeCells #[.int .i64 0] l.length) 3)) := (Below.refl _ _).alloc (Nat.le_refl _) _
      have FIN' : Hid (∀ (w' : World) (hb : Below w.heap.size w w') f (hr : w'.rowIs w.heap.size 3 l.length f) (hf : ∀ i, i < l.length → f i = .int .i64 ((digits l n)[i]?.getD 0)), PlacesIs l n w (.returned (.tuple #[.slice (some ⟨w.heap.size, 0, none⟩) l.length l.length, .int .i64 0])) w') := FIN
      clear FIN
      have BM : Hid _ := bm
      have RM : Hid ((w.alloc (.cells (madeCells #[.int .i64 0] l.length) 3)).rowIs w.heap.size 3 l.length (fun _ => .int .i64 0)) := rm
      clear bm rm s2 hs s3
      generalize sizeV l = S at C h1 H0
      go_enter Try.func68, Try.ntmps68
      go_wp2_with (go_at_call 67; refine C.mono ?_; rintro e w' ⟨rfl, hw⟩; rw [hw])
      clear C mk
      go_loopw [1, 9, 10] (fun nn st i wr => ∃ k : Nat, k ≤ l.length ∧ i = .int .i64 (k : Int) ∧ nn = .int .i64 (n % prodL (l.drop k)) ∧ st = .int .i64 (prodL (l.drop k)) ∧ Below w.heap.size w wr ∧ wr.rowIs w.heap.size 3 l.length (fun i => if i < k then .int .i64 ((digits l n)[i]?.getD 0) else .int .i64 0)) (fun _ _ i _ => l.length - (intOf i).toNat)
      case atStart =>
        refine ⟨0, Nat.zero_le _, by go_num, by rw [← H0.out.1], by rw [H0.out.2], BM.out, World.rowIs.congr RM.out ?_⟩
        intro i hi
        simp
      case round =>
        obtain ⟨k, hk, rfl, rfl, rfl, hnx, hr⟩ := hrel
        by_cases hlt : k < l.length
        · obtain ⟨b, off, ha, hb, hck⟩ := hrow hlt
          subst ha
          have hc1 : wr.cell? ⟨b, off + k, none⟩ = some (.int .i64 (l[k]?.getD 0)) := (hnx.cell (p := ⟨b, off + k, none⟩) hb).trans hck
          have hz := hr.cell hlt
          rw [if_neg (by omega)] at hz
          have hfz := hr.frozen k
          obtain ⟨d1, d2, d3, d4, d5, d6, d7, d8⟩ := DD.out k hlt
          have dg := DG.out k hlt
          obtain ⟨s, es⟩ : ∃ s, l[k]?.getD 0 = s := ⟨_, rfl⟩
          rw [es] at hc1 d1 d2 d4
          obtain ⟨q, eq⟩ : ∃ q, n % prodL (l.drop k) = q := ⟨_, rfl⟩
          rw [eq] at d6 d7 d8 dg ⊢
          obtain ⟨P, eP⟩ : ∃ P, prodL (l.drop k) = P := ⟨_, rfl⟩
          rw [eP] at d4 d5 ⊢
          have D8 : Hid (q % prodL (l.drop (k + 1)) = n % prodL (l.drop (k + 1))) := d8
          obtain ⟨p, ep⟩ : ∃ p, prodL (l.drop (k + 1)) = p := ⟨_, rfl⟩
          have EP : Hid (prodL (l.drop (k + 1)) = p) := ep
          rw [ep] at d3 d4 dg
          have u1 : P / s = p := by rw [d4]; exact Int.mul_ediv_cancel_left _ (by omega)
          have u2 : 1 ≤ s := by omega
          have u3 : p ≤ P := by
            have := Int.mul_le_mul (a := 1) (b := p) (c := s) (d := p) (by omega) (by omega) (by omega) (by omega)
            omega
          have hne : (s == 0) = false := beq_eq_false_iff_ne.2 (by omega)
          have hne2 : (p == 0) = false := beq_eq_false_iff_ne.2 (by omega)
          have t0 : P.tdiv s = p := by rw [Int.tdiv_eq_ediv_of_nonneg (by omega)]; exact u1
          have t1 : q.tmod p = q % p := Int.tmod_eq_emod_of_nonneg d6
          have t2 : q.tdiv p = q / p := Int.tdiv_eq_ediv_of_nonneg d6
          have t3 : 0 ≤ q / p := Int.ediv_nonneg d6 (by omega)
          have t4 : q / p ≤ q := Int.ediv_le_self _ d6
          have t5 : 0 ≤ q % p := Int.emod_nonneg _ (by omega)
          have t6 : q % p < p := Int.emod_lt_of_pos _ d3
          have hset := hr.set k (.int .i64 (q / p))
          have HS : Hid ((wr.setCell ⟨w.heap.size, k, none⟩ (.int .i64 (q / p))).rowIs w.heap.size 3 l.length (fun i => if i < k + 1 then .int .i64 ((digits l n)[i]?.getD 0) else .int .i64 0)) := by
            refine hset.congr ?_
            intro i hi
            by_cases e : i = k
            · subst e; rw [if_pos rfl, if_pos (Nat.lt_succ_self _), dg]
            · rw [if_neg e]
              by_cases e2 : i < k
              · rw [if_pos e2, if_pos (by omega)]
              · rw [if_neg e2, if_neg (by omega)]
          have HB : Hid (Below w.heap.size w (wr.setCell ⟨w.heap.size, k, none⟩ (.int .i64 (q / p)))) := hnx.setCell (p := ⟨w.heap.size, k, none⟩) (Nat.le_refl _) _
          clear hset hr dg es eq hrow hck DG DD FIN' eP d4 d8 ep u1
          go_wp2
          go_roundw
          case rel => exact ⟨k + 1, by omega, by go_num, by rw [← D8.out, EP.out], by rw [EP.out], HB.out, HS.out⟩
          case measure => simp [intOf]; omega
        · have hje : k = l.length := by omega
          subst hje
          have F := FIN'.out wr hnx _ hr (fun i hi => by rw [if_pos hi])
          have F' : Hid _ := F
          clear F hr FIN' DG DD
          go_wp2
          go_ret2
          exact F'.out
    · have F : Hid (PlacesIs l n w (.returned (.tuple #[.slice none 0 0, .int .i64 8])) w) := places_out hs ho (Below.refl _ _)
      rw [hs] at C
      generalize sizeV l = S at C ho
      by_cases h0 : n < 0
      · have hd : decide (n < 0) = true := decide_eq_true h0
        clear hs ho
        go_enter Try.func68, Try.ntmps68
        go_wp2_with (go_at_call 67; refine C.mono ?_; rintro e w' ⟨rfl, hw⟩; rw [hw])
        go_ret2
        exact F.out
      · have hd : decide (n < 0) = false := decide_eq_false h0
        have h1 : S ≤ n := by omega
        clear hs ho
        go_enter Try.func68, Try.ntmps68
        go_wp2_with (go_at_call 67; refine C.mono ?_; rintro e w' ⟨rfl, hw⟩; rw [hw])
        go_ret2
        exact F.out
  · have F : Hid (PlacesIs l n w (.returned (.tuple #[.slice none 0 0, .int .i64 (sizeE l)])) w) := places_bad hs (Below.refl _ _)
    generalize sizeE l = E at C hs F
    go_enter Try.func68, Try.ntmps68
    go_wp2_with (go_at_call 67; refine C.mono ?_; rintro e w' ⟨rfl, hw⟩; rw [hw])
    go_ret2
    exact F.out
end Go.Proofs.Ytmjncdhahdpplaa
