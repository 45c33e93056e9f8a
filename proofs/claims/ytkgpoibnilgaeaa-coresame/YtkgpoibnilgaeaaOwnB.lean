/-
  A slice of integers as a row of numbers; the contracts of layer 3's Size and of the document's: how many cells a shape has, for all shapes.
-/
import Derived.Test.YtkgpoibnilgaeaaOwnA
import Derived.Test.YtkgpoibnilgaeaaRows
import Derived.WalkKit
import Derived.ProofKit
import Derived.Below
namespace Go.Proofs.Ytkgpoibnilgaeaa
open Go.ChangeShapes Go.WideShapes Go.ChangeAt Go.RowKit
/-- A slice of integers, as a row of numbers, all of it in blocks from lo on. -/
def Row (lo : Nat) (w : World) (a : Option Addr) (zs : List Int) : Prop :=
  zs.length ≤ 140737488355328 ∧ (zs = [] ∨ ∃ b off, a = some ⟨b, off, none⟩ ∧ lo ≤ b ∧ b < w.heap.size ∧ ∀ i, i < zs.length → w.cell? ⟨b, off + i, none⟩ = some (.int .i64 (zs[i]?.getD 0)))
theorem Row.next {lo : Nat} {w w1 : World} {a : Option Addr} {zs : List Int} (h : Row lo w a zs) (hb : Below w.heap.size w w1) : Row lo w1 a zs := by
  obtain ⟨h2, h3⟩ := h
  refine ⟨h2, ?_⟩
  rcases h3 with h3 | ⟨b, off, ha, hlo, hbb, hc⟩
  · exact Or.inl h3
  · exact Or.inr ⟨b, off, ha, hlo, Nat.lt_of_lt_of_le hbb hb.size, fun i hi => (hb.cell (p := ⟨b, off + i, none⟩) hbb).trans (hc i hi)⟩
theorem Row.low {lo lo' : Nat} {w : World} {a : Option Addr} {zs : List Int} (h : Row lo w a zs) (hl : lo' ≤ lo) : Row lo' w a zs := by
  obtain ⟨h2, h3⟩ := h
  refine ⟨h2, ?_⟩
  rcases h3 with h3 | ⟨b, off, ha, hlo, hbb, hc⟩
  · exact Or.inl h3
  · exact Or.inr ⟨b, off, ha, Nat.le_trans hl hlo, hbb, hc⟩
theorem row_at {lo : Nat} {w : World} {a : Option Addr} {l : List Int} (R : Row lo w a l) {j : Nat} (h : j < l.length) : ∃ b off, a = some ⟨b, off, none⟩ ∧ b < w.heap.size ∧ w.cell? ⟨b, off + j, none⟩ = some (.int .i64 (l[j]?.getD 0)) := by
  rcases R.2 with h0 | ⟨b, off, ha, _, hb, hc⟩
  · subst h0; simp at h
  · exact ⟨b, off, ha, hb, hc j h⟩
theorem retB {a b : Bool} (h : a = b) : Ending.returned (.bool a) = .returned (.bool b) := by rw [h]
theorem retI {k : IntKind} {a b : Int} (h : a = b) : Ending.returned (.int k a) = .returned (.int k b) := by rw [h]
theorem retII {a b c d : Int} (h : a = c ∧ b = d) : Ending.returned (.tuple #[.int .i64 a, .int .i64 b]) = .returned (.tuple #[.int .i64 c, .int .i64 d]) := by rw [h.1, h.2]
theorem min_if (p z : Int) : min p z = if z < p then z else p := by split <;> omega
theorem max_if (q z : Int) : max q z = if q < z then z else q := by split <;> omega
theorem ends_step (l : List Int) (j : Nat) (hlt : j < l.length) : leastL (l.take (j + 1)) = min (leastL (l.take j)) (l[j]?.getD 0) ∧ mostL (l.take (j + 1)) = max (mostL (l.take j)) (l[j]?.getD 0) := by
  unfold leastL mostL
  rw [foldl_snoc _ _ _ _ hlt, foldl_snoc _ _ _ _ hlt]
  simp [hlt]
set_option maxHeartbeats 1000000 in
theorem ends_any {lo : Nat} (l : List Int) (a : Option Addr) (cap : Nat) (w : World) (R : Row lo w a l) :
    Calls Try.prog 75 #[.slice a l.length cap] w fun e w' => e = .returned (.tuple #[.int .i64 (leastL l), .int .i64 (mostL l)]) ∧ w' = w := by
  have hrow := @row_at _ _ _ _ R
  have hl := R.1
  clear R
  go_enter Try.func75, Try.ntmps75
  go_wp2
  go_loop [4, 5, 10] (fun x y i => ∃ j : Nat, j ≤ l.length ∧ i = .int .i64 j ∧ x = .int .i64 (leastL (l.take j)) ∧ y = .int .i64 (mostL (l.take j))) (fun _ _ i => l.length - (intOf i).toNat)
  case atStart => exact ⟨0, Nat.zero_le _, rfl, by simp [leastL], by simp [mostL]⟩
  case round =>
    obtain ⟨j, hj, rfl, rfl, rfl⟩ := hrel
    by_cases hlt : j < l.length
    · obtain ⟨b, off, ha, hb, hck⟩ := hrow hlt
      subst ha
      have e1 : Hid (leastL (l.take (j + 1)) = min (leastL (l.take j)) (l[j]?.getD 0) ∧ mostL (l.take (j + 1)) = max (mostL (l.take j)) (l[j]?.getD 0)) := by
        exact ends_step l j hlt
      obtain ⟨z, hz⟩ : ∃ z, l[j]?.getD 0 = z := ⟨_, rfl⟩
      rw [hz] at hck e1
      clear hrow hz
      generalize leastL (l.take j) = p at e1
      generalize mostL (l.take j) = q at e1
      go_wp2
      go_round
      case rel => exact ⟨j + 1, by omega, by go_num, by rw [e1.out.1, min_if], by rw [e1.out.2, max_if]⟩
      case measure => simp [intOf]; omega
    · have hje : j = l.length := by omega
      subst hje
      rw [List.take_length]
      go_wp2
      go_ret2
      exact ⟨rfl, rfl⟩
theorem size_take_bound {l : List Int} (hp : ∀ z ∈ l, 0 < z) (hm : ¬ hasLong l) {j : Nat} (hj : j < l.length) (h : prodL (l.take j) ≤ 16384) : 1 ≤ prodL (l.take j) ∧ 1 ≤ l[j]?.getD 0 ∧ l[j]?.getD 0 ≤ 16384 ∧ 0 ≤ prodL (l.take j) * l[j]?.getD 0 ∧ prodL (l.take j) * l[j]?.getD 0 ≤ 268435456 := by
  have h1 := prodL_pos (l := l.take j) fun z hz => hp z (List.mem_of_mem_take hz)
  have h2 := hp _ (getD_mem hj)
  have h3 : ¬ 16384 < l[j]?.getD 0 := fun h => hm ⟨_, getD_mem hj, h⟩
  have h4 := Int.mul_nonneg (a := prodL (l.take j)) (b := l[j]?.getD 0) (by omega) (by omega)
  have h5 := Int.mul_le_mul (a := prodL (l.take j)) (b := l[j]?.getD 0) (c := 16384) (d := 16384) h (by omega) (by omega) (by omega)
  exact ⟨h1, by omega, by omega, h4, by omega⟩
set_option maxHeartbeats 1000000 in
theorem size_any {lo : Nat} (l : List Int) (a : Option Addr) (cap : Nat) (w : World) (R : Row lo w a l) :
    Calls Try.prog 74 #[.slice a l.length cap] w fun e w' => e = .returned (.tuple #[.int .i64 (sizeV l), .int .i64 (sizeE l)]) ∧ w' = w := by
  have C := ends_any l a cap w R
  have hrow := @row_at _ _ _ _ R
  have hl := R.1
  clear R
  by_cases h8 : 8 < l.length
  · rw [(size_long h8).1, (size_long h8).2]
    go_enter Try.func74, Try.ntmps74
    go_wp2
    go_ret2
    exact ⟨rfl, rfl⟩
  · have H8 : Hid (¬ 8 < l.length) := h8
    by_cases hn : hasNeg l
    · have h0 := least_neg.2 hn
      rw [(size_neg h8 hn).1, (size_neg h8 hn).2]
      generalize leastL l = p at C h0
      generalize mostL l = q at C
      clear hn
      go_enter Try.func74, Try.ntmps74
      go_wp2_with (go_at_call 75; refine C.mono ?_; rintro e w' ⟨rfl, hw⟩; rw [hw])
      go_ret2
      exact ⟨rfl, rfl⟩
    · have h0 : ¬ leastL l < 0 := fun h => hn (least_neg.1 h)
      by_cases hz : hasZero l
      · have h1 := (least_zero hn).2 hz
        rw [(size_zero h8 hn hz).1, (size_zero h8 hn hz).2]
        generalize leastL l = p at C h0 h1
        generalize mostL l = q at C
        clear hn hz
        go_enter Try.func74, Try.ntmps74
        go_wp2_with (go_at_call 75; refine C.mono ?_; rintro e w' ⟨rfl, hw⟩; rw [hw])
        go_ret2
        exact ⟨rfl, rfl⟩
      · have h1 : ¬ leastL l = 0 := fun h => hz ((least_zero hn).1 h)
        have hp := all_pos hn hz
        by_cases hm : hasLong l
        · have h2 := most_long.2 hm
          have h3 := long_many hp hm
          rw [(size_many h8 hn hz h3).1, (size_many h8 hn hz h3).2]
          generalize leastL l = p at C h0 h1
          generalize mostL l = q at C h2
          clear hn hz hp hm h3
          go_enter Try.func74, Try.ntmps74
          go_wp2_with (go_at_call 75; refine C.mono ?_; rintro e w' ⟨rfl, hw⟩; rw [hw])
          go_ret2
          exact ⟨rfl, rfl⟩
        · have h2 : ¬ 16384 < mostL l := fun h => hm (most_long.1 h)
          have FM : Hid (∀ j, prodL (l.take j) > 16384 → sizeV l = 0 ∧ sizeE l = 12) := fun j h => size_many h8 hn hz (Int.lt_of_lt_of_le h (prodL_take_le hp j))
          have FO : Hid (prodL l ≤ 16384 → sizeV l = prodL l ∧ sizeE l = 0) := fun h => size_ok h8 hn hz (by omega)
          have FB : Hid (∀ j, j < l.length → prodL (l.take j) ≤ 16384 → 1 ≤ prodL (l.take j) ∧ 1 ≤ l[j]?.getD 0 ∧ l[j]?.getD 0 ≤ 16384 ∧ 0 ≤ prodL (l.take j) * l[j]?.getD 0 ∧ prodL (l.take j) * l[j]?.getD 0 ≤ 268435456) := fun j hj h => size_take_bound hp hm hj h
          generalize sizeV l = V at FM FO
          generalize sizeE l = E at FM FO
          generalize leastL l = p at C h0 h1
          generalize mostL l = q at C h2
          clear hn hz hp hm
          go_enter Try.func74, Try.ntmps74
          go_wp2_with (go_at_call 75; refine C.mono ?_; rintro e w' ⟨rfl, hw⟩; rw [hw])
          clear C
          go_loop [6, 28] (fun x i => ∃ j : Nat, j ≤ l.length ∧ i = .int .i64 j ∧ x = .int .i64 (prodL (l.take j)) ∧ prodL (l.take j) ≤ 16384) (fun _ i => l.length - (intOf i).toNat)
          case atStart => exact ⟨0, Nat.zero_le _, rfl, by simp [prodL], by simp [prodL]⟩
          case round =>
            obtain ⟨j, hj, rfl, rfl, hpj⟩ := hrel
            by_cases hlt : j < l.length
            · obtain ⟨b, off, ha, hb, hck⟩ := hrow hlt
              subst ha
              obtain ⟨f1, f2, f3, f4, f5⟩ := FB.out j hlt hpj
              have e1 : Hid (prodL (l.take (j + 1)) = prodL (l.take j) * l[j]?.getD 0) := prodL_take_succ l j hlt
              obtain ⟨z, hz⟩ : ∃ z, l[j]?.getD 0 = z := ⟨_, rfl⟩
              rw [hz] at hck e1 f2 f3 f4 f5
              clear hrow hz FB
              generalize prodL (l.take j) = r at e1 f1 hpj f4 f5
              obtain ⟨m, hm⟩ : ∃ m, r * z = m := ⟨_, rfl⟩
              rw [hm] at e1 f4 f5
              by_cases hbig : m ≤ 16384
              · go_wp2
                go_round
                case rel => exact ⟨j + 1, by omega, by go_num, by rw [e1.out], by rw [e1.out]; exact hbig⟩
                case measure => simp [intOf]; omega
              · have fm : Hid (V = 0 ∧ E = 12) := FM.out (j + 1) (by rw [e1.out]; omega)
                go_wp2
                go_ret2
                exact ⟨retII ⟨fm.out.1.symm, fm.out.2.symm⟩, rfl⟩
            · have hje : j = l.length := by omega
              subst hje
              rw [List.take_length] at hpj ⊢
              have fo : Hid (V = prodL l ∧ E = 0) := FO.out hpj
              go_wp2
              go_ret2
              exact ⟨retII ⟨fo.out.1.symm, fo.out.2.symm⟩, rfl⟩
set_option maxHeartbeats 1000000 in
theorem rsize_any {lo : Nat} (l : List Int) (a : Option Addr) (cap : Nat) (w : World) (R : Row lo w a l) :
    Calls Try.prog 77 #[.slice a l.length cap] w fun e w' => e = .returned (.tuple #[.int .i64 (sizeV l), .int .i64 (sizeE l)]) ∧ w' = w := by
  have hrow := @row_at _ _ _ _ R
  have hl := R.1
  clear R
  by_cases h8 : 8 < l.length
  · rw [(size_long h8).1, (size_long h8).2]
    go_enter Try.func77, Try.ntmps77
    go_wp2
    go_ret2
    exact ⟨rfl, rfl⟩
  · have FN : Hid (hasNeg l → sizeV l = 0 ∧ sizeE l = 1) := fun h => size_neg h8 h
    have FZ : Hid (¬ hasNeg l → hasZero l → sizeV l = 0 ∧ sizeE l = 0) := fun h h' => size_zero h8 h h'
    have FM : Hid (¬ hasNeg l → ¬ hasZero l → ∀ j, prodL (l.take j) > 16384 → sizeV l = 0 ∧ sizeE l = 12) := fun hn hz j h => size_many h8 hn hz (Int.lt_of_lt_of_le h (prodL_take_le (all_pos hn hz) j))
    have FL : Hid (¬ hasNeg l → ¬ hasZero l → hasLong l → sizeV l = 0 ∧ sizeE l = 12) := fun hn hz h => size_many h8 hn hz (long_many (all_pos hn hz) h)
    have FO : Hid (¬ hasNeg l → ¬ hasZero l → prodL l ≤ 16384 → sizeV l = prodL l ∧ sizeE l = 0) := fun hn hz h => size_ok h8 hn hz (by omega)
    have FB : Hid (¬ hasNeg l → ¬ hasZero l → ∀ j, j < l.length → prodL (l.take j) ≤ 16384 → l[j]?.getD 0 ≤ 16384 → 1 ≤ prodL (l.take j) ∧ 1 ≤ l[j]?.getD 0 ∧ 0 ≤ prodL (l.take j) * l[j]?.getD 0 ∧ prodL (l.take j) * l[j]?.getD 0 ≤ 268435456) := by
      intro hn hz j hj h hle
      have hp := all_pos hn hz
      have h1 := prodL_pos (l := l.take j) fun z hz => hp z (List.mem_of_mem_take hz)
      have h2 := hp _ (getD_mem hj)
      have h4 := Int.mul_nonneg (a := prodL (l.take j)) (b := l[j]?.getD 0) (by omega) (by omega)
      have h5 := Int.mul_le_mul (a := prodL (l.take j)) (b := l[j]?.getD 0) (c := 16384) (d := 16384) h hle (by omega) (by omega)
      exact ⟨h1, by omega, h4, by omega⟩
    have D1 : Hid (∀ j, j < l.length → l[j]?.getD 0 < 0 → hasNeg l) := fun j hj h => ⟨_, getD_mem hj, h⟩
    have D2 : Hid (∀ j, j < l.length → l[j]?.getD 0 = 0 → hasZero l) := fun j hj h => ⟨_, getD_mem hj, h⟩
    have D3 : Hid (∀ j, j < l.length → l[j]?.getD 0 > 16384 → hasLong l) := fun j hj h => ⟨_, getD_mem hj, h⟩
    have D4 : Hid ((∀ i, i < l.length → ¬ l[i]?.getD 0 < 0) → ¬ hasNeg l) := by
      rintro h ⟨z, hz, hz'⟩
      obtain ⟨k, hk, e⟩ := mem_getD hz
      exact h k hk (by omega)
    have D5 : Hid ((∀ i, i < l.length → ¬ l[i]?.getD 0 = 0) → ¬ hasZero l) := by
      rintro h ⟨z, hz, hz'⟩
      obtain ⟨k, hk, e⟩ := mem_getD hz
      exact h k hk (by omega)
    generalize sizeV l = V at FN FZ FM FL FO
    generalize sizeE l = E at FN FZ FM FL FO
    go_enter Try.func77, Try.ntmps77
    go_wp2
    go_loop [4, 5] (fun x i => ∃ j : Nat, ∃ b : Bool, j ≤ l.length ∧ i = .int .i64 j ∧ x = .bool b ∧ (∀ i, i < j → ¬ l[i]?.getD 0 < 0) ∧ (b = true → hasZero l) ∧ (b = false → ∀ i, i < j → ¬ l[i]?.getD 0 = 0)) (fun _ i => l.length - (intOf i).toNat)
    case atStart => exact ⟨0, false, Nat.zero_le _, rfl, rfl, by simp, by simp, by simp⟩
    case round =>
      obtain ⟨j, bb, hj, rfl, rfl, g1, g2, g3⟩ := hrel
      have G : Hid ((∀ i, i < j → ¬ l[i]?.getD 0 < 0) ∧ (bb = true → hasZero l) ∧ (bb = false → ∀ i, i < j → ¬ l[i]?.getD 0 = 0)) := ⟨g1, g2, g3⟩
      clear g1 g2 g3
      by_cases hlt : j < l.length
      · obtain ⟨b, off, ha, hb, hck⟩ := hrow hlt
        subst ha
        obtain ⟨z, hz⟩ : ∃ z, l[j]?.getD 0 = z := ⟨_, rfl⟩
        have HZ : Hid (l[j]?.getD 0 = z) := hz
        rw [hz] at hck
        clear hrow hz
        by_cases hneg : z < 0
        · have fm : Hid (V = 0 ∧ E = 1) := FN.out (D1.out j hlt (by rw [HZ.out]; exact hneg))
          go_wp2
          go_ret2
          exact ⟨retII ⟨fm.out.1.symm, fm.out.2.symm⟩, rfl⟩
        · have HN : Hid (¬ z < 0) := hneg
          by_cases hzz : z = 0
          · have HY : Hid (hasZero l) := D2.out j hlt (by rw [HZ.out]; exact hzz)
            go_wp2
            go_round
            case rel =>
              refine ⟨j + 1, true, by omega, by go_num, rfl, ?_, fun _ => HY.out, by simp⟩
              intro i hi
              rcases Nat.lt_succ_iff_lt_or_eq.1 hi with h | rfl
              · exact G.out.1 i h
              · rw [HZ.out]; exact HN.out
            case measure => simp [intOf]; omega
          · have HNZ : Hid (¬ z = 0) := hzz
            go_wp2
            go_round
            case rel =>
              refine ⟨j + 1, bb, by omega, by go_num, rfl, ?_, G.out.2.1, ?_⟩
              · intro i hi
                rcases Nat.lt_succ_iff_lt_or_eq.1 hi with h | rfl
                · exact G.out.1 i h
                · rw [HZ.out]; exact HN.out
              · intro hb i hi
                rcases Nat.lt_succ_iff_lt_or_eq.1 hi with h | rfl
                · exact G.out.2.2 hb i h
                · rw [HZ.out]; exact HNZ.out
            case measure => simp [intOf]; omega
      · have hje : j = l.length := by omega
        subst hje
        have hn : ¬ hasNeg l := D4.out (by intro i hi; have := G.out.1 i hi; omega)
        cases bb with
        | true =>
          have fm : Hid (V = 0 ∧ E = 0) := FZ.out hn (G.out.2.1 rfl)
          clear hn
          go_wp2
          go_ret2
          exact ⟨retII ⟨fm.out.1.symm, fm.out.2.symm⟩, rfl⟩
        | false =>
          have hz : ¬ hasZero l := D5.out (by intro i hi; have := G.out.2.2 rfl i hi; omega)
          have FM' : Hid (∀ j, prodL (l.take j) > 16384 → V = 0 ∧ E = 12) := FM.out hn hz
          have FL' : Hid (hasLong l → V = 0 ∧ E = 12) := FL.out hn hz
          have FO' : Hid (prodL l ≤ 16384 → V = prodL l ∧ E = 0) := FO.out hn hz
          have FB' : Hid (∀ j, j < l.length → prodL (l.take j) ≤ 16384 → l[j]?.getD 0 ≤ 16384 → 1 ≤ prodL (l.take j) ∧ 1 ≤ l[j]?.getD 0 ∧ 0 ≤ prodL (l.take j) * l[j]?.getD 0 ∧ prodL (l.take j) * l[j]?.getD 0 ≤ 268435456) := FB.out hn hz
          clear FM FL FO FB FN FZ D1 D2 D4 D5 G hn hz
          go_wp2
          go_loop [6, 7] (fun x i => ∃ j : Nat, j ≤ l.length ∧ i = .int .i64 j ∧ x = .int .i64 (prodL (l.take j)) ∧ prodL (l.take j) ≤ 16384) (fun _ i => l.length - (intOf i).toNat)
          case atStart => exact ⟨0, Nat.zero_le _, rfl, by simp [prodL], by simp [prodL]⟩
          case round =>
            obtain ⟨j, hj, rfl, rfl, hpj⟩ := hrel
            by_cases hlt : j < l.length
            · obtain ⟨b, off, ha, hb, hck⟩ := hrow hlt
              subst ha
              have e1 : Hid (prodL (l.take (j + 1)) = prodL (l.take j) * l[j]?.getD 0) := prodL_take_succ l j hlt
              have FBj : Hid (l[j]?.getD 0 ≤ 16384 → 1 ≤ prodL (l.take j) ∧ 1 ≤ l[j]?.getD 0 ∧ 0 ≤ prodL (l.take j) * l[j]?.getD 0 ∧ prodL (l.take j) * l[j]?.getD 0 ≤ 268435456) := FB'.out j hlt hpj
              have FLj : Hid (l[j]?.getD 0 > 16384 → V = 0 ∧ E = 12) := fun h => FL'.out (D3.out j hlt h)
              obtain ⟨z, hz⟩ : ∃ z, l[j]?.getD 0 = z := ⟨_, rfl⟩
              rw [hz] at hck e1 FBj FLj
              clear hrow hz FB' D3
              generalize prodL (l.take j) = r at e1 hpj FBj
              by_cases hlong : z ≤ 16384
              · obtain ⟨f1, f2, f4, f5⟩ := FBj.out hlong
                obtain ⟨m, hm⟩ : ∃ m, r * z = m := ⟨_, rfl⟩
                rw [hm] at e1 f4 f5
                clear FBj FLj
                by_cases hbig : m ≤ 16384
                · go_wp2
                  go_round
                  case rel => exact ⟨j + 1, by omega, by go_num, by rw [e1.out], by rw [e1.out]; exact hbig⟩
                  case measure => simp [intOf]; omega
                · have fm : Hid (V = 0 ∧ E = 12) := FM'.out (j + 1) (by rw [e1.out]; omega)
                  go_wp2
                  go_ret2
                  exact ⟨retII ⟨fm.out.1.symm, fm.out.2.symm⟩, rfl⟩
              · have fm : Hid (V = 0 ∧ E = 12) := FLj.out (by omega)
                clear FBj FLj
                go_wp2
                go_ret2
                exact ⟨retII ⟨fm.out.1.symm, fm.out.2.symm⟩, rfl⟩
            · have hje : j = l.length := by omega
              subst hje
              rw [List.take_length] at hpj ⊢
              have fo : Hid (V = prodL l ∧ E = 0) := FO'.out hpj
              go_wp2
              go_ret2
              exact ⟨retII ⟨fo.out.1.symm, fo.out.2.symm⟩, rfl⟩
end Go.Proofs.Ytkgpoibnilgaeaa
