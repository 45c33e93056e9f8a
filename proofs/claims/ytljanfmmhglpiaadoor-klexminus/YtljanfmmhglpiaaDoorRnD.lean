/-
  The contract of One of layer 2: for all bytes it tells the sign with which they begin and how many bytes it has, or 0 and 0 where there is none.
-/
import Derived.Test.YtljanfmmhglpiaaDoorRnC
namespace Go.Proofs.YtljanfmmhglpiaaDoor.Rn
open Go.ChangeShapes Go.WideShapes Go.ChangeAt Go.RowKit
set_option maxRecDepth 100000
/-- The table of the least numbers lies in its place. -/
def Tab (w : World) : Prop := 0 < w.heap.size ∧ ∀ k, k < 4 → w.cell? ⟨0, k, none⟩ = some (.int .i64 (least k))
theorem Tab.below {w w' : World} {B : Nat} (h : Tab w) (hb : Below B w w') (hB : 0 < B) : Tab w' :=
  ⟨Nat.lt_of_lt_of_le h.1 hb.size, fun k hk => (hb.cell (p := ⟨0, k, none⟩) hB).trans (h.2 k hk)⟩
/-- A slice of integers, as a row of numbers. -/
def Row (k : IntKind) (w : World) (a : Option Addr) (zs : List Int) : Prop :=
  zs.length ≤ 140737488355328 ∧ (zs = [] ∨ ∃ b off, a = some ⟨b, off, none⟩ ∧ b < w.heap.size ∧ ∀ i, i < zs.length → w.cell? ⟨b, off + i, none⟩ = some (.int k (zs[i]?.getD 0)))
theorem Row.below {k : IntKind} {w w1 : World} {a : Option Addr} {zs : List Int} {B : Nat} (h : Row k w a zs) (hb : Below B w w1) (hB : ∀ x, a = some x → x.block < B) : Row k w1 a zs := by
  obtain ⟨h2, h3⟩ := h
  refine ⟨h2, ?_⟩
  rcases h3 with h3 | ⟨b, off, ha, hbb, hc⟩
  · exact Or.inl h3
  · have hB' := hB _ ha
    exact Or.inr ⟨b, off, ha, Nat.lt_of_lt_of_le hbb hb.size, fun i hi => (hb.cell (p := ⟨b, off + i, none⟩) hB').trans (hc i hi)⟩
theorem Row.next {k : IntKind} {w w1 : World} {a : Option Addr} {zs : List Int} (h : Row k w a zs) (hb : Below w.heap.size w w1) : Row k w1 a zs := by
  obtain ⟨h2, h3⟩ := h
  refine ⟨h2, ?_⟩
  rcases h3 with h3 | ⟨b, off, ha, hbb, hc⟩
  · exact Or.inl h3
  · exact Or.inr ⟨b, off, ha, Nat.lt_of_lt_of_le hbb hb.size, fun i hi => (hb.cell (p := ⟨b, off + i, none⟩) hbb).trans (hc i hi)⟩
def IsOne (bs : List Int) (n k : Int) : Prop := (n = 0 ∧ k = 0 ∧ NoSign bs) ∨ ∃ r, Good n ∧ bs = put n ++ r ∧ k = (wid n : Int)
theorem one_ret {bs : List Int} {n k : Int} {w : World} (h : IsOne bs n k) : (∃ n' k' : Int, Ending.returned (.tuple #[.int .i64 n, .int .i64 k]) = Ending.returned (.tuple #[.int .i64 n', .int .i64 k']) ∧ IsOne bs n' k') ∧ w = w := ⟨⟨n, k, rfl, h⟩, rfl⟩
theorem one_none {bs : List Int} (h : NoSign bs) : IsOne bs 0 0 := Or.inl ⟨rfl, rfl, h⟩
set_option maxHeartbeats 1000000 in
theorem one_walk (c0 : Int) (t : List Int) (b off cap : Nat) (w : World) (T : Tab w) (hB0 : 0 ≤ c0) (hB1 : c0 < 256) (hB : ∀ z ∈ t, Byte z) (hl : t.length ≤ 140737488355328)
    (hc0 : w.cell? ⟨b, off, none⟩ = some (.int .u8 c0)) (hct : ∀ i, i < t.length → w.cell? ⟨b, off + (1 + i), none⟩ = some (.int .u8 (t.getD i 0))) :
    Calls Tryd.prog 41 #[.slice (some ⟨b, off, none⟩) (t.length + 1) cap] w fun e w' => (∃ n k : Int, e = .returned (.tuple #[.int .i64 n, .int .i64 k]) ∧ IsOne (c0 :: t) n k) ∧ w' = w := by
  obtain ⟨v, hve⟩ : ∃ v, fV c0 = v := ⟨_, rfl⟩
  have hv0 : 0 ≤ v := by rw [← hve]; exact (fV_rng hB0).1
  have hv1 : v < 128 := by rw [← hve]; exact (fV_rng hB0).2
  by_cases h1 : fM c0 = -1
  · have N := one_none (no_first (t := t) h1)
    go_enter Tryd.func41, Tryd.ntmps41
    go_wp2_with (go_at_call 48; refine (first_any _ _ (by omega) (by omega)).mono ?_; rintro e w' ⟨rfl, hw⟩; rw [hw])
    go_ret2
    exact one_ret N
  · obtain ⟨M, hM, hM3⟩ : ∃ M : Nat, fM c0 = M ∧ M ≤ 3 := by
      rcases fM_rng c0 with h | h | h | h | h
      · exact absurd h h1
      · exact ⟨0, h, by omega⟩
      · exact ⟨1, h, by omega⟩
      · exact ⟨2, h, by omega⟩
      · exact ⟨3, h, by omega⟩
    clear h1
    by_cases h2 : (t.length : Int) + 1 ≤ (M : Int)
    · have N := one_none (no_short (c0 := c0) (t := t) (by omega))
      go_enter Tryd.func41, Tryd.ntmps41
      go_wp2_with (go_at_call 48; refine (first_any _ _ (by omega) (by omega)).mono ?_; rintro e w' ⟨rfl, hw⟩; rw [hw])
      go_ret2
      exact one_ret N
    · have hMt : M ≤ t.length := by omega
      have FIN : Hid (∀ j, j < M → ¬ Cont (t.getD j 0) → IsOne (c0 :: t) 0 0) := fun j hj hc => one_none (no_cont hM hj hc)
      have FIN2 : Hid ((∀ j, j < M → Cont (t.getD j 0)) → (acc v (t.take M) < least M ∨ ¬ Good (acc v (t.take M)) → IsOne (c0 :: t) 0 0) ∧ (least M ≤ acc v (t.take M) → Good (acc v (t.take M)) → IsOne (c0 :: t) (acc v (t.take M)) ((M : Int) + 1))) := by
        subst hve
        intro hc
        refine ⟨fun h => ?_, fun h1 h2 => ?_⟩
        · rcases h with h | h
          · exact one_none (no_least hM h)
          · exact one_none (no_good hM h)
        · obtain ⟨e1, e2⟩ := yes_of hB0 hB1 hM hMt hc h1 h2
          exact Or.inr ⟨_, h2, e1, by rw [e2]; rfl⟩
      have HT := T.2 M (by omega)
      go_enter Tryd.func41, Tryd.ntmps41
      go_wp2_with (go_at_call 48; refine (first_any _ _ (by omega) (by omega)).mono ?_; rintro e w' ⟨rfl, hw⟩; rw [hw])
      clear hM hve
      go_loop [4, 27] (fun n i => ∃ j : Nat, j ≤ M ∧ i = .int .i64 j ∧ n = .int .i64 (acc v (t.take j)) ∧ ∀ k, k < j → Cont (t.getD k 0)) (fun _ i => M - (intOf i).toNat)
      case atStart => exact ⟨0, Nat.zero_le _, rfl, rfl, fun k hk => absurd hk (Nat.not_lt_zero _)⟩
      case round =>
        obtain ⟨j, hj, rfl, rfl, hcs⟩ := hrel
        have hjl : (t.take j).length ≤ 3 := by rw [List.length_take]; omega
        have hab := acc_small (t.take j) v hv0 hv1 (fun c hc => by
          obtain ⟨i, hi, rfl⟩ := List.getElem_of_mem hc
          have hi' : i < j := by rw [List.length_take] at hi; omega
          have := hcs i hi'
          rw [List.getElem_take]
          rwa [List.getD_eq_getElem?_getD, List.getElem?_eq_getElem (by omega)] at this) hjl
        obtain ⟨hab0, hab1⟩ := hab
        by_cases hlt : j < M
        · have hcj := hct j (by omega)
          have hbj : Byte (t.getD j 0) := by
            rw [List.getD_eq_getElem?_getD, List.getElem?_eq_getElem (show j < t.length by omega)]
            exact hB _ (List.getElem_mem _)
          have HS : Hid (acc v (t.take (j + 1)) = acc v (t.take j) * 64 + (t.getD j 0 - 128)) := by
            rw [List.take_succ_eq_append_getElem (show j < t.length by omega), acc_snoc, List.getD_eq_getElem?_getD, List.getElem?_eq_getElem (show j < t.length by omega)]
            rfl
          have HC : Hid (¬ Cont (t.getD j 0) → IsOne (c0 :: t) 0 0) := fun h => FIN.out j hlt h
          have HCS : Hid (Cont (t.getD j 0) → ∀ k, k < j + 1 → Cont (t.getD k 0)) := fun h k hk => by
            rcases Nat.lt_or_ge k j with h' | h'
            · exact hcs k h'
            · have : k = j := by omega
              rw [this]; exact h
          obtain ⟨c, hc⟩ : ∃ c, t.getD j 0 = c := ⟨_, rfl⟩
          rw [hc] at hcj hbj HS HC HCS
          clear hc
          obtain ⟨n, hn⟩ : ∃ n, acc v (t.take j) = n := ⟨_, rfl⟩
          rw [hn] at hab0 hab1 HS
          clear hcs
          obtain ⟨hb0, hb1⟩ := hbj
          have q1 := and192 hb0 hb1
          have q2 := and63 hb0 hb1
          have q3 := or6w (n := n) (c := c % 64) hab0 (by omega) (by omega) (by omega)
          by_cases hcc : Cont c
          · have q4 : (bits BinOp.and IntKind.u8 c 192 != 128) = false := by rw [q1]; unfold Cont at hcc; simp; omega
            have q5 : Hid (c % 64 = c - 128) := by unfold Cont at hcc; exact (show c % 64 = c - 128 by omega)
            clear q1
            have HCC : Hid (Cont c) := hcc
            clear hcc
            go_wp2
            go_round
            case rel => exact ⟨j + 1, by omega, by go_num, by rw [HS.out, q5.out], HCS.out HCC.out⟩
            case measure => simp [intOf]; omega
          · have q4 : (bits BinOp.and IntKind.u8 c 192 != 128) = true := by rw [q1]; unfold Cont at hcc; simp; omega
            have N := HC.out hcc
            clear q1 hcc q3
            go_wp2
            go_ret2
            exact one_ret N
        · have hje : j = M := by omega
          subst hje
          have F := FIN2.out hcs
          obtain ⟨n, hn⟩ : ∃ n, acc v (t.take j) = n := ⟨_, rfl⟩
          rw [hn] at hab0 hab1 F
          obtain ⟨F1, F2⟩ := F
          clear FIN FIN2 hcs hct hjl hlt
          have F1' : Hid _ := F1
          have F2' : Hid _ := F2
          clear F1 F2
          obtain ⟨q, hq⟩ : ∃ q, least j = q := ⟨_, rfl⟩
          rw [hq] at HT F1' F2'
          clear hq
          by_cases hle : n < q
          · have N := F1'.out (Or.inl hle)
            go_wp2
            go_ret2
            exact one_ret N
          · by_cases hg : Good n
            · have N := F2'.out (by omega) hg
              have hgb := goodB_true hg
              clear F1' F2' hg
              go_wp2_with (go_at_call 49; refine (good_any _ _).mono ?_; rintro e w' ⟨rfl, hw⟩; rw [hw])
              go_ret2
              exact one_ret N
            · have N := F1'.out (Or.inr hg)
              have hgb := goodB_false hg
              clear F1' F2' hg
              go_wp2_with (go_at_call 49; refine (good_any _ _).mono ?_; rintro e w' ⟨rfl, hw⟩; rw [hw])
              go_ret2
              exact one_ret N
end Go.Proofs.YtljanfmmhglpiaaDoor.Rn
