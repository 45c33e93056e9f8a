/-
  The contract of grow of layer 2: bytes of its own grow by the bytes of a good sign; the bytes lie in memory of the call's own.
-/
import Derived.Test.YtkigpbajbafpcaaDoorOwnD
namespace Go.Proofs.YtkigpbajbafpcaaDoor
open Go.ChangeShapes Go.WideShapes Go.ChangeAt Go.RowKit
theorem info5 : (Tryd.prog.info? 5).map (fun i => (i.zero, i.size, i.bytes)) = some (some (.int .u8 0), 1, 1) := by kernel_rfl
theorem info2 : (Tryd.prog.info? 2).map (fun i => (i.zero, i.size, i.bytes)) = some (some (.int .i64 0), 1, 8) := by kernel_rfl
abbrev bv (zs : List Int) : List Value := zs.map (Value.int .u8)
abbrev iv (zs : List Int) : List Value := zs.map (Value.int .i64)
set_option maxHeartbeats 1000000 in
theorem grow1 (n : Int) (w : World) (v : Value) (k base : Nat) (xs : List Value) (T : Tab w) (hn0 : 0 ≤ n) (hn : n < 128) (hown : w.ownsRow base 5 1 v k xs) (hbase : base ≤ w.heap.size) (hk : k + 4 ≤ 140737488355328) :
    Calls Tryd.prog 18 #[v, .int .i64 n] w fun e w' => ∃ v', e = .returned v' ∧ w'.ownsRow base 5 1 v' (k + 1) (xs ++ bv [n]) ∧ Below base w w' := by
  obtain ⟨i0, hi, hz0, hz1, hz2⟩ := info_parts info5
  have t1 : w.cell? ⟨0, 1, none⟩ = some (.int .i64 128) := T.2 1 (by omega)
  go_enter Tryd.func18, Tryd.ntmps18
  go_wp2_with (at_builtin; refine wpList_append_own _ rfl _ _ 23 rfl base 5 i0 (.int .u8 0) 1 1 Tryd.underlying23 hi hz0 hz1 hz2 rfl (by decide) _ _ _ rfl (hown.alloc _) ⟨w.heap.size, 0, none⟩ 1 1 [.int .u8 n] rfl rfl ?c1 ?c2 ?c3 ?c4 ?c5 ?_)
  case c1 =>
    intro j u hj
    match j, hj with
    | 0, hj => simp at hj; subst hj; simp [Addr.add]
  case c2 => intro u hu; simp at hu; subst hu; rfl
  case c3 => unfold maxLen; omega
  case c4 => omega
  case c5 => simp; omega
  · intro v' w1 hown' hgrow _
    go_wp2
    go_ret
    exact ⟨_, rfl, hown', ((Below.refl _ _).alloc hbase _).grown hgrow (by simp; omega) (fun q hq => (hown.lt q hq).1)⟩
set_option maxHeartbeats 2000000 in
theorem grow2 (n : Int) (w : World) (v : Value) (k base : Nat) (xs : List Value) (T : Tab w) (hn0 : 128 ≤ n) (hn : n < 2048) (hown : w.ownsRow base 5 1 v k xs) (hbase : base ≤ w.heap.size) (hk : k + 4 ≤ 140737488355328) :
    Calls Tryd.prog 18 #[v, .int .i64 n] w fun e w' => ∃ v', e = .returned v' ∧ w'.ownsRow base 5 1 v' (k + 2) (xs ++ bv [192 + n / 64, 128 + n % 64]) ∧ Below base w w' := by
  obtain ⟨i0, hi, hz0, hz1, hz2⟩ := info_parts info5
  have t1 : w.cell? ⟨0, 1, none⟩ = some (.int .i64 128) := T.2 1 (by omega)
  have t2 : w.cell? ⟨0, 2, none⟩ = some (.int .i64 2048) := T.2 2 (by omega)
  have t3 : w.cell? ⟨0, 3, none⟩ = some (.int .i64 65536) := T.2 3 (by omega)
  have d1 : 0 ≤ n / 64 := by omega
  have d2 : n / 64 < 32 := by omega
  have d3 := or192 d1 d2
  go_enter Tryd.func18, Tryd.ntmps18
  go_wp2_with (first | (go_at_call 23; refine (group_any _ _ (by omega) (by omega)).mono ?_; rintro e w' ⟨rfl, hw⟩; rw [hw]) | (at_builtin; refine wpList_append_own _ rfl _ _ 23 rfl base 5 i0 (.int .u8 0) 1 1 Tryd.underlying23 hi hz0 hz1 hz2 rfl (by decide) _ _ _ rfl (hown.alloc _) ⟨w.heap.size, 0, none⟩ 2 2 (bv [192 + n / 64, 128 + n % 64]) rfl rfl ?c1 ?c2 ?c3 ?c4 ?c5 ?_))
  case c1 =>
    intro j u hj
    match j, hj with
    | 0, hj => simp at hj; subst hj; simp [Addr.add]
    | 1, hj => simp at hj; subst hj; simp [Addr.add]
  case c2 => intro u hu; simp at hu; rcases hu with rfl | rfl <;> rfl
  case c3 => unfold maxLen; omega
  case c4 => omega
  case c5 => simp; omega
  · intro v' w1 hown' hgrow _
    go_wp2
    go_ret
    exact ⟨_, rfl, hown', ((Below.refl _ _).alloc hbase _).grown hgrow (by simp; omega) (fun q hq => (hown.lt q hq).1)⟩
set_option maxHeartbeats 2000000 in
theorem grow3 (n : Int) (w : World) (v : Value) (k base : Nat) (xs : List Value) (T : Tab w) (hn0 : 2048 ≤ n) (hn : n < 65536) (hown : w.ownsRow base 5 1 v k xs) (hbase : base ≤ w.heap.size) (hk : k + 4 ≤ 140737488355328) :
    Calls Tryd.prog 18 #[v, .int .i64 n] w fun e w' => ∃ v', e = .returned v' ∧ w'.ownsRow base 5 1 v' (k + 3) (xs ++ bv [224 + n / 4096, 128 + n / 64 % 64, 128 + n % 64]) ∧ Below base w w' := by
  obtain ⟨i0, hi, hz0, hz1, hz2⟩ := info_parts info5
  have t1 : w.cell? ⟨0, 1, none⟩ = some (.int .i64 128) := T.2 1 (by omega)
  have t2 : w.cell? ⟨0, 2, none⟩ = some (.int .i64 2048) := T.2 2 (by omega)
  have t3 : w.cell? ⟨0, 3, none⟩ = some (.int .i64 65536) := T.2 3 (by omega)
  have d1 : 0 ≤ n / 4096 := by omega
  have d2 : n / 4096 < 16 := by omega
  have d3 := or224 d1 d2
  go_enter Tryd.func18, Tryd.ntmps18
  go_wp2_with (first | (go_at_call 23; refine (group_any _ _ (by omega) (by omega)).mono ?_; rintro e w' ⟨rfl, hw⟩; rw [hw]) | (at_builtin; refine wpList_append_own _ rfl _ _ 23 rfl base 5 i0 (.int .u8 0) 1 1 Tryd.underlying23 hi hz0 hz1 hz2 rfl (by decide) _ _ _ rfl (hown.alloc _) ⟨w.heap.size, 0, none⟩ 3 3 (bv [224 + n / 4096, 128 + n / 64 % 64, 128 + n % 64]) rfl rfl ?c1 ?c2 ?c3 ?c4 ?c5 ?_))
  case c1 =>
    intro j u hj
    match j, hj with
    | 0, hj => simp at hj; subst hj; simp [Addr.add]
    | 1, hj => simp at hj; subst hj; simp [Addr.add]
    | 2, hj => simp at hj; subst hj; simp [Addr.add]
  case c2 => intro u hu; simp at hu; rcases hu with rfl | rfl | rfl <;> rfl
  case c3 => unfold maxLen; omega
  case c4 => omega
  case c5 => simp; omega
  · intro v' w1 hown' hgrow _
    go_wp2
    go_ret
    exact ⟨_, rfl, hown', ((Below.refl _ _).alloc hbase _).grown hgrow (by simp; omega) (fun q hq => (hown.lt q hq).1)⟩
set_option maxHeartbeats 2000000 in
theorem grow4 (n : Int) (w : World) (v : Value) (k base : Nat) (xs : List Value) (T : Tab w) (hn0 : 65536 ≤ n) (hn : n < 1114112) (hown : w.ownsRow base 5 1 v k xs) (hbase : base ≤ w.heap.size) (hk : k + 4 ≤ 140737488355328) :
    Calls Tryd.prog 18 #[v, .int .i64 n] w fun e w' => ∃ v', e = .returned v' ∧ w'.ownsRow base 5 1 v' (k + 4) (xs ++ bv [240 + n / 262144, 128 + n / 4096 % 64, 128 + n / 64 % 64, 128 + n % 64]) ∧ Below base w w' := by
  obtain ⟨i0, hi, hz0, hz1, hz2⟩ := info_parts info5
  have t1 : w.cell? ⟨0, 1, none⟩ = some (.int .i64 128) := T.2 1 (by omega)
  have t2 : w.cell? ⟨0, 2, none⟩ = some (.int .i64 2048) := T.2 2 (by omega)
  have t3 : w.cell? ⟨0, 3, none⟩ = some (.int .i64 65536) := T.2 3 (by omega)
  have d1 : 0 ≤ n / 262144 := by omega
  have d2 : n / 262144 < 8 := by omega
  have d3 := or240 d1 d2
  go_enter Tryd.func18, Tryd.ntmps18
  go_wp2_with (first | (go_at_call 23; refine (group_any _ _ (by omega) (by omega)).mono ?_; rintro e w' ⟨rfl, hw⟩; rw [hw]) | (at_builtin; refine wpList_append_own _ rfl _ _ 23 rfl base 5 i0 (.int .u8 0) 1 1 Tryd.underlying23 hi hz0 hz1 hz2 rfl (by decide) _ _ _ rfl (hown.alloc _) ⟨w.heap.size, 0, none⟩ 4 4 (bv [240 + n / 262144, 128 + n / 4096 % 64, 128 + n / 64 % 64, 128 + n % 64]) rfl rfl ?c1 ?c2 ?c3 ?c4 ?c5 ?_))
  case c1 =>
    intro j u hj
    match j, hj with
    | 0, hj => simp at hj; subst hj; simp [Addr.add]
    | 1, hj => simp at hj; subst hj; simp [Addr.add]
    | 2, hj => simp at hj; subst hj; simp [Addr.add]
    | 3, hj => simp at hj; subst hj; simp [Addr.add]
  case c2 => intro u hu; simp at hu; rcases hu with rfl | rfl | rfl | rfl <;> rfl
  case c3 => unfold maxLen; omega
  case c4 => omega
  case c5 => simp; omega
  · intro v' w1 hown' hgrow _
    go_wp2
    go_ret
    exact ⟨_, rfl, hown', ((Below.refl _ _).alloc hbase _).grown hgrow (by simp; omega) (fun q hq => (hown.lt q hq).1)⟩
theorem grow_any (n : Int) (w : World) (v : Value) (k base : Nat) (xs : List Value) (T : Tab w) (hn : Good n) (hown : w.ownsRow base 5 1 v k xs) (hbase : base ≤ w.heap.size) (hk : k + 4 ≤ 140737488355328) :
    Calls Tryd.prog 18 #[v, .int .i64 n] w fun e w' => ∃ v', e = .returned v' ∧ w'.ownsRow base 5 1 v' (k + wid n) (xs ++ bv (put n)) ∧ Below base w w' := by
  have hr := hn.rng
  unfold wid put
  by_cases h1 : n < 128
  · rw [if_pos h1, if_pos h1]; exact grow1 n w v k base xs T hr.1 h1 hown hbase hk
  · rw [if_neg h1, if_neg h1]
    by_cases h2 : n < 2048
    · rw [if_pos h2, if_pos h2]; exact grow2 n w v k base xs T (by omega) h2 hown hbase hk
    · rw [if_neg h2, if_neg h2]
      by_cases h3 : n < 65536
      · rw [if_pos h3, if_pos h3]; exact grow3 n w v k base xs T (by omega) h3 hown hbase hk
      · rw [if_neg h3, if_neg h3]; exact grow4 n w v k base xs T (by omega) hr.2 hown hbase hk
end Go.Proofs.YtkigpbajbafpcaaDoor
