/-
  Bytes of a sign behind those that are there: the contracts of group and grow of layer 2.
  The contract of Write of layer 2: the signs' bytes in memory of its own, or ErrUtf8.
  The contracts of layer 3's Place and Places, and of the document's: which cell stands at places, where a cell stands, for all shapes; and of the statements' own comparison of two lists of numbers.
  The contracts of the document's Place, of layer 3's Places and the document's, and of the statements' own comparison of two lists of numbers; for all shapes.
  The contracts of the document's Check and of layer 3's; for all arrays.
  Literals: whether an array can be written as it is, by both; for all arrays.
  Signs between two quotes: what stands ahead of a sign, the signs' bytes; the contracts of isText, guard and signs; for all cells whose signs are good.
  The signs between two quotes as a string: the contract of signs; for all cells whose signs are good.
  An array as a text: the contracts of literal and Literal; for all arrays that can be written.
  A program as a text, as plain mathematics, by depth; which programs have their parts in place. No program is named. One word more, one piece more: put and glue.
  The writer's small functions: number, inBrackets, ahead, ofOne; what the writer of a part promises.
-/
import Derived.Test.YtneblkdkhlgmcaaGreatDoorM0
import Derived.Shelf.Strconv.Itoa4
import Derived.Test.YtneblkdkhlgmcaaGreatDoorProg
import Derived.WalkKit
import Derived.Test.YtneblkdkhlgmcaaGreatDoorChecked
import GoSem.Claim
import GoSem.ClaimJoined
import GoSem.ClaimMapViews
import Derived.JoinedTies
import Derived.KernelRfl
import Derived.ProofKit
import Derived.Below
import Derived.Deep.OwnRows
import Derived.Deep.QuietTactic
import Derived.BigQuiet
import Derived.Deep.RegionWith
import Derived.Lib.AppendIntMem
import Derived.Lib.ConvBytes
import Derived.Lib.Builder
import Derived.Lib.AppendStr
import Derived.Lib.UnsafeStr
import Derived.Deep.LoopGhost
import Derived.Deep.RegionHeld3
import Derived.Lib.MakeNoZero
import Derived.Laws.MakeOwn
import Derived.Laws.BitsAllLaws
import Derived.Lib.Bits
import Derived.Deep.Cut
import Derived.Deep.MidRow
import Derived.Deep.RegionLaw
import GoSem.ClaimSeven
import Derived.LaidByTextLater
import Derived.SevenTiedAt
import Derived.LaidSub
import Derived.LaidOnce
import Derived.Deep.DeepHandedRow
import Derived.Lib.LaidTab
import Derived.OpenShut
import Derived.Lay
import Derived.ChangeOld
import Derived.SizedLaws
import Derived.Deep.Slices
import Derived.Deep.Strs
namespace Go.Proofs.YtneblkdkhlgmcaaGreatDoor.Rn
open Go.ChangeShapes Go.WideShapes Go.ChangeAt Go.RowKit
set_option maxRecDepth 100000
set_option linter.unusedVariables false
set_option linter.unusedSimpArgs false
theorem group_any (n : Int) (w : World) (h0 : 0 ≤ n) (h1 : n < 4611686018427387904) : Calls Tryz.prog 133 #[.int .i64 n] w fun e w' => e = .returned (.int .u8 (128 + n % 64)) ∧ w' = w := by
  have e1 := and63w h0 h1
  have h2 : 0 ≤ n % 64 := by omega
  have h3 : n % 64 < 64 := by omega
  have e2 := or128 h2 h3
  go_enter Tryz.func133, Tryz.ntmps133
  go_wp2
  go_ret
  exact ⟨rfl, rfl⟩
theorem info5 : (Tryz.prog.info? 5).map (fun i => (i.zero, i.size, i.bytes)) = some (some (.int .u8 0), 1, 1) := by kernel_rfl
theorem info2 : (Tryz.prog.info? 2).map (fun i => (i.zero, i.size, i.bytes)) = some (some (.int .i64 0), 1, 8) := by kernel_rfl
abbrev bv (zs : List Int) : List Value := zs.map (Value.int .u8)
set_option maxHeartbeats 1000000 in
theorem grow1 (n : Int) (w : World) (v : Value) (k base : Nat) (xs : List Value) (T : Tab w) (hn0 : 0 ≤ n) (hn : n < 128) (hown : w.ownsRow base 5 1 v k xs) (hbase : base ≤ w.heap.size) (hk : k + 4 ≤ 140737488355328) :
    Calls Tryz.prog 114 #[v, .int .i64 n] w fun e w' => ∃ v', e = .returned v' ∧ w'.ownsRow base 5 1 v' (k + 1) (xs ++ bv [n]) ∧ Below base w w' := by
  obtain ⟨i0, hi, hz0, hz1, hz2⟩ := info_parts info5
  have t1 : w.cell? ⟨1, 1, none⟩ = some (.int .i64 128) := T.2 1 (by omega)
  go_enter Tryz.func114, Tryz.ntmps114
  go_wp2_with (at_builtin; refine wpList_append_own _ rfl _ _ 65 rfl base 5 i0 (.int .u8 0) 1 1 Tryz.underlying65 hi hz0 hz1 hz2 rfl (by decide) _ _ _ rfl (hown.alloc _) ⟨w.heap.size, 0, none⟩ 1 1 [.int .u8 n] rfl rfl ?c1 ?c2 ?c3 ?c4 ?c5 ?_)
  case c1 =>
    intro j u hj
    match j, hj with
    | 0, hj => simp at hj; subst hj; simp [Addr.add]
  case c2 => intro u hu; simp at hu; subst hu; rfl
  case c3 => unfold maxLen; omega
  case c4 => omega
  case c5 => simp; omega
  · intro v' w1 hown' hgrow _
    go_wp2
    go_ret
    exact ⟨_, rfl, hown', ((Below.refl _ _).alloc hbase _).grown hgrow (by simp; omega) (fun q hq => (hown.lt q hq).1)⟩
set_option maxHeartbeats 2000000 in
theorem grow2 (n : Int) (w : World) (v : Value) (k base : Nat) (xs : List Value) (T : Tab w) (hn0 : 128 ≤ n) (hn : n < 2048) (hown : w.ownsRow base 5 1 v k xs) (hbase : base ≤ w.heap.size) (hk : k + 4 ≤ 140737488355328) :
    Calls Tryz.prog 114 #[v, .int .i64 n] w fun e w' => ∃ v', e = .returned v' ∧ w'.ownsRow base 5 1 v' (k + 2) (xs ++ bv [192 + n / 64, 128 + n % 64]) ∧ Below base w w' := by
  obtain ⟨i0, hi, hz0, hz1, hz2⟩ := info_parts info5
  have t1 : w.cell? ⟨1, 1, none⟩ = some (.int .i64 128) := T.2 1 (by omega)
  have t2 : w.cell? ⟨1, 2, none⟩ = some (.int .i64 2048) := T.2 2 (by omega)
  have t3 : w.cell? ⟨1, 3, none⟩ = some (.int .i64 65536) := T.2 3 (by omega)
  have d1 : 0 ≤ n / 64 := by omega
  have d2 : n / 64 < 32 := by omega
  have d3 := or192 d1 d2
  go_enter Tryz.func114, Tryz.ntmps114
  go_wp2_with (first | (go_at_call 133; refine (group_any _ _ (by omega) (by omega)).mono ?_; rintro e w' ⟨rfl, hw⟩; rw [hw]) | (at_builtin; refine wpList_append_own _ rfl _ _ 65 rfl base 5 i0 (.int .u8 0) 1 1 Tryz.underlying65 hi hz0 hz1 hz2 rfl (by decide) _ _ _ rfl (hown.alloc _) ⟨w.heap.size, 0, none⟩ 2 2 (bv [192 + n / 64, 128 + n % 64]) rfl rfl ?c1 ?c2 ?c3 ?c4 ?c5 ?_))
  case c1 =>
    intro j u hj
    match j, hj with
    | 0, hj => simp at hj; subst hj; simp [Addr.add]
    | 1, hj => simp at hj; subst hj; simp [Addr.add]
  case c2 => intro u hu; simp at hu; rcases hu with rfl | rfl <;> rfl
  case c3 => unfold maxLen; omega
  case c4 => omega
  case c5 => simp; omega
  · intro v' w1 hown' hgrow _
    go_wp2
    go_ret
    exact ⟨_, rfl, hown', ((Below.refl _ _).alloc hbase _).grown hgrow (by simp; omega) (fun q hq => (hown.lt q hq).1)⟩
set_option maxHeartbeats 2000000 in
theorem grow3 (n : Int) (w : World) (v : Value) (k base : Nat) (xs : List Value) (T : Tab w) (hn0 : 2048 ≤ n) (hn : n < 65536) (hown : w.ownsRow base 5 1 v k xs) (hbase : base ≤ w.heap.size) (hk : k + 4 ≤ 140737488355328) :
    Calls Tryz.prog 114 #[v, .int .i64 n] w fun e w' => ∃ v', e = .returned v' ∧ w'.ownsRow base 5 1 v' (k + 3) (xs ++ bv [224 + n / 4096, 128 + n / 64 % 64, 128 + n % 64]) ∧ Below base w w' := by
  obtain ⟨i0, hi, hz0, hz1, hz2⟩ := info_parts info5
  have t1 : w.cell? ⟨1, 1, none⟩ = some (.int .i64 128) := T.2 1 (by omega)
  have t2 : w.cell? ⟨1, 2, none⟩ = some (.int .i64 2048) := T.2 2 (by omega)
  have t3 : w.cell? ⟨1, 3, none⟩ = some (.int .i64 65536) := T.2 3 (by omega)
  have d1 : 0 ≤ n / 4096 := by omega
  have d2 : n / 4096 < 16 := by omega
  have d3 := or224 d1 d2
  go_enter Tryz.func114, Tryz.ntmps114
  go_wp2_with (first | (go_at_call 133; refine (group_any _ _ (by omega) (by omega)).mono ?_; rintro e w' ⟨rfl, hw⟩; rw [hw]) | (at_builtin; refine wpList_append_own _ rfl _ _ 65 rfl base 5 i0 (.int .u8 0) 1 1 Tryz.underlying65 hi hz0 hz1 hz2 rfl (by decide) _ _ _ rfl (hown.alloc _) ⟨w.heap.size, 0, none⟩ 3 3 (bv [224 + n / 4096, 128 + n / 64 % 64, 128 + n % 64]) rfl rfl ?c1 ?c2 ?c3 ?c4 ?c5 ?_))
  case c1 =>
    intro j u hj
    match j, hj with
    | 0, hj => simp at hj; subst hj; simp [Addr.add]
    | 1, hj => simp at hj; subst hj; simp [Addr.add]
    | 2, hj => simp at hj; subst hj; simp [Addr.add]
  case c2 => intro u hu; simp at hu; rcases hu with rfl | rfl | rfl <;> rfl
  case c3 => unfold maxLen; omega
  case c4 => omega
  case c5 => simp; omega
  · intro v' w1 hown' hgrow _
    go_wp2
    go_ret
    exact ⟨_, rfl, hown', ((Below.refl _ _).alloc hbase _).grown hgrow (by simp; omega) (fun q hq => (hown.lt q hq).1)⟩
set_option maxHeartbeats 2000000 in
theorem grow4 (n : Int) (w : World) (v : Value) (k base : Nat) (xs : List Value) (T : Tab w) (hn0 : 65536 ≤ n) (hn : n < 1114112) (hown : w.ownsRow base 5 1 v k xs) (hbase : base ≤ w.heap.size) (hk : k + 4 ≤ 140737488355328) :
    Calls Tryz.prog 114 #[v, .int .i64 n] w fun e w' => ∃ v', e = .returned v' ∧ w'.ownsRow base 5 1 v' (k + 4) (xs ++ bv [240 + n / 262144, 128 + n / 4096 % 64, 128 + n / 64 % 64, 128 + n % 64]) ∧ Below base w w' := by
  obtain ⟨i0, hi, hz0, hz1, hz2⟩ := info_parts info5
  have t1 : w.cell? ⟨1, 1, none⟩ = some (.int .i64 128) := T.2 1 (by omega)
  have t2 : w.cell? ⟨1, 2, none⟩ = some (.int .i64 2048) := T.2 2 (by omega)
  have t3 : w.cell? ⟨1, 3, none⟩ = some (.int .i64 65536) := T.2 3 (by omega)
  have d1 : 0 ≤ n / 262144 := by omega
  have d2 : n / 262144 < 8 := by omega
  have d3 := or240 d1 d2
  go_enter Tryz.func114, Tryz.ntmps114
  go_wp2_with (first | (go_at_call 133; refine (group_any _ _ (by omega) (by omega)).mono ?_; rintro e w' ⟨rfl, hw⟩; rw [hw]) | (at_builtin; refine wpList_append_own _ rfl _ _ 65 rfl base 5 i0 (.int .u8 0) 1 1 Tryz.underlying65 hi hz0 hz1 hz2 rfl (by decide) _ _ _ rfl (hown.alloc _) ⟨w.heap.size, 0, none⟩ 4 4 (bv [240 + n / 262144, 128 + n / 4096 % 64, 128 + n / 64 % 64, 128 + n % 64]) rfl rfl ?c1 ?c2 ?c3 ?c4 ?c5 ?_))
  case c1 =>
    intro j u hj
    match j, hj with
    | 0, hj => simp at hj; subst hj; simp [Addr.add]
    | 1, hj => simp at hj; subst hj; simp [Addr.add]
    | 2, hj => simp at hj; subst hj; simp [Addr.add]
    | 3, hj => simp at hj; subst hj; simp [Addr.add]
  case c2 => intro u hu; simp at hu; rcases hu with rfl | rfl | rfl | rfl <;> rfl
  case c3 => unfold maxLen; omega
  case c4 => omega
  case c5 => simp; omega
  · intro v' w1 hown' hgrow _
    go_wp2
    go_ret
    exact ⟨_, rfl, hown', ((Below.refl _ _).alloc hbase _).grown hgrow (by simp; omega) (fun q hq => (hown.lt q hq).1)⟩
theorem grow_any (n : Int) (w : World) (v : Value) (k base : Nat) (xs : List Value) (T : Tab w) (hn : Good n) (hown : w.ownsRow base 5 1 v k xs) (hbase : base ≤ w.heap.size) (hk : k + 4 ≤ 140737488355328) :
    Calls Tryz.prog 114 #[v, .int .i64 n] w fun e w' => ∃ v', e = .returned v' ∧ w'.ownsRow base 5 1 v' (k + wid n) (xs ++ bv (put n)) ∧ Below base w w' := by
  have hr := hn.rng
  unfold wid put
  by_cases h1 : n < 128
  · rw [if_pos h1, if_pos h1]; exact grow1 n w v k base xs T hr.1 h1 hown hbase hk
  · rw [if_neg h1, if_neg h1]
    by_cases h2 : n < 2048
    · rw [if_pos h2, if_pos h2]; exact grow2 n w v k base xs T (by omega) h2 hown hbase hk
    · rw [if_neg h2, if_neg h2]
      by_cases h3 : n < 65536
      · rw [if_pos h3, if_pos h3]; exact grow3 n w v k base xs T (by omega) h3 hown hbase hk
      · rw [if_neg h3, if_neg h3]; exact grow4 n w v k base xs T (by omega) hr.2 hown hbase hk
end Go.Proofs.YtneblkdkhlgmcaaGreatDoor.Rn
namespace Go.Proofs.YtneblkdkhlgmcaaGreatDoor.Rn
open Go.ChangeShapes Go.WideShapes Go.ChangeAt Go.RowKit
set_option maxRecDepth 100000
set_option linter.unusedVariables false
set_option linter.unusedSimpArgs false
theorem row_at {k : IntKind} {w : World} {a : Option Addr} {l : List Int} (R : Row k w a l) {j : Nat} (h : j < l.length) : ∃ b off, a = some ⟨b, off, none⟩ ∧ b < w.heap.size ∧ w.cell? ⟨b, off + j, none⟩ = some (.int k (l[j]?.getD 0)) := by
  rcases R.2 with h0 | ⟨b, off, ha, hb, hc⟩
  · subst h0; simp at h
  · exact ⟨b, off, ha, hb, hc j h⟩
theorem row_owned {k : IntKind} {e : TypeId} {w : World} {base : Nat} {v : Value} {zs : List Int} (h : w.ownsRow base e 1 v zs.length (zs.map (Value.int k))) (hl : zs.length ≤ 140737488355328) :
    ∃ a cap, v = .slice a zs.length cap ∧ Row k w a zs ∧ (∀ x, a = some x → base ≤ x.block) ∧ (zs.length : Int) ≤ cap ∧ (a = none → zs.length = 0 ∧ cap = 0) := by
  obtain ⟨h1, h2⟩ := h
  rcases h2 with ⟨rfl, h2⟩ | ⟨g, cap, cur, rfl, hb, hg, hn, hm, hs, ht⟩
  · have e : zs = [] := List.eq_nil_of_length_eq_zero h2
    subst e
    exact ⟨none, 0, rfl, ⟨by simp, Or.inl rfl⟩, (fun x hx => by cases hx), by simp, (fun _ => ⟨rfl, rfl⟩)⟩
  · refine ⟨_, _, rfl, ⟨hl, Or.inr ⟨g, 0, rfl, ?_, ?_⟩⟩, (fun x hx => by cases hx; exact hb), by omega, (fun h => by cases h)⟩
    · exact lt_of_block hg
    · intro i hi
      have hown : w.ownsRow base e 1 (.slice (some ⟨g, 0, none⟩) zs.length cap) zs.length (zs.map (Value.int k)) := ⟨h1, Or.inr ⟨g, cap, cur, rfl, hb, hg, hn, hm, hs, ht⟩⟩
      have := hown.cellAt i (by omega)
      simp only [Nat.zero_add]
      rw [this, List.getElem?_map, List.getElem?_eq_getElem hi]
      rfl
theorem enc_snoc (l : List Int) (j : Nat) (hlt : j < l.length) : enc (l.take (j + 1)) = enc (l.take j) ++ put (l[j]?.getD 0) := by
  rw [List.take_succ_eq_append_getElem hlt, enc_append, List.getElem?_eq_getElem hlt]
  simp [enc]
theorem bv_append (l m : List Int) : bv (l ++ m) = bv l ++ bv m := List.map_append
/-- What Write tells. -/
def Wrote (l : List Int) (p : Nat) (w : World) (e : Ending) (w' : World) : Prop :=
  (p = l.length → ∃ a, e = .returned (.tuple #[.slice a (enc l).length (enc l).length, .int .i64 0]) ∧ Row .u8 w' a (enc l) ∧ ∀ x, a = some x → w.heap.size ≤ x.block) ∧
  (p < l.length → e = .returned (.tuple #[.slice none 0 0, .int .i64 3])) ∧ Below w.heap.size w w'
set_option maxHeartbeats 2000000 in
theorem write_any (l : List Int) (p : Nat) (a : Option Addr) (cap : Nat) (w : World) (R : Row .i64 w a l) (T : Tab w) (hl : l.length * 8 ≤ 140737488355328) (hp : p ≤ l.length) (hg : ∀ z ∈ l.take p, Good z) (hb : p < l.length → ¬ Good (l[p]?.getD 0)) :
    Calls Tryz.prog 87 #[.slice a l.length cap] w fun e w' => Wrote l p w e w' := by
  have hrow := @row_at _ _ _ _ R
  have Hb : Hid (p < l.length → ¬ Good (l[p]?.getD 0)) := hb
  clear hb
  go_enter Tryz.func87, Tryz.ntmps87
  go_wp2
  go_loopw [4, 8] (fun v i wr => ∃ j : Nat, j ≤ p ∧ i = .int .i64 j ∧ wr.ownsRow w.heap.size 5 1 v (enc (l.take j)).length (bv (enc (l.take j))) ∧ Below w.heap.size w wr) (fun _ i _ => l.length - (intOf i).toNat)
  case atStart => exact ⟨0, Nat.zero_le _, rfl, World.ownsRow_nil _ _ _ _, Below.refl _ _⟩
  case round =>
    obtain ⟨j, hj, rfl, hown, hnx⟩ := hrel
    have T' := T.below hnx T.1
    by_cases hlt : j < l.length
    · obtain ⟨b, off, ha, hb, hck⟩ := hrow hlt
      subst ha
      have hcx : wr.cell? ⟨b, off + j, none⟩ = some (.int .i64 (l[j]?.getD 0)) := (hnx.cell (p := ⟨b, off + j, none⟩) hb).trans hck
      by_cases hjp : j < p
      · have hgj : Good (l[j]?.getD 0) := by
          rw [List.getElem?_eq_getElem hlt]
          refine hg _ ?_
          rw [List.mem_take_iff_getElem]
          exact ⟨j, by omega, rfl⟩
        have HS : Hid (enc (l.take (j + 1)) = enc (l.take j) ++ put (l[j]?.getD 0)) := enc_snoc l j hlt
        have hlen := (enc_len (l.take j)).2
        rw [List.length_take] at hlen
        have hgb := goodB_true hgj
        have HG : Hid (Good (l[j]?.getD 0)) := hgj
        clear hgj
        obtain ⟨z, hz⟩ : ∃ z, l[j]?.getD 0 = z := ⟨_, rfl⟩
        rw [hz] at hcx HS hgb HG
        clear hck hrow hz hg
        go_wp2_with (first | (go_at_call 113; refine (good_any _ _).mono ?_; rintro e w' ⟨rfl, hw⟩; rw [hw]) | (go_at_call 114; refine (grow_any _ _ _ _ w.heap.size _ T' HG.out hown hnx.size (by omega)).mono ?_; rintro e w1 ⟨v', rfl, hown', hbel⟩))
        go_roundw
        case rel => exact ⟨j + 1, by omega, by go_num, by rw [HS.out, List.length_append, put_length, bv_append]; exact hown', hnx.trans hbel⟩
        case measure => simp [intOf]; omega
      · have hje : j = p := by omega
        subst hje
        have hgj := Hb.out hlt
        have hgb := goodB_false hgj
        clear hgj
        obtain ⟨z, hz⟩ : ∃ z, l[j]?.getD 0 = z := ⟨_, rfl⟩
        rw [hz] at hcx hgb
        clear hck hrow hz hg
        go_wp2_with (first | (go_at_call 113; refine (good_any _ _).mono ?_; rintro e w' ⟨rfl, hw⟩; rw [hw]))
        go_ret2
        exact ⟨fun h => absurd h (by omega), fun _ => rfl, hnx⟩
    · have hje : j = l.length := by omega
      have hjp : p = l.length := by omega
      subst hje
      rw [List.take_length] at hown
      have hlen := (enc_len l).2
      obtain ⟨a', c', hv, R', hx, hcap, hnil⟩ := row_owned hown (by omega)
      subst hv
      clear hown hrow
      go_wp2
      go_ret2
      exact ⟨fun _ => ⟨a', rfl, R', hx⟩, fun h => absurd h (by omega), hnx⟩
end Go.Proofs.YtneblkdkhlgmcaaGreatDoor.Rn
namespace Go.Proofs.YtneblkdkhlgmcaaGreatDoor
open Go.ChangeShapes Go.WideShapes Go.ChangeAt Go.RowKit
set_option maxRecDepth 100000
noncomputable instance (l at' : List Int) : Decidable (inAxes l at') := Classical.propDecidable _
/-- Place's answer. -/
noncomputable def plcV (l m : List Int) : Int := if sizeE l = 0 ∧ inAxes l m then place l m else 0
noncomputable def plcE (l m : List Int) : Int := if sizeE l ≠ 0 then sizeE l else if m.length ≠ l.length then 6 else if inAxes l m then 0 else 8
theorem sizeE_ok {l : List Int} (h : sizeE l = 0) : ¬ 8 < l.length ∧ ¬ hasNeg l ∧ (hasZero l ∨ (¬ hasZero l ∧ prodL l ≤ 16384)) := by
  unfold sizeE at h
  by_cases h8 : 8 < l.length
  · simp [h8] at h
  · by_cases hn : hasNeg l
    · simp [h8, hn] at h
    · by_cases hz : hasZero l
      · exact ⟨h8, hn, Or.inl hz⟩
      · by_cases hm : 16384 < prodL l
        · simp [h8, hn, hz, hm] at h
        · exact ⟨h8, hn, Or.inr ⟨hz, by omega⟩⟩
end Go.Proofs.YtneblkdkhlgmcaaGreatDoor
namespace Go.Proofs.YtneblkdkhlgmcaaGreatDoor
open Go.ChangeShapes Go.WideShapes Go.ChangeAt Go.RowKit
set_option maxRecDepth 100000
theorem drewN_below {B : Nat} {w wr : World} (h : Below B w wr) (m : Nat) : Below B w (wr.drewN m) := ⟨h.os, h.tape, h.output, h.size, h.block⟩
theorem sizeV_in {l : List Int} {n : Int} (hs : sizeE l = 0) (h0 : 0 ≤ n) (h1 : n < sizeV l) : ¬ 8 < l.length ∧ (∀ z ∈ l, 0 < z) ∧ sizeV l = prodL l ∧ prodL l ≤ 16384 := by
  obtain ⟨a, b, c⟩ := sizeE_ok hs
  rcases c with c | ⟨c, d⟩
  · rw [(size_zero a b c).1] at h1
    omega
  · exact ⟨a, all_pos b c, (size_ok a b c (by omega)).1, d⟩
end Go.Proofs.YtneblkdkhlgmcaaGreatDoor
namespace Go.Proofs.YtneblkdkhlgmcaaGreatDoor
open Go.ChangeShapes Go.WideShapes Go.ChangeAt Go.RowKit
set_option maxRecDepth 100000
set_option linter.unusedVariables false
set_option maxHeartbeats 2000000 in
theorem rcheckB_any (n B : Nat) (f : Ar → Int) (IH : InnerC 89 n B f) (x : Ar) (lo : Nat) (va : Value) (w : World) (hx : ArIn (n + 1) lo w x va) :
    Calls Tryz.prog 89 #[va, .int .i64 (B : Int)] w fun e w' => e = .returned (.int .i64 (chkB f x)) ∧ Below w.heap.size w w' := by
  obtain ⟨a1, c1, a2, c2, rfl, R, hl, hc⟩ := hx
  have K1 : Hid (¬ sizeE x.shape = 0 → chkB f x = sizeE x.shape) := fun h => by unfold chkB; rw [if_pos h]
  have K2 : Hid (sizeE x.shape = 0 → ¬ sizeV x.shape = x.cells.length → chkB f x = 1) := fun h h' => by unfold chkB; rw [if_neg (fun k => k h), if_pos h']
  have K3 : Hid (sizeE x.shape = 0 → sizeV x.shape = x.cells.length → hasLong x.shape → chkB f x = 12) := fun h h' h'' => by unfold chkB; rw [if_neg (fun k => k h), if_neg (fun k => k h'), if_pos h'']
  have K4 : Hid (sizeE x.shape = 0 → sizeV x.shape = x.cells.length → ¬ hasLong x.shape → chkB f x = firstUp (chkF f x) x.cells.length) := fun h h' h'' => by unfold chkB; rw [if_neg (fun k => k h), if_neg (fun k => k h'), if_neg h'']
  generalize chkB f x = r at K1 K2 K3 K4
  have b0 := one_alloc w (.cells #[.slice a1 x.shape.length c1, .slice a2 x.cells.length c2] 25)
  have C1 := rsize_any x.shape a1 c1 _ (R.next b0)
  have hlR := R.1
  have HB0 : Hid (Below w.heap.size w (w.alloc (.cells #[.slice a1 x.shape.length c1, .slice a2 x.cells.length c2] 25))) := b0
  have HS : Hid (∀ i, i < x.shape.length → ∃ b off s, a1 = some ⟨b, off, none⟩ ∧ (16384 < s → hasLong x.shape) ∧ (x.shape[i]?.getD 0 = s) ∧ (w.alloc (.cells #[.slice a1 x.shape.length c1, .slice a2 x.cells.length c2] 25)).cell? ⟨b, off + i, none⟩ = some (.int .i64 s)) := by
    intro i hi
    obtain ⟨b, off, ha, hb, hck⟩ := row_at (R.next b0) hi
    exact ⟨b, off, _, ha, fun h => ⟨_, getD_mem hi, h⟩, rfl, hck⟩
  have D3 : Hid ((∀ i, i < x.shape.length → ¬ 16384 < x.shape[i]?.getD 0) → ¬ hasLong x.shape) := by
    rintro h ⟨z, hz, hz'⟩
    obtain ⟨k, hk, e⟩ := mem_getD hz
    exact h k hk (by omega)
  have HC : Hid (∀ i, i < x.cells.length → ∃ b off z0 z1 ab nb cb, a2 = some ⟨b, off, none⟩ ∧ ∀ wr, Below w.heap.size w wr → (wr.cell? ⟨b, off + i * 3, none⟩ = some (.int .i64 z0) ∧ wr.cell? ⟨b, off + i * 3 + 1, none⟩ = some (.int .i64 z1) ∧ wr.cell? ⟨b, off + i * 3 + 2, none⟩ = some (.slice ab nb cb)) ∧ Calls Tryz.prog 117 #[.agg #[.int .i64 z0, .int .i64 z1, .slice ab nb cb], .int .i64 (B : Int)] wr fun e w' => e = .returned (.int .i64 (chkF f x i)) ∧ Below wr.heap.size wr w') := by
    intro i hi
    obtain ⟨b, off, z0, z1, ab, nb, cb, ha, h⟩ := cells_at hc i hi
    refine ⟨b, off, z0, z1, ab, nb, cb, ha, fun wr hw => ?_⟩
    obtain ⟨e0, e1, e2, e3⟩ := h wr hw
    exact ⟨⟨e0, e1, e2⟩, rcheckCell_any n B f IH _ lo wr _ _ _ e3⟩
  clear R hc b0 IH
  by_cases h1 : sizeE x.shape = 0
  · rw [h1] at C1
    by_cases h2 : sizeV x.shape = x.cells.length
    · rw [h2] at C1
      have K3' : Hid (hasLong x.shape → r = 12) := K3.out h1 h2
      have K4' : Hid (¬ hasLong x.shape → r = firstUp (chkF f x) x.cells.length) := K4.out h1 h2
      clear K1 K2 K3 K4 h1 h2
      have H0 : Hid (firstUp (chkF f x) 0 = 0) := rfl
      generalize chkF f x = F at *
      generalize x.shape = SS at *
      generalize x.cells.length = CA at *
      have W1 := one_alloc w (.cells #[.slice a1 SS.length c1, .slice a2 CA c2] 25)
      go_enter Tryz.func89, Tryz.ntmps89
      go_wp2_with fail
      refine C1.mono ?_
      rintro e w1 ⟨rfl, hw⟩
      rw [hw]
      clear hw C1 W1
      go_wp2
      go_loop [7] (fun i => ∃ j : Nat, j ≤ SS.length ∧ i = .int .i64 (j : Int) ∧ ∀ i, i < j → ¬ 16384 < SS[i]?.getD 0) (fun i => SS.length - (intOf i).toNat)
      case atStart => exact ⟨0, Nat.zero_le _, rfl, by simp⟩
      case round =>
        obtain ⟨j, hj, rfl, hall⟩ := hrel
        have HALL := hide hall
        clear hall
        by_cases hlt : j < SS.length
        · obtain ⟨b, off, s, rfl, hL, hs, hck⟩ := HS.out j hlt
          have HSS := hide hs
          have HL := hide hL
          clear HS HC hs hL
          by_cases hlong : 16384 < s
          · have hr : Hid (r = 12) := K3'.out (HL.out hlong)
            go_wp2
            go_ret
            exact ⟨retI hr.out.symm, HB0.out⟩
          · have HN := hide hlong
            go_wp2
            go_round
            case rel =>
              refine ⟨j + 1, by omega, by go_num, ?_⟩
              intro i hi
              rcases Nat.lt_succ_iff_lt_or_eq.1 hi with h | rfl
              · exact HALL.out i h
              · rw [HSS.out]; exact HN.out
            case measure => simp [intOf]; omega
        · have hje : j = SS.length := by omega
          subst hje
          have HR := hide (K4'.out (D3.out (fun i hi => by have := HALL.out i hi; omega)))
          clear HS HALL D3 K3' K4'
          go_wp2
          go_loopw [8] (fun i wr => ∃ j : Nat, j ≤ CA ∧ i = .int .i64 (j : Int) ∧ firstUp F j = 0 ∧ wr.cell? ⟨w.heap.size, 1, none⟩ = some (.slice a2 CA c2) ∧ w.heap.size + 1 ≤ wr.heap.size ∧ Below w.heap.size w wr) (fun i _ => CA - (intOf i).toNat)
          case atStart => exact ⟨0, Nat.zero_le _, rfl, H0.out, cell_new0 w _ 25 1 _ rfl, by simp, HB0.out⟩
          case round =>
            clear HB0
            obtain ⟨j, hj, rfl, hz, hcl, hsz, hnx⟩ := hrel
            have HZ := hide hz
            have HSZ := hide hsz
            clear hz hsz
            by_cases hlt : j < CA
            · obtain ⟨b, off, z0, z1, ab, nb, cb, rfl, hcs⟩ := HC.out j hlt
              obtain ⟨⟨k0, k1, k2⟩, C⟩ := hcs wr hnx
              have HT : Hid (F j ≠ 0 → r = F j) := fun h => by rw [HR.out]; exact firstUp_hit HZ.out h CA hlt
              have HS : Hid (firstUp F (j + 1) = F j) := firstUp_step HZ.out
              clear hcs HC
              obtain ⟨z, ez⟩ : ∃ z, F j = z := ⟨_, rfl⟩
              rw [ez] at C HT HS
              clear ez
              by_cases hz0 : z = 0
              · subst hz0
                go_wp2_with fail
                refine C.mono ?_
                rintro e w1 ⟨rfl, hb1⟩
                go_wp2
                go_roundw
                case rel => exact ⟨j + 1, by omega, by go_num, HS.out, (hb1.cell (p := ⟨w.heap.size, 1, none⟩) (by have := HSZ.out; show w.heap.size < _; omega)).trans hcl, Nat.le_trans HSZ.out hb1.size, hnx.trans (hb1.mono hnx.size)⟩
                case measure => simp [intOf]; omega
              · have HN := hide hz0
                go_wp2_with fail
                refine C.mono ?_
                rintro e w1 ⟨rfl, hb1⟩
                go_wp2
                go_ret
                exact ⟨retI (HT.out HN.out).symm, hnx.trans (hb1.mono hnx.size)⟩
            · have hje : j = CA := by omega
              subst hje
              have hr : Hid (r = 0) := by show r = 0; rw [HR.out]; exact HZ.out
              clear HC HR HZ
              go_wp2
              go_ret
              exact ⟨retI hr.out.symm, hnx⟩
    · have hr : Hid (r = 1) := K2.out h1 h2
      clear K1 K2 K3 K4 HC h1 HS D3
      generalize sizeV x.shape = S at C1 h2
      generalize x.shape.length = SA at *
      generalize x.cells.length = CA at *
      go_enter Tryz.func89, Tryz.ntmps89
      go_wp2_with fail
      refine C1.mono ?_
      rintro e w1 ⟨rfl, hw⟩
      rw [hw]
      clear hw
      go_wp2
      go_ret
      exact ⟨retI hr.out.symm, HB0.out⟩
  · have hr := hide (K1.out h1)
    clear K1 K2 K3 K4 HC HS D3
    generalize sizeV x.shape = S at C1
    generalize sizeE x.shape = E at C1 h1 hr
    generalize x.shape.length = SA at *
    generalize x.cells.length = CA at *
    go_enter Tryz.func89, Tryz.ntmps89
    go_wp2_with fail
    refine C1.mono ?_
    rintro e w1 ⟨rfl, hw⟩
    rw [hw]
    clear hw
    go_wp2
    go_ret
    exact ⟨retI hr.out.symm, HB0.out⟩
theorem within_any (r : Nat) : ∀ (hr : r ≤ 8) (n : Nat) (x : Ar) (lo : Nat) (va : Value) (w : World), ArIn n lo w x va → Calls Tryz.prog 85 #[va, .int .i64 ((8 - r : Nat) : Int)] w fun e w' => e = .returned (.int .i64 (chkA r x)) ∧ Below w.heap.size w w' := by
  induction r with
  | zero =>
    intro hr n x lo va w hx
    cases n with
    | zero => exact hx.elim
    | succ n => exact checkB_any n 8 (fun _ => 15) ⟨by omega, fun _ => rfl, fun h => absurd h (by omega)⟩ x lo va w hx
  | succ r ih =>
    intro hr n x lo va w hx
    cases n with
    | zero => exact hx.elim
    | succ n =>
      refine checkB_any n (8 - (r + 1)) (chkA r) ⟨by omega, fun h => absurd h (by omega), fun _ => ?_⟩ x lo va w hx
      intro y lo vb w hy
      have := ih (by omega) n y lo vb w hy
      have e : ((8 - r : Nat) : Int) = ((8 - (r + 1) : Nat) : Int) + 1 := by omega
      rw [e] at this
      exact this
theorem rwithin_any (r : Nat) : ∀ (hr : r ≤ 8) (n : Nat) (x : Ar) (lo : Nat) (va : Value) (w : World), ArIn n lo w x va → Calls Tryz.prog 89 #[va, .int .i64 ((8 - r : Nat) : Int)] w fun e w' => e = .returned (.int .i64 (chkA r x)) ∧ Below w.heap.size w w' := by
  induction r with
  | zero =>
    intro hr n x lo va w hx
    cases n with
    | zero => exact hx.elim
    | succ n => exact rcheckB_any n 8 (fun _ => 15) ⟨by omega, fun _ => rfl, fun h => absurd h (by omega)⟩ x lo va w hx
  | succ r ih =>
    intro hr n x lo va w hx
    cases n with
    | zero => exact hx.elim
    | succ n =>
      refine rcheckB_any n (8 - (r + 1)) (chkA r) ⟨by omega, fun h => absurd h (by omega), fun _ => ?_⟩ x lo va w hx
      intro y lo vb w hy
      have := ih (by omega) n y lo vb w hy
      have e : ((8 - r : Nat) : Int) = ((8 - (r + 1) : Nat) : Int) + 1 := by omega
      rw [e] at this
      exact this
theorem check_any (n : Nat) (x : Ar) (lo : Nat) (va : Value) (w : World) (hx : ArIn n lo w x va) : Calls Tryz.prog 48 #[va] w fun e w' => e = .returned (.int .i64 (chkA 8 x)) ∧ Below w.heap.size w w' := by
  have C := fun w' hb => within_any 8 (Nat.le_refl _) n x lo va w' (hx.next hb)
  cases n with
  | zero => exact hx.elim
  | succ n =>
    obtain ⟨a1, c1, a2, c2, rfl, -⟩ := hx
    generalize chkA 8 x = r at C
    generalize x.shape.length = SA at *
    generalize x.cells.length = CA at *
    have C1 := C _ (one_alloc w (.cells #[.slice a1 SA c1, .slice a2 CA c2] 25))
    clear C
    go_enter Tryz.func48, Tryz.ntmps48
    go_wp2_with fail
    refine C1.mono ?_
    rintro e w1 ⟨rfl, hb1⟩
    go_wp2
    go_ret
    exact ⟨rfl, (one_alloc _ _).trans (hb1.mono (one_alloc _ _).size)⟩
theorem rcheck_any (n : Nat) (x : Ar) (lo : Nat) (va : Value) (w : World) (hx : ArIn n lo w x va) : Calls Tryz.prog 52 #[va] w fun e w' => e = .returned (.int .i64 (chkA 8 x)) ∧ Below w.heap.size w w' := by
  have C := fun w' hb => rwithin_any 8 (Nat.le_refl _) n x lo va w' (hx.next hb)
  cases n with
  | zero => exact hx.elim
  | succ n =>
    obtain ⟨a1, c1, a2, c2, rfl, -⟩ := hx
    generalize chkA 8 x = r at C
    generalize x.shape.length = SA at *
    generalize x.cells.length = CA at *
    have C1 := C _ (one_alloc w (.cells #[.slice a1 SA c1, .slice a2 CA c2] 25))
    clear C
    go_enter Tryz.func52, Tryz.ntmps52
    go_wp2_with fail
    refine C1.mono ?_
    rintro e w1 ⟨rfl, hb1⟩
    go_wp2
    go_ret
    exact ⟨rfl, (one_alloc _ _).trans (hb1.mono (one_alloc _ _).size)⟩
end Go.Proofs.YtneblkdkhlgmcaaGreatDoor
namespace Go.Proofs.YtneblkdkhlgmcaaGreatDoor
open Go.ChangeShapes Go.WideShapes Go.ChangeAt Go.RowKit
set_option maxRecDepth 100000
set_option linter.unusedVariables false
set_option linter.unusedSimpArgs false
def atomL (x : Ar) : Bool := decide (x.shape.length = 0) || (decide (x.shape.length = 1) && !decide (x.shape[0]?.getD 0 = 1))
def numC (c : Ce) : Bool := decide (c.1 = 0)
def plC (c : Ce) : Bool := decide (c.1 = 1) && (decide (32 ≤ c.2.1) && !decide (c.2.1 = 127))
def allC (p : Ce → Bool) (cs : List Ce) : Bool := !anyUp (fun i => !p (cAt cs i)) cs.length
/-- Can an array be written as it is? -/
def litB (x : Ar) : Bool := atomL x && (allC numC x.cells || allC plC x.cells) && decide (chkA 8 x = 0)
def badC (x : Ar) (i : Nat) : Bool := decide ((cAt x.cells i).1 ≠ (cAt x.cells 0).1) || decide ((cAt x.cells i).1 = 2) || (decide ((cAt x.cells i).1 = 1) && (decide ((cAt x.cells i).2.1 < 32) || decide ((cAt x.cells i).2.1 = 127)))
theorem chk_kinds {x : Ar} (h : chkA 8 x = 0) (i : Nat) (hi : i < x.cells.length) : (cAt x.cells i).1 = 0 ∨ (cAt x.cells i).1 = 1 ∨ (cAt x.cells i).1 = 2 := by
  change chkB (chkA 7) x = 0 at h
  unfold chkB at h
  split at h
  · omega
  split at h
  · omega
  split at h
  · omega
  have h1 := firstUp_zero h (i + 1) hi
  have h2 := firstUp_zero h i (by omega)
  rw [firstUp_step h2] at h1
  unfold chkF chkC at h1
  split at h1
  · omega
  split at h1
  · omega
  · omega
theorem allC_iff {p : Ce → Bool} {cs : List Ce} : allC p cs = true ↔ ∀ i, i < cs.length → p (cAt cs i) = true := by
  unfold allC
  rw [Bool.not_eq_true', anyUp_none]
  constructor
  · intro h i hi; have := h i hi; simpa using this
  · intro h i hi; simp [h i hi]
theorem lit_doc (x : Ar) : (decide (chkA 8 x = 0) && atomL x && !anyUp (badC x) x.cells.length) = litB x := by
  unfold litB
  by_cases hc : chkA 8 x = 0
  · have hk := chk_kinds hc
    simp only [hc, decide_true, Bool.true_and, Bool.and_true]
    cases atomL x
    · simp
    · simp only [Bool.true_and]
      rw [Bool.eq_iff_iff, Bool.not_eq_true', anyUp_none, Bool.or_eq_true, allC_iff, allC_iff]
      constructor
      · intro h
        by_cases h0 : x.cells.length = 0
        · exact Or.inl fun i hi => by omega
        · have hb := h 0 (by omega)
          have k0 := hk 0 (by omega)
          simp only [badC, Bool.or_eq_false_iff, Bool.and_eq_false_iff, decide_eq_false_iff_not] at hb
          rcases k0 with k0 | k0 | k0
          · refine Or.inl fun i hi => ?_
            have := h i hi
            simp only [badC, Bool.or_eq_false_iff, decide_eq_false_iff_not, Decidable.not_not] at this
            simp [numC, this.1.1, k0]
          · refine Or.inr fun i hi => ?_
            have := h i hi
            simp only [badC, Bool.or_eq_false_iff, Bool.and_eq_false_iff, decide_eq_false_iff_not, Decidable.not_not] at this
            have k : (cAt x.cells i).1 = 1 := by rw [this.1.1, k0]
            rcases this.2 with t | ⟨t1, t2⟩
            · exact absurd k t
            · simp only [plC, k, decide_true, Bool.true_and, Bool.and_eq_true, decide_eq_true_eq, Bool.not_eq_true', decide_eq_false_iff_not]
              exact ⟨by omega, t2⟩
          · exact absurd k0 hb.1.2
      · intro h i hi
        rcases h with h | h
        · have a := h i hi
          have b := h 0 (by omega)
          simp only [numC, decide_eq_true_eq] at a b
          simp [badC, a, b]
        · have a := h i hi
          have b := h 0 (by omega)
          simp only [plC, Bool.and_eq_true, decide_eq_true_eq, Bool.not_eq_true', decide_eq_false_iff_not] at a b
          simp only [badC, a.1, b.1, Bool.or_eq_false_iff, Bool.and_eq_false_iff, decide_eq_false_iff_not]
          exact ⟨⟨by omega, by omega⟩, Or.inr ⟨by omega, a.2.2⟩⟩
  · simp [hc]
set_option maxHeartbeats 1000000 in
theorem isNum39 (c : Ce) (v2 : Value) (a : Option Addr) (l cc : Nat) (hv : v2 = .slice a l cc) (w : World) : Calls Tryz.prog 46 #[.agg #[.int .i64 c.1, .int .i64 c.2.1, v2]] w fun e w' => e = .returned (.bool (numC c)) ∧ Below w.heap.size w w' := by
  subst hv
  unfold numC
  have hb := fun z1 z2 => one_alloc w (.cells #[.int .i64 z1, .int .i64 z2, .slice a l cc] 64)
  generalize c.1 = K
  generalize c.2.1 = Z
  go_enter Tryz.func46, Tryz.ntmps46
  go_wp2
  go_ret
  exact ⟨retB (by rw [Bool.eq_iff_iff]; simp), hb _ _⟩
set_option maxHeartbeats 1000000 in
theorem isPl40 (c : Ce) (v2 : Value) (a : Option Addr) (l cc : Nat) (hv : v2 = .slice a l cc) (w : World) : Calls Tryz.prog 47 #[.agg #[.int .i64 c.1, .int .i64 c.2.1, v2]] w fun e w' => e = .returned (.bool (plC c)) ∧ Below w.heap.size w w' := by
  subst hv
  unfold plC
  have hb := fun z1 z2 => one_alloc w (.cells #[.int .i64 z1, .int .i64 z2, .slice a l cc] 64)
  generalize c.1 = K
  generalize c.2.1 = Z
  by_cases k1 : K = 1
  · subst k1
    by_cases k2 : 32 ≤ Z
    · have k2' : decide (32 ≤ Z) = true := by simp [k2]
      by_cases k3 : Z = 127
      · subst k3
        go_enter Tryz.func47, Tryz.ntmps47
        go_wp2
        go_ret
        exact ⟨retB (by simp), hb _ _⟩
      · have k3' : (Z == 127) = false := beq_eq_false_iff_ne.2 k3
        go_enter Tryz.func47, Tryz.ntmps47
        go_wp2
        go_ret
        exact ⟨retB (by simp [k3, k2]), hb _ _⟩
    · have k2' : decide (32 ≤ Z) = false := by simp [k2]
      go_enter Tryz.func47, Tryz.ntmps47
      go_wp2
      go_ret
      exact ⟨retB (by simp [k2]), hb _ _⟩
  · have k1' : (K == 1) = false := beq_eq_false_iff_ne.2 k1
    go_enter Tryz.func47, Tryz.ntmps47
    go_wp2
    go_ret
    exact ⟨retB (by simp [k1]), hb _ _⟩

set_option maxHeartbeats 2000000 in
theorem all39 {n lo : Nat} (cs : List Ce) (a2 : Option Addr) (c2 : Nat) (w : World) (hl : cs.length ≤ 5864062014805) (hc : CellsIn n lo w cs a2) :
    Calls Tryz.prog 45 #[.slice a2 cs.length c2, .func (.func 46) #[] #[]] w fun e w' => e = .returned (.bool (allC numC cs)) ∧ Below w.heap.size w w' := by
  have HB : Hid (∀ i, i < cs.length → ∃ b off z0 z1 ab nb cb, a2 = some ⟨b, off, none⟩ ∧ ∀ wr, Below w.heap.size w wr → wr.cell? ⟨b, off + i * 3, none⟩ = some (.int .i64 z0) ∧ wr.cell? ⟨b, off + i * 3 + 1, none⟩ = some (.int .i64 z1) ∧ wr.cell? ⟨b, off + i * 3 + 2, none⟩ = some (.slice ab nb cb) ∧ ∀ w, Calls Tryz.prog 46 #[.agg #[.int .i64 z0, .int .i64 z1, .slice ab nb cb]] w fun e w' => e = .returned (.bool (numC (cAt cs i))) ∧ Below w.heap.size w w') := by
    intro i hi
    obtain ⟨b, off, z0, z1, ab, nb, cb, ha, hw⟩ := cells_at hc i hi
    refine ⟨b, off, z0, z1, ab, nb, cb, ha, fun wr hwr => ?_⟩
    obtain ⟨g0, g1, g2, g3⟩ := hw wr hwr
    obtain ⟨e0, e1, -⟩ := g3
    injection e0 with _ e0
    injection e1 with _ e1
    exact ⟨g0, g1, g2, fun w => by rw [e0, e1]; exact isNum39 (cAt cs i) _ ab nb cb rfl w⟩
  clear hc
  have HHIT : Hid (∀ j, j < cs.length → numC (cAt cs j) = false → allC numC cs = false) := fun j hj h => by
    unfold allC
    rw [anyUp_hit hj (by simp [h])]
    rfl
  have HNO : Hid ((∀ j, j < cs.length → numC (cAt cs j) = true) → allC numC cs = true) := fun h => allC_iff.2 h
  generalize hF : (fun i => numC (cAt cs i)) = F at *
  have HF : Hid (∀ j, numC (cAt cs j) = F j) := fun j => by rw [← hF]
  clear hF
  generalize allC numC cs = Z at *
  generalize cs.length = L at *
  go_enter Tryz.func45, Tryz.ntmps45
  go_wp2
  go_loopg [9] L (fun g i wr => ∃ (j : Nat), g + j = L ∧ i = .int .i64 (j : Int) ∧ (∀ i, i < j → F i = true) ∧ Below w.heap.size w wr)
  case atStart => exact ⟨0, rfl, rfl, (by intro i hi; omega), Below.refl _ _⟩
  case round =>
    obtain ⟨j, hj, rfl, hno, hnx⟩ := hrel
    have HN := hide hno
    clear hno
    by_cases hlt : j < L
    · obtain ⟨b, off, z0, z1, ab, nb, cb, rfl, hw⟩ := HB.out j hlt
      obtain ⟨g0, g1, g2, C⟩ := hw wr hnx
      have hb2 : Below w.heap.size w (wr.alloc (.cells #[.int .i64 z0, .int .i64 z1, .slice ab nb cb] 64)) := hnx.alloc hnx.size _
      have HB2 := hide hb2
      rw [HF.out j] at C
      have HC := hide C
      have HH := hide (HHIT.out j hlt)
      rw [HF.out j] at HH
      clear C hw HB HHIT HNO HF hb2
      cases hFJ : F j with
      | true =>
        rw [hFJ] at HC
        have HFJ := hide hFJ
        clear hFJ HH
        go_wp2_with fail
        refine (HC.out _).mono ?_
        rintro e w1 ⟨rfl, hb1⟩
        clear HC
        go_wp2
        go_roundg (L - (j + 1))
        case rel =>
          refine ⟨j + 1, by omega, by go_num, fun i hi => ?_, HB2.out.trans (hb1.mono HB2.out.size)⟩
          rcases Nat.lt_succ_iff_lt_or_eq.1 hi with hi | rfl
          · exact HN.out i hi
          · exact HFJ.out
        case measure => omega
      | false =>
        rw [hFJ] at HC
        have HZ := hide (HH.out hFJ)
        clear hFJ HH HN
        go_wp2_with fail
        refine (HC.out _).mono ?_
        rintro e w1 ⟨rfl, hb1⟩
        clear HC
        go_wp2
        go_ret
        exact ⟨retB HZ.out.symm, HB2.out.trans (hb1.mono HB2.out.size)⟩
    · have hje : j = L := by omega
      subst hje
      have HZ := hide (HNO.out fun i hi => by rw [HF.out i]; exact HN.out i hi)
      clear HB HHIT HNO HN HF
      go_wp2
      go_ret
      exact ⟨retB HZ.out.symm, hnx⟩

set_option maxHeartbeats 2000000 in
theorem all40 {n lo : Nat} (cs : List Ce) (a2 : Option Addr) (c2 : Nat) (w : World) (hl : cs.length ≤ 5864062014805) (hc : CellsIn n lo w cs a2) :
    Calls Tryz.prog 45 #[.slice a2 cs.length c2, .func (.func 47) #[] #[]] w fun e w' => e = .returned (.bool (allC plC cs)) ∧ Below w.heap.size w w' := by
  have HB : Hid (∀ i, i < cs.length → ∃ b off z0 z1 ab nb cb, a2 = some ⟨b, off, none⟩ ∧ ∀ wr, Below w.heap.size w wr → wr.cell? ⟨b, off + i * 3, none⟩ = some (.int .i64 z0) ∧ wr.cell? ⟨b, off + i * 3 + 1, none⟩ = some (.int .i64 z1) ∧ wr.cell? ⟨b, off + i * 3 + 2, none⟩ = some (.slice ab nb cb) ∧ ∀ w, Calls Tryz.prog 47 #[.agg #[.int .i64 z0, .int .i64 z1, .slice ab nb cb]] w fun e w' => e = .returned (.bool (plC (cAt cs i))) ∧ Below w.heap.size w w') := by
    intro i hi
    obtain ⟨b, off, z0, z1, ab, nb, cb, ha, hw⟩ := cells_at hc i hi
    refine ⟨b, off, z0, z1, ab, nb, cb, ha, fun wr hwr => ?_⟩
    obtain ⟨g0, g1, g2, g3⟩ := hw wr hwr
    obtain ⟨e0, e1, -⟩ := g3
    injection e0 with _ e0
    injection e1 with _ e1
    exact ⟨g0, g1, g2, fun w => by rw [e0, e1]; exact isPl40 (cAt cs i) _ ab nb cb rfl w⟩
  clear hc
  have HHIT : Hid (∀ j, j < cs.length → plC (cAt cs j) = false → allC plC cs = false) := fun j hj h => by
    unfold allC
    rw [anyUp_hit hj (by simp [h])]
    rfl
  have HNO : Hid ((∀ j, j < cs.length → plC (cAt cs j) = true) → allC plC cs = true) := fun h => allC_iff.2 h
  generalize hF : (fun i => plC (cAt cs i)) = F at *
  have HF : Hid (∀ j, plC (cAt cs j) = F j) := fun j => by rw [← hF]
  clear hF
  generalize allC plC cs = Z at *
  generalize cs.length = L at *
  go_enter Tryz.func45, Tryz.ntmps45
  go_wp2
  go_loopg [9] L (fun g i wr => ∃ (j : Nat), g + j = L ∧ i = .int .i64 (j : Int) ∧ (∀ i, i < j → F i = true) ∧ Below w.heap.size w wr)
  case atStart => exact ⟨0, rfl, rfl, (by intro i hi; omega), Below.refl _ _⟩
  case round =>
    obtain ⟨j, hj, rfl, hno, hnx⟩ := hrel
    have HN := hide hno
    clear hno
    by_cases hlt : j < L
    · obtain ⟨b, off, z0, z1, ab, nb, cb, rfl, hw⟩ := HB.out j hlt
      obtain ⟨g0, g1, g2, C⟩ := hw wr hnx
      have hb2 : Below w.heap.size w (wr.alloc (.cells #[.int .i64 z0, .int .i64 z1, .slice ab nb cb] 64)) := hnx.alloc hnx.size _
      have HB2 := hide hb2
      rw [HF.out j] at C
      have HC := hide C
      have HH := hide (HHIT.out j hlt)
      rw [HF.out j] at HH
      clear C hw HB HHIT HNO HF hb2
      cases hFJ : F j with
      | true =>
        rw [hFJ] at HC
        have HFJ := hide hFJ
        clear hFJ HH
        go_wp2_with fail
        refine (HC.out _).mono ?_
        rintro e w1 ⟨rfl, hb1⟩
        clear HC
        go_wp2
        go_roundg (L - (j + 1))
        case rel =>
          refine ⟨j + 1, by omega, by go_num, fun i hi => ?_, HB2.out.trans (hb1.mono HB2.out.size)⟩
          rcases Nat.lt_succ_iff_lt_or_eq.1 hi with hi | rfl
          · exact HN.out i hi
          · exact HFJ.out
        case measure => omega
      | false =>
        rw [hFJ] at HC
        have HZ := hide (HH.out hFJ)
        clear hFJ HH HN
        go_wp2_with fail
        refine (HC.out _).mono ?_
        rintro e w1 ⟨rfl, hb1⟩
        clear HC
        go_wp2
        go_ret
        exact ⟨retB HZ.out.symm, HB2.out.trans (hb1.mono HB2.out.size)⟩
    · have hje : j = L := by omega
      subst hje
      have HZ := hide (HNO.out fun i hi => by rw [HF.out i]; exact HN.out i hi)
      clear HB HHIT HNO HN HF
      go_wp2
      go_ret
      exact ⟨retB HZ.out.symm, hnx⟩

theorem atomL_0 {x : Ar} (h : x.shape.length = 0) : atomL x = true := by simp [atomL, h]
theorem atomL_1 {x : Ar} (h : x.shape.length = 1) : atomL x = !decide (x.shape[0]?.getD 0 = 1) := by simp [atomL, h]
theorem atomL_2 {x : Ar} (h : ¬ x.shape.length = 0) (h' : ¬ x.shape.length = 1) : atomL x = false := by simp [atomL, h, h']
set_option maxHeartbeats 1000000 in
theorem atom37 {lo : Nat} (x : Ar) (a1 : Option Addr) (c1 : Nat) (a2 : Option Addr) (L2 c2 : Nat) (w : World) (R : Row lo w a1 x.shape) :
    Calls Tryz.prog 44 #[.agg #[.slice a1 x.shape.length c1, .slice a2 L2 c2]] w fun e w' => e = .returned (.bool (atomL x)) ∧ Below w.heap.size w w' := by
  have hb := fun l => one_alloc w (.cells #[.slice a1 l c1, .slice a2 L2 c2] 25)
  by_cases h0 : x.shape.length = 0
  · rw [atomL_0 h0, h0]
    go_enter Tryz.func44, Tryz.ntmps44
    go_wp2
    go_ret
    exact ⟨rfl, hb _⟩
  by_cases h1 : x.shape.length = 1
  · rw [atomL_1 h1]
    obtain ⟨b, off, rfl, hbb, hc⟩ := row_at R (j := 0) (by omega)
    rw [h1]
    have hc2 := cell_one hc hbb (.cells #[.slice (some ⟨b, off, none⟩) 1 c1, .slice a2 L2 c2] 25)
    simp only [Nat.add_zero] at hc hc2
    generalize x.shape[0]?.getD 0 = Z at *
    clear R h0 h1
    go_enter Tryz.func44, Tryz.ntmps44
    go_wp2
    go_ret
    exact ⟨retB (by rw [Bool.eq_iff_iff]; simp), hb _⟩
  · rw [atomL_2 h0 h1]
    have h0' : ((x.shape.length : Int) == 0) = false := beq_eq_false_iff_ne.2 (by omega)
    have h1' : ((x.shape.length : Int) == 1) = false := beq_eq_false_iff_ne.2 (by omega)
    generalize x.shape.length = SA at *
    go_enter Tryz.func44, Tryz.ntmps44
    go_wp2
    go_ret
    exact ⟨rfl, hb _⟩
theorem litB_a {x : Ar} (h : atomL x = false) : litB x = false := by simp [litB, h]
theorem litB_b {x : Ar} (h1 : allC numC x.cells = false) (h2 : allC plC x.cells = false) : litB x = false := by simp [litB, h1, h2]
theorem litB_c {x : Ar} (h : atomL x = true) (h1 : allC numC x.cells = true ∨ allC plC x.cells = true) : litB x = decide (chkA 8 x = 0) := by
  rcases h1 with h1 | h1 <;> simp [litB, h, h1]
set_option maxHeartbeats 2000000 in
theorem lit17 {n lo : Nat} (x : Ar) (va : Value) (w : World) (hx : ArIn n lo w x va) : Calls Tryz.prog 26 #[va] w fun e w' => e = .returned (.bool (litB x)) ∧ Below w.heap.size w w' := by
  have CK : ∀ wr, Below w.heap.size w wr → Calls Tryz.prog 48 #[va] wr fun e w' => e = .returned (.int .i64 (chkA 8 x)) ∧ Below wr.heap.size wr w' := fun wr hw => check_any n x lo va wr (hx.next hw)
  cases n with
  | zero => exact hx.elim
  | succ n =>
  obtain ⟨a1, c1, a2, c2, rfl, R, hl, hc⟩ := hx
  have hb0 := one_alloc w (.cells #[.slice a1 x.shape.length c1, .slice a2 x.cells.length c2] 25)
  have q0 := cell_new0 w #[.slice a1 x.shape.length c1, .slice a2 x.cells.length c2] 25 0 _ rfl
  have q1 := cell_new0 w #[.slice a1 x.shape.length c1, .slice a2 x.cells.length c2] 25 1 _ rfl
  have CA := hide (fun wr (hw : Below w.heap.size w wr) => atom37 x a1 c1 a2 x.cells.length c2 wr (R.next hw))
  have CN := hide (fun wr (hw : Below w.heap.size w wr) => all39 (n := n) (lo := lo) x.cells a2 c2 wr hl ((show CellsIn n lo w x.cells a2 from hc).mono (Nat.le_refl _) hw))
  have CP := hide (fun wr (hw : Below w.heap.size w wr) => all40 (n := n) (lo := lo) x.cells a2 c2 wr hl ((show CellsIn n lo w x.cells a2 from hc).mono (Nat.le_refl _) hw))
  have HCK := hide CK
  have HQ := hide (And.intro hb0 (And.intro q0 (And.intro q1 (show w.heap.size < (w.alloc (.cells #[.slice a1 x.shape.length c1, .slice a2 x.cells.length c2] 25)).heap.size by simp))))
  clear R hc CK
  have HLA : Hid (atomL x = false → litB x = false) := litB_a
  have HLB : Hid (allC numC x.cells = false → allC plC x.cells = false → litB x = false) := litB_b
  have HLC : Hid (atomL x = true → (allC numC x.cells = true ∨ allC plC x.cells = true) → litB x = decide (chkA 8 x = 0)) := litB_c
  generalize chkA 8 x = CH at *
  generalize litB x = Z at *
  generalize x.shape.length = SA at *
  generalize hLN : x.cells.length = LN at *
  generalize allC numC x.cells = AN at *
  generalize allC plC x.cells = AP at *
  generalize atomL x = AT at *
  clear hLN
  cases AT
  · have HZ := hide (HLA.out rfl)
    go_enter Tryz.func26, Tryz.ntmps26
    go_wp2_with fail
    refine (CA.out _ hb0).mono ?_
    rintro e w1 ⟨rfl, hb1⟩
    go_wp2
    go_ret
    exact ⟨retB HZ.out.symm, hb0.trans (hb1.mono hb0.size)⟩
  · go_enter Tryz.func26, Tryz.ntmps26
    go_wp2_with fail
    refine (CA.out _ hb0).mono ?_
    rintro e w1 ⟨rfl, hb1⟩
    have hw1 := hb0.trans (hb1.mono hb0.size)
    have q10 := (hb1.cell (p := ⟨w.heap.size, 0, none⟩) HQ.out.2.2.2).trans q0
    have q11 := (hb1.cell (p := ⟨w.heap.size, 1, none⟩) HQ.out.2.2.2).trans q1
    have hs1 := Nat.lt_of_lt_of_le HQ.out.2.2.2 hb1.size
    have HS1 := hide hs1
    clear q0 q1 CA hb1 hb0 hs1
    cases AN
    · cases AP
      · have HZ := hide (HLB.out (by first | trivial | rfl) (by first | trivial | rfl))
        go_wp2_with fail
        refine (CN.out _ hw1).mono ?_
        rintro e w2 ⟨rfl, hb2⟩
        have hw2 := hw1.trans (hb2.mono hw1.size)
        have q20 := (hb2.cell (p := ⟨w.heap.size, 0, none⟩) HS1.out).trans q10
        have q21 := (hb2.cell (p := ⟨w.heap.size, 1, none⟩) HS1.out).trans q11
        clear hb2
        go_wp2_with fail
        refine (CP.out _ hw2).mono ?_
        rintro e w3 ⟨rfl, hb3⟩
        go_wp2
        go_ret
        exact ⟨retB HZ.out.symm, hw2.trans (hb3.mono hw2.size)⟩
      · have HZ := hide (HLC.out (by first | trivial | rfl) (by first | exact Or.inr rfl | trivial | simp))
        go_wp2_with fail
        refine (CN.out _ hw1).mono ?_
        rintro e w2 ⟨rfl, hb2⟩
        have hw2 := hw1.trans (hb2.mono hw1.size)
        have q20 := (hb2.cell (p := ⟨w.heap.size, 0, none⟩) HS1.out).trans q10
        have q21 := (hb2.cell (p := ⟨w.heap.size, 1, none⟩) HS1.out).trans q11
        have HS2 := hide (Nat.lt_of_lt_of_le HS1.out hb2.size)
        clear hb2 q10 q11
        go_wp2_with fail
        refine (CP.out _ hw2).mono ?_
        rintro e w3 ⟨rfl, hb3⟩
        have hw3 := hw2.trans (hb3.mono hw2.size)
        have q30 := (hb3.cell (p := ⟨w.heap.size, 0, none⟩) HS2.out).trans q20
        have q31 := (hb3.cell (p := ⟨w.heap.size, 1, none⟩) HS2.out).trans q21
        clear hb3 q20 q21
        go_wp2_with fail
        refine (HCK.out _ hw3).mono ?_
        rintro e w4 ⟨rfl, hb4⟩
        go_wp2
        go_ret
        exact ⟨retB (by rw [HZ.out, Bool.eq_iff_iff]; simp), hw3.trans (hb4.mono hw3.size)⟩
    · have HZ := hide (HLC.out (by first | trivial | rfl) (by first | exact Or.inl rfl | trivial | simp))
      go_wp2_with fail
      refine (CN.out _ hw1).mono ?_
      rintro e w2 ⟨rfl, hb2⟩
      have hw2 := hw1.trans (hb2.mono hw1.size)
      have q20 := (hb2.cell (p := ⟨w.heap.size, 0, none⟩) HS1.out).trans q10
      have q21 := (hb2.cell (p := ⟨w.heap.size, 1, none⟩) HS1.out).trans q11
      clear hb2 q10 q11
      go_wp2_with fail
      refine (HCK.out _ hw2).mono ?_
      rintro e w4 ⟨rfl, hb4⟩
      go_wp2
      go_ret
      exact ⟨retB (by rw [HZ.out, Bool.eq_iff_iff]; simp), hw2.trans (hb4.mono hw2.size)⟩

set_option maxHeartbeats 4000000 in
theorem rlit18 {n lo : Nat} (x : Ar) (va : Value) (w : World) (hx : ArIn n lo w x va) : Calls Tryz.prog 28 #[va] w fun e w' => e = .returned (.bool (litB x)) ∧ Below w.heap.size w w' := by
  rw [← lit_doc]
  have CK : ∀ wr, Below w.heap.size w wr → Calls Tryz.prog 52 #[va] wr fun e w' => e = .returned (.int .i64 (chkA 8 x)) ∧ Below wr.heap.size wr w' := fun wr hw => rcheck_any n x lo va wr (hx.next hw)
  cases n with
  | zero => exact hx.elim
  | succ n =>
  obtain ⟨a1, c1, a2, c2, rfl, R, hl, hc⟩ := hx
  have hb0 := one_alloc w (.cells #[.slice a1 x.shape.length c1, .slice a2 x.cells.length c2] 25)
  have q0 := cell_new0 w #[.slice a1 x.shape.length c1, .slice a2 x.cells.length c2] 25 0 _ rfl
  have q1 := cell_new0 w #[.slice a1 x.shape.length c1, .slice a2 x.cells.length c2] 25 1 _ rfl
  have hlt0 : w.heap.size < (w.alloc (.cells #[.slice a1 x.shape.length c1, .slice a2 x.cells.length c2] 25)).heap.size := by simp
  have HLT := hide hlt0
  have C := CK _ hb0
  clear CK hlt0
  have HB := hide (cells_at hc)
  have HR := hide (fun (h : 0 < x.shape.length) wr (hw : Below w.heap.size w wr) => row_at (R.next hw) (j := 0) h)
  clear R hc
  by_cases hch : ¬ chkA 8 x = 0
  · rw [decide_eq_false hch, Bool.false_and, Bool.false_and]
    have hch' : (chkA 8 x == 0) = false := beq_eq_false_iff_ne.2 hch
    generalize chkA 8 x = CH at *
    generalize x.shape.length = SA at *
    generalize x.cells.length = LN at *
    go_enter Tryz.func28, Tryz.ntmps28
    go_wp2_with fail
    refine C.mono ?_
    rintro e w1 ⟨rfl, hb1⟩
    go_wp2
    go_ret
    exact ⟨rfl, hb0.trans (hb1.mono hb0.size)⟩
  rw [Decidable.not_not.1 hch] at C ⊢
  rw [show decide ((0 : Int) = 0) = true from rfl, Bool.true_and]
  clear hch
  by_cases h2 : 1 < x.shape.length
  · rw [atomL_2 (by omega) (by omega), Bool.false_and]
    generalize x.shape.length = SA at *
    generalize x.cells.length = LN at *
    go_enter Tryz.func28, Tryz.ntmps28
    go_wp2_with fail
    refine C.mono ?_
    rintro e w1 ⟨rfl, hb1⟩
    have q10 := (hb1.cell (p := ⟨w.heap.size, 0, none⟩) HLT.out).trans q0
    go_wp2
    go_ret
    exact ⟨rfl, hb0.trans (hb1.mono hb0.size)⟩
  have h2' : decide (1 < (x.shape.length : Int)) = false := by simp; omega
  have HHIT : Hid (∀ j, j < x.cells.length → badC x j = true → (!anyUp (badC x) x.cells.length) = false) := fun j hj h => by rw [anyUp_hit hj h]; rfl
  have HNO : Hid ((∀ j, j < x.cells.length → badC x j = false) → (!anyUp (badC x) x.cells.length) = true) := fun h => by rw [anyUp_none.2 h]; rfl
  have HBAD : Hid (∀ j, badC x j = (decide ((cAt x.cells j).1 ≠ (cAt x.cells 0).1) || decide ((cAt x.cells j).1 = 2) || (decide ((cAt x.cells j).1 = 1) && (decide ((cAt x.cells j).2.1 < 32) || decide ((cAt x.cells j).2.1 = 127))))) := fun j => rfl
  generalize (!anyUp (badC x) x.cells.length) = Z at *
  have HCE : Hid (∀ j, j < x.cells.length → ∃ b off z0 z1 ab nb cb y0, a2 = some ⟨b, off, none⟩ ∧ badC x j = (decide (z0 ≠ y0) || decide (z0 = 2) || (decide (z0 = 1) && (decide (z1 < 32) || decide (z1 = 127)))) ∧ ∀ wr, Below w.heap.size w wr → wr.cell? ⟨b, off + j * 3, none⟩ = some (.int .i64 z0) ∧ wr.cell? ⟨b, off + j * 3 + 1, none⟩ = some (.int .i64 z1) ∧ wr.cell? ⟨b, off + j * 3 + 2, none⟩ = some (.slice ab nb cb) ∧ wr.cell? ⟨b, off, none⟩ = some (.int .i64 y0)) := by
    intro j hj
    obtain ⟨b, off, z0, z1, ab, nb, cb, ha, hw⟩ := HB.out j hj
    obtain ⟨b', off', y0, y1, ab', nb', cb', ha', hw'⟩ := HB.out 0 (by omega)
    rw [ha] at ha'
    obtain ⟨rfl, rfl⟩ : b = b' ∧ off = off' := by simpa using ha'
    refine ⟨b, off, z0, z1, ab, nb, cb, y0, ha, ?_, fun wr hwr => ?_⟩
    · obtain ⟨e0, e1, -⟩ := (hw w (Below.refl _ _)).2.2.2
      obtain ⟨f0, -⟩ := (hw' w (Below.refl _ _)).2.2.2
      injection e0 with _ e0
      injection e1 with _ e1
      injection f0 with _ f0
      rw [HBAD.out, e0, e1, f0]
    · refine ⟨(hw wr hwr).1, (hw wr hwr).2.1, (hw wr hwr).2.2.1, ?_⟩
      have := (hw' wr hwr).1
      simpa using this
  clear HB HBAD
  generalize badC x = F at *
  by_cases h0 : x.shape.length = 0
  · rw [atomL_0 h0, Bool.true_and]
    rw [h0] at C q0 q1 hb0 HLT ⊢
    clear HR h2 h2' h0
    generalize x.cells.length = LN at *
    go_enter Tryz.func28, Tryz.ntmps28
    go_wp2_with fail
    refine C.mono ?_
    rintro e w1 ⟨rfl, hb1⟩
    have q10 := (hb1.cell (p := ⟨w.heap.size, 0, none⟩) HLT.out).trans q0
    have q11 := (hb1.cell (p := ⟨w.heap.size, 1, none⟩) HLT.out).trans q1
    clear C q0 q1
    go_wp2
    go_loopg [3] LN (fun g i wr => ∃ (j : Nat), g + j = LN ∧ i = .int .i64 (j : Int) ∧ (∀ i, i < j → F i = false) ∧ Below w.heap.size w wr ∧ wr.cell? ⟨w.heap.size, 1, none⟩ = some (.slice a2 LN c2) ∧ w.heap.size < wr.heap.size)
    case atStart => exact ⟨0, rfl, rfl, (by intro i hi; omega), hb0.trans (hb1.mono hb0.size), q11, Nat.lt_of_lt_of_le HLT.out hb1.size⟩
    case round =>
      clear q10 q11 hb1 hb0
      obtain ⟨j, hj, rfl, hno, hnx, hcl, hsz⟩ := hrel
      have HSZ := hide hsz
      have HN := hide hno
      clear hno hsz
      by_cases hlt : j < LN
      · obtain ⟨b, off, z0, z1, ab, nb, cb, y0, rfl, hbd, hw⟩ := HCE.out j hlt
        obtain ⟨g0, g1, g2, g3⟩ := hw wr hnx
        have hb2 : Below w.heap.size w (wr.alloc (.cells #[.int .i64 z0, .int .i64 z1, .slice ab nb cb] 64)) := hnx.alloc hnx.size _
        obtain ⟨-, -, -, g4⟩ := hw _ hb2
        have hcl2 := cell_one hcl HSZ.out (.cells #[.int .i64 z0, .int .i64 z1, .slice ab nb cb] 64)
        have k0 := cell_new0 wr #[.int .i64 z0, .int .i64 z1, .slice ab nb cb] 64 0 _ rfl
        have k1 := cell_new0 wr #[.int .i64 z0, .int .i64 z1, .slice ab nb cb] 64 1 _ rfl
        have HB2 := hide hb2
        have HBD := hide hbd
        have HH := hide (HHIT.out j hlt)
        clear hw HCE HHIT HNO hb2 hbd
        have hs2 : w.heap.size < (wr.alloc (.cells #[.int .i64 z0, .int .i64 z1, .slice ab nb cb] 64)).heap.size := Nat.lt_of_lt_of_le HSZ.out (by simp)
        have HS2 := hide hs2
        clear hs2
        by_cases e1 : z0 = y0
        · subst e1
          by_cases e2 : z0 = 2
          · subst e2
            have hFJ : F j = true := by rw [HBD.out]; simp 
            have HZ := hide (HH.out hFJ)
            clear hFJ HBD HH HN
            go_wp2
            go_quiet (fail)
            go_wp2
            go_ret
            exact ⟨retB HZ.out.symm, drewN_below HB2.out _⟩
          · have e2' : (z0 == 2) = false := beq_eq_false_iff_ne.2 e2
            by_cases e3 : z0 = 1
            · subst e3
              by_cases e4 : z1 < 32
              · have e4' : decide (z1 < 32) = true := by simp [e4]
                have hFJ : F j = true := by rw [HBD.out]; simp [e4]
                have HZ := hide (HH.out hFJ)
                clear hFJ HBD HH HN
                go_wp2
                go_quiet (fail)
                go_wp2
                go_ret
                exact ⟨retB HZ.out.symm, drewN_below HB2.out _⟩
              · have e4' : decide (z1 < 32) = false := by simp; omega
                by_cases e5 : z1 = 127
                · subst e5
                  have hFJ : F j = true := by rw [HBD.out]; simp 
                  have HZ := hide (HH.out hFJ)
                  clear hFJ HBD HH HN
                  go_wp2
                  go_quiet (fail)
                  go_wp2
                  go_ret
                  exact ⟨retB HZ.out.symm, drewN_below HB2.out _⟩
                · have e5' : (z1 == 127) = false := beq_eq_false_iff_ne.2 e5
                  have hFJ : F j = false := by rw [HBD.out]; simp [e4, e5]
                  have HFJ := hide hFJ
                  clear hFJ HBD HH
                  go_wp2
                  go_quiet (fail)
                  go_wp2
                  go_roundg (LN - (j + 1))
                  case rel =>
                    refine ⟨j + 1, by omega, by go_num, fun i hi => ?_, drewN_below HB2.out _, hcl2, HS2.out⟩
                    rcases Nat.lt_succ_iff_lt_or_eq.1 hi with hi | rfl
                    · exact HN.out i hi
                    · exact HFJ.out
                  case measure => omega
            · have e3' : (z0 == 1) = false := beq_eq_false_iff_ne.2 e3
              have hFJ : F j = false := by rw [HBD.out]; simp [e2, e3]
              have HFJ := hide hFJ
              clear hFJ HBD HH
              go_wp2
              go_quiet (fail)
              go_wp2
              go_roundg (LN - (j + 1))
              case rel =>
                refine ⟨j + 1, by omega, by go_num, fun i hi => ?_, drewN_below HB2.out _, hcl2, HS2.out⟩
                rcases Nat.lt_succ_iff_lt_or_eq.1 hi with hi | rfl
                · exact HN.out i hi
                · exact HFJ.out
              case measure => omega
        · have e1' : (z0 != y0) = true := by simp [e1]
          have hFJ : F j = true := by rw [HBD.out]; simp [e1]
          have HZ := hide (HH.out hFJ)
          clear hFJ HBD HH HN
          go_wp2
          go_quiet (fail)
          go_wp2
          go_ret
          exact ⟨retB HZ.out.symm, drewN_below HB2.out _⟩
      · have hje : j = LN := by omega
        subst hje
        have HZ := hide (HNO.out HN.out)
        clear HCE HHIT HNO HN
        go_wp2
        go_ret
        exact ⟨retB HZ.out.symm, hnx⟩
  · have h1 : x.shape.length = 1 := by omega
    rw [atomL_1 h1]
    rw [h1] at C q0 q1 hb0 HLT HR ⊢
    generalize x.shape[0]?.getD 0 = SZ at *
    clear h2 h2' h0 h1
    generalize x.cells.length = LN at *
    by_cases hz : SZ = 1
    · subst hz
      simp only [decide_true, Bool.not_true, Bool.false_and]
      go_enter Tryz.func28, Tryz.ntmps28
      go_wp2_with fail
      refine C.mono ?_
      rintro e w1 ⟨rfl, hb1⟩
      have q10 := (hb1.cell (p := ⟨w.heap.size, 0, none⟩) HLT.out).trans q0
      have q11 := (hb1.cell (p := ⟨w.heap.size, 1, none⟩) HLT.out).trans q1
      clear C q0 q1
      obtain ⟨b, off, rfl, hbb, hcc⟩ := HR.out (by omega) w1 (hb0.trans (hb1.mono hb0.size))
      simp only [Nat.add_zero] at hcc
      go_wp2
      go_ret
      exact ⟨rfl, hb0.trans (hb1.mono hb0.size)⟩
    have hz' : (SZ == 1) = false := beq_eq_false_iff_ne.2 hz
    simp only [hz, decide_false, Bool.not_false, Bool.true_and]
    go_enter Tryz.func28, Tryz.ntmps28
    go_wp2_with fail
    refine C.mono ?_
    rintro e w1 ⟨rfl, hb1⟩
    have q10 := (hb1.cell (p := ⟨w.heap.size, 0, none⟩) HLT.out).trans q0
    have q11 := (hb1.cell (p := ⟨w.heap.size, 1, none⟩) HLT.out).trans q1
    clear C q0 q1
    obtain ⟨bs, os, rfl, hbb, hcc⟩ := HR.out (by omega) w1 (hb0.trans (hb1.mono hb0.size))
    simp only [Nat.add_zero] at hcc
    go_wp2
    go_loopg [3] LN (fun g i wr => ∃ (j : Nat), g + j = LN ∧ i = .int .i64 (j : Int) ∧ (∀ i, i < j → F i = false) ∧ Below w.heap.size w wr ∧ wr.cell? ⟨w.heap.size, 1, none⟩ = some (.slice a2 LN c2) ∧ w.heap.size < wr.heap.size)
    case atStart => exact ⟨0, rfl, rfl, (by intro i hi; omega), hb0.trans (hb1.mono hb0.size), q11, Nat.lt_of_lt_of_le HLT.out hb1.size⟩
    case round =>
      clear q10 q11 hb1 hb0 hcc hbb
      obtain ⟨j, hj, rfl, hno, hnx, hcl, hsz⟩ := hrel
      have HSZ := hide hsz
      have HN := hide hno
      clear hno hsz
      by_cases hlt : j < LN
      · obtain ⟨b, off, z0, z1, ab, nb, cb, y0, rfl, hbd, hw⟩ := HCE.out j hlt
        obtain ⟨g0, g1, g2, g3⟩ := hw wr hnx
        have hb2 : Below w.heap.size w (wr.alloc (.cells #[.int .i64 z0, .int .i64 z1, .slice ab nb cb] 64)) := hnx.alloc hnx.size _
        obtain ⟨-, -, -, g4⟩ := hw _ hb2
        have hcl2 := cell_one hcl HSZ.out (.cells #[.int .i64 z0, .int .i64 z1, .slice ab nb cb] 64)
        have k0 := cell_new0 wr #[.int .i64 z0, .int .i64 z1, .slice ab nb cb] 64 0 _ rfl
        have k1 := cell_new0 wr #[.int .i64 z0, .int .i64 z1, .slice ab nb cb] 64 1 _ rfl
        have HB2 := hide hb2
        have HBD := hide hbd
        have HH := hide (HHIT.out j hlt)
        clear hw HCE HHIT HNO hb2 hbd
        have hs2 : w.heap.size < (wr.alloc (.cells #[.int .i64 z0, .int .i64 z1, .slice ab nb cb] 64)).heap.size := Nat.lt_of_lt_of_le HSZ.out (by simp)
        have HS2 := hide hs2
        clear hs2
        by_cases e1 : z0 = y0
        · subst e1
          by_cases e2 : z0 = 2
          · subst e2
            have hFJ : F j = true := by rw [HBD.out]; simp 
            have HZ := hide (HH.out hFJ)
            clear hFJ HBD HH HN
            go_wp2
            go_quiet (fail)
            go_wp2
            go_ret
            exact ⟨retB HZ.out.symm, drewN_below HB2.out _⟩
          · have e2' : (z0 == 2) = false := beq_eq_false_iff_ne.2 e2
            by_cases e3 : z0 = 1
            · subst e3
              by_cases e4 : z1 < 32
              · have e4' : decide (z1 < 32) = true := by simp [e4]
                have hFJ : F j = true := by rw [HBD.out]; simp [e4]
                have HZ := hide (HH.out hFJ)
                clear hFJ HBD HH HN
                go_wp2
                go_quiet (fail)
                go_wp2
                go_ret
                exact ⟨retB HZ.out.symm, drewN_below HB2.out _⟩
              · have e4' : decide (z1 < 32) = false := by simp; omega
                by_cases e5 : z1 = 127
                · subst e5
                  have hFJ : F j = true := by rw [HBD.out]; simp 
                  have HZ := hide (HH.out hFJ)
                  clear hFJ HBD HH HN
                  go_wp2
                  go_quiet (fail)
                  go_wp2
                  go_ret
                  exact ⟨retB HZ.out.symm, drewN_below HB2.out _⟩
                · have e5' : (z1 == 127) = false := beq_eq_false_iff_ne.2 e5
                  have hFJ : F j = false := by rw [HBD.out]; simp [e4, e5]
                  have HFJ := hide hFJ
                  clear hFJ HBD HH
                  go_wp2
                  go_quiet (fail)
                  go_wp2
                  go_roundg (LN - (j + 1))
                  case rel =>
                    refine ⟨j + 1, by omega, by go_num, fun i hi => ?_, drewN_below HB2.out _, hcl2, HS2.out⟩
                    rcases Nat.lt_succ_iff_lt_or_eq.1 hi with hi | rfl
                    · exact HN.out i hi
                    · exact HFJ.out
                  case measure => omega
            · have e3' : (z0 == 1) = false := beq_eq_false_iff_ne.2 e3
              have hFJ : F j = false := by rw [HBD.out]; simp [e2, e3]
              have HFJ := hide hFJ
              clear hFJ HBD HH
              go_wp2
              go_quiet (fail)
              go_wp2
              go_roundg (LN - (j + 1))
              case rel =>
                refine ⟨j + 1, by omega, by go_num, fun i hi => ?_, drewN_below HB2.out _, hcl2, HS2.out⟩
                rcases Nat.lt_succ_iff_lt_or_eq.1 hi with hi | rfl
                · exact HN.out i hi
                · exact HFJ.out
              case measure => omega
        · have e1' : (z0 != y0) = true := by simp [e1]
          have hFJ : F j = true := by rw [HBD.out]; simp [e1]
          have HZ := hide (HH.out hFJ)
          clear hFJ HBD HH HN
          go_wp2
          go_quiet (fail)
          go_wp2
          go_ret
          exact ⟨retB HZ.out.symm, drewN_below HB2.out _⟩
      · have hje : j = LN := by omega
        subst hje
        have HZ := hide (HNO.out HN.out)
        clear HCE HHIT HNO HN
        go_wp2
        go_ret
        exact ⟨retB HZ.out.symm, hnx⟩
end Go.Proofs.YtneblkdkhlgmcaaGreatDoor
namespace Go.Proofs.YtneblkdkhlgmcaaGreatDoor
open Go.ChangeShapes Go.WideShapes Go.ChangeAt Go.RowKit
open Rn (Good Byte enc put)
set_option maxRecDepth 100000
set_option linter.unusedVariables false
set_option linter.unusedSimpArgs false
/-- What stands ahead of a sign between two quotes; 0: nothing. -/
def gd (q : ByteArray) (z : Int) : Int := if q.toList = [39] then (if z = 39 then 39 else 0) else if z = 34 ∨ z = 92 then 92 else 0
def g1 (q : ByteArray) (z : Int) : List Int := if gd q z = 0 then [z] else [gd q z, z]
/-- The signs between two quotes. -/
def gl (q : ByteArray) (cs : List Ce) : List Int := cs.flatMap fun c => g1 q c.2.1
/-- Numbers as bytes. -/
def u8 (l : List Int) : List UInt8 := l.map fun z => UInt8.ofNat z.toNat
theorem g1_len (q : ByteArray) (z : Int) : 1 ≤ (g1 q z).length ∧ (g1 q z).length ≤ 2 := by
  unfold g1
  split <;> simp
theorem gl_snoc (q : ByteArray) {cs : List Ce} {j : Nat} (h : j < cs.length) : gl q (cs.take (j + 1)) = gl q (cs.take j) ++ g1 q (cAt cs j).2.1 := by
  rw [List.take_succ_eq_append_getElem h]
  simp only [gl, cAt, List.getElem?_eq_getElem h, List.flatMap_append, List.flatMap_cons, List.flatMap_nil, List.append_nil, Option.getD_some]
theorem gl_len (q : ByteArray) (cs : List Ce) : (gl q cs).length ≤ 2 * cs.length := by
  induction cs with
  | nil => simp [gl]
  | cons c r ih =>
    have := (g1_len q c.2.1).2
    simp only [gl, List.flatMap_cons, List.length_append, List.length_cons] at ih ⊢
    omega
theorem gd_good (q : ByteArray) (z : Int) (h : gd q z ≠ 0) : Good (gd q z) := by
  unfold gd at *
  unfold Good
  repeat' split
  all_goals first | omega | (simp_all)
theorem gl_good (q : ByteArray) {cs : List Ce} (h : ∀ i, i < cs.length → Good (cAt cs i).2.1) : ∀ z ∈ gl q cs, Good z := by
  intro z hz
  obtain ⟨c, hc, hz⟩ := List.mem_flatMap.1 hz
  obtain ⟨i, hi, rfl⟩ := List.mem_iff_getElem.1 hc
  have hg := h i hi
  have e : cAt cs i = cs[i] := by simp [cAt, List.getElem?_eq_getElem hi]
  rw [e] at hg
  unfold g1 at hz
  split at hz
  · simp at hz; rw [hz]; exact hg
  · rename_i h0
    simp at hz
    rcases hz with rfl | rfl
    · exact gd_good _ _ h0
    · exact hg
theorem guard73 (z : Int) (q : ByteArray) (w : World) : Calls Tryz.prog 86 #[.int .i64 z, .string q] w fun e w' => e = .returned (.int .i64 (gd q z)) ∧ w' = w := by
  unfold gd
  by_cases hq : q.toList = [39]
  · rw [if_pos hq]
    have hq2 : (q.toList == [39]) = true := by rw [hq]; rfl
    by_cases hz : z = 39
    · subst hz
      rw [if_pos rfl]
      go_enter Tryz.func86, Tryz.ntmps86
      go_wp2
      go_ret
      exact ⟨rfl, rfl⟩
    · rw [if_neg hz]
      have h1 : (z == 39) = false := beq_eq_false_iff_ne.2 hz
      go_enter Tryz.func86, Tryz.ntmps86
      go_wp2
      go_ret
      exact ⟨rfl, rfl⟩
  · rw [if_neg hq]
    have h2 : (q.toList == [39]) = false := beq_eq_false_iff_ne.2 hq
    by_cases h34 : z = 34
    · subst h34
      rw [if_pos (Or.inl rfl)]
      go_enter Tryz.func86, Tryz.ntmps86
      go_wp2
      go_ret
      exact ⟨rfl, rfl⟩
    · by_cases h92 : z = 92
      · subst h92
        rw [if_pos (Or.inr rfl)]
        go_enter Tryz.func86, Tryz.ntmps86
        go_wp2
        go_ret
        exact ⟨rfl, rfl⟩
      · rw [if_neg (by omega)]
        have h3 : (z == 34) = false := beq_eq_false_iff_ne.2 h34
        have h4 : (z == 92) = false := beq_eq_false_iff_ne.2 h92
        go_enter Tryz.func86, Tryz.ntmps86
        go_wp2
        go_ret
        exact ⟨rfl, rfl⟩
/-- Whether an array is written as a text. -/
def txB (x : Ar) : Bool := decide (x.cells.length = 0) || decide ((cAt x.cells 0).1 = 1)
theorem isText56 {n lo : Nat} {x : Ar} {va : Value} {w : World} (hx : ArIn n lo w x va) : Calls Tryz.prog 49 #[va] w fun e w' => e = .returned (.bool (txB x)) ∧ Below w.heap.size w w' := by
  cases n with
  | zero => exact hx.elim
  | succ n =>
  obtain ⟨a1, c1, a2, c2, rfl, R, hl, hc⟩ := hx
  unfold txB
  by_cases h0 : x.cells.length = 0
  · rw [h0]
    go_enter Tryz.func49, Tryz.ntmps49
    go_wp2
    go_ret
    exact ⟨rfl, one_alloc _ _⟩
  · obtain ⟨b, off, z0, z1, ab, nb, cb, rfl, hw⟩ := cells_at hc 0 (by omega)
    obtain ⟨d0, -, -, e3⟩ := hw (w.alloc (.cells #[.slice a1 x.shape.length c1, .slice (some ⟨b, off, none⟩) x.cells.length c2] 25)) (one_alloc _ _)
    obtain ⟨e0, -, -⟩ := e3
    injection e0 with _ e0
    rw [e0] at d0
    rw [Nat.zero_mul, Nat.add_zero] at d0
    obtain ⟨L, hL⟩ : ∃ L, x.cells.length = L := ⟨_, rfl⟩
    obtain ⟨K, hK⟩ : ∃ K, (cAt x.cells 0).1 = K := ⟨_, rfl⟩
    rw [hL] at h0 hl d0 ⊢
    rw [hK] at d0 ⊢
    have h1 : ((L : Int) == 0) = false := beq_eq_false_iff_ne.2 (by omega)
    have h2 : (0 : Int) < (L : Int) := by omega
    have h3 : decide (L = 0) = false := decide_eq_false h0
    clear hw hc R e0 hK hL
    rw [h3, Bool.false_or]
    go_enter Tryz.func49, Tryz.ntmps49
    go_wp2
    go_ret
    refine ⟨?_, one_alloc _ _⟩
    by_cases hK : K = 1
    · subst hK; rfl
    · rw [decide_eq_false hK]
      rw [show (K == 1) = false from beq_eq_false_iff_ne.2 hK]
      rfl
end Go.Proofs.YtneblkdkhlgmcaaGreatDoor
namespace Go.Proofs.YtneblkdkhlgmcaaGreatDoor
open Go.ChangeShapes Go.WideShapes Go.ChangeAt Go.RowKit
open Rn (Good Byte enc put)
set_option maxRecDepth 100000
set_option linter.unusedVariables false
set_option linter.unusedSimpArgs false
theorem info2 : (Tryz.prog.info? 2).map (fun i => (i.zero, i.size, i.bytes)) = some (some (.int .i64 0), 1, 8) := by kernel_rfl
theorem u8_at (l : List Int) (h : ∀ z ∈ l, Byte z) {j : Nat} (hj : j < (u8 l).length) : (((u8 l)[j]).toNat : Int) = l[j]?.getD 0 := by
  have hj' : j < l.length := by simpa [u8] using hj
  have hb := h l[j] (List.getElem_mem hj')
  unfold Byte at hb
  simp only [u8, List.getElem_map, List.getElem?_eq_getElem hj', Option.getD_some]
  rw [UInt8.toNat_ofNat_of_lt' (by show (l[j]).toNat < 256; omega)]
  omega
theorem conv_none (w : World) (c : Nat) : (convert 65 9 (.slice none 0 c)).run Tryz.prog w = .ok (.string ⟨#[]⟩) w := by
  rw [run_convert_bytes_string w 65 9 5 none 0 c Tryz.underlying65 Tryz.underlying5 Tryz.underlying9]
  rfl
theorem conv_row {w : World} {a : Option Addr} {l : List Int} (R : Rn.Row .u8 w a l) (h : ∀ z ∈ l, Byte z) (c : Nat) : (convert 65 9 (.slice a l.length c)).run Tryz.prog w = .ok (.string ⟨(u8 l).toArray⟩) w := by
  have hul : (u8 l).length = l.length := by simp [u8]
  rcases R.2 with h0 | ⟨b, off, ha, hb, hc⟩
  · subst h0
    cases a with
    | none => exact conv_none w c
    | some ad =>
      exact run_convert_bytes_back w 65 9 5 ad c [] Tryz.underlying65 Tryz.underlying5 Tryz.underlying9 (fun j hj => absurd hj (by simp))
  · rw [← hul, ha]
    refine run_convert_bytes_back w 65 9 5 ⟨b, off, none⟩ c (u8 l) Tryz.underlying65 Tryz.underlying5 Tryz.underlying9 (fun j hj => ?_)
    rw [u8_at l h hj, Lib.add_plain]
    exact hc j (by rw [← hul]; exact hj)
set_option maxHeartbeats 4000000 in
theorem signs57 {n lo : Nat} {cs : List Ce} {a2 : Option Addr} {c2 : Nat} {q : ByteArray} {w : World} (hc : CellsIn n lo w cs a2) (hl : cs.length ≤ 100000) (hg : ∀ i, i < cs.length → Good (cAt cs i).2.1) (T : Rn.Tab w) :
    Calls Tryz.prog 50 #[.slice a2 cs.length c2, .string q] w fun e w' => e = .returned (.string ⟨(u8 (enc (gl q cs))).toArray⟩) ∧ Below w.heap.size w w' := by
  obtain ⟨i2, hi2, hz20, hz21, hz22⟩ := info_parts info2
  have HCF : Hid (∀ i, i < cs.length → ∃ b off z0 ab nb cb, a2 = some ⟨b, off, none⟩ ∧ ∀ wr, Below w.heap.size w wr → wr.cell? ⟨b, off + i * 3, none⟩ = some (.int .i64 z0) ∧ wr.cell? ⟨b, off + i * 3 + 1, none⟩ = some (.int .i64 (cAt cs i).2.1) ∧ wr.cell? ⟨b, off + i * 3 + 2, none⟩ = some (.slice ab nb cb)) := hide fun i hi => by
    obtain ⟨b, off, z0, z1, ab, nb, cb, ha, hw⟩ := cells_at hc i hi
    refine ⟨b, off, z0, ab, nb, cb, ha, fun wr hwr => ?_⟩
    obtain ⟨g0, g1, g2, g3⟩ := hw wr hwr
    obtain ⟨-, e1, -⟩ := g3
    injection e1 with _ e1
    rw [e1] at g1
    exact ⟨g0, g1, g2⟩
  have HGL := hide (fun j (hj : j < cs.length) => gl_snoc q hj)
  have HLN := hide (fun j => gl_len q (cs.take j))
  have HGG := hide (gl_good q hg)
  have HT := hide T
  obtain ⟨L, hL⟩ : ∃ L, cs.length = L := ⟨_, rfl⟩
  have HTK : Hid (cs.take L = cs) := hide (by rw [← hL]; exact List.take_length)
  have HL2 : Hid (∀ j, (cs.take j).length ≤ L) := hide (fun j => by rw [← hL]; rw [List.length_take]; omega)
  rw [hL] at HCF HGL hl ⊢
  clear hc hg T hL
  go_enter Tryz.func50, Tryz.ntmps50
  go_wp2_with (at_make; refine wpList_make_own _ rfl _ _ 53 rfl w.heap.size 2 i2 (.int .i64 0) 1 Tryz.underlying53 hi2 hz20 hz21 .i64 .i64 _ L rfl rfl rfl (by rw [hz22]; omega) (by unfold maxLen; omega) (Nat.le_refl _) ?_; intro w0 hown0 hgrow0)
  have hb0 : Below w.heap.size w w0 := (Below.refl _ _).grown hgrow0 (Nat.le_refl _) (fun q hq => by cases hq)
  clear hgrow0
  go_wp2
  go_loopg [5, 16] L (fun g v i wq => ∃ k : Nat, g + k = L ∧ i = .int .i64 (k : Int) ∧ Below w.heap.size w wq ∧ wq.ownsRow w.heap.size 2 1 v (gl q (cs.take k)).length ((gl q (cs.take k)).map (Value.int .i64)))
  case atStart => exact ⟨0, rfl, rfl, hb0, by simpa [gl] using hown0⟩
  case round =>
    obtain ⟨k, hgk, rfl, hnx, hown⟩ := hrel
    clear hb0 hown0
    by_cases hlk : k < L
    · obtain ⟨b, off, z0, ab, nb, cb, rfl, hw⟩ := HCF.out k hlk
      obtain ⟨d0, d1, d2⟩ := hw wr hnx
      have hst := HGL.out k hlk
      have hln := HLN.out k
      have hl2 := HL2.out k
      obtain ⟨z, hz⟩ : ∃ z, (cAt cs k).2.1 = z := ⟨_, rfl⟩
      obtain ⟨pre, hpre⟩ : ∃ pre, gl q (cs.take k) = pre := ⟨_, rfl⟩
      rw [hz] at d1 hst
      rw [hpre] at hst hln hown
      have HST := hide hst
      have OW1 := hown.alloc (.cells #[.int .i64 z0, .int .i64 z, .slice ab nb cb] 64)
      have HNX := hide hnx
      have hbx : Below w.heap.size w (wr.alloc (.cells #[.int .i64 z0, .int .i64 z, .slice ab nb cb] 64)) := hnx.alloc hnx.size _
      have HBX := hide hbx
      clear hw hz hpre hst hown hnx hbx HCF HGL HLN HL2
      go_wp2_with fail
      refine (guard73 _ _ _).mono ?_
      rintro e w2 ⟨rfl, rfl⟩
      by_cases h0 : gd q z = 0
      · have hg1 : g1 q z = [z] := by unfold g1; rw [if_pos h0]
        rw [hg1] at HST
        rw [h0]
        have OW2 := OW1.alloc (.cells #[.int .i64 z] 2)
        have hb2 := HBX.out.alloc HBX.out.size (.cells #[.int .i64 z] 2)
        have HB2 := hide hb2
        have HSZ : Hid (w.heap.size ≤ ((wr.alloc (.cells #[.int .i64 z0, .int .i64 z, .slice ab nb cb] 64)).alloc (.cells #[.int .i64 z] 2)).heap.size) := hb2.size
        clear hb2 OW1
        go_wp2_with (at_builtin; refine wpList_append_own _ rfl _ _ 53 rfl w.heap.size 2 i2 (.int .i64 0) 1 8 Tryz.underlying53 hi2 hz20 hz21 hz22 rfl (by decide) _ _ _ rfl OW2 ⟨wr.heap.size + 1, 0, none⟩ 1 1 [.int .i64 z] rfl rfl ?c1 ?c2 ?c3 ?c4 ?c5 ?_)
        case c1 =>
          intro j u hj
          match j, hj with
          | 0, hj => simp at hj; subst hj; simp [Addr.add]
        case c2 => intro u hu; simp at hu; subst hu; rfl
        case c3 => unfold maxLen; omega
        case c4 => omega
        case c5 => exact HSZ.out
        intro v' w3 hown3 hgrow3 _
        have HB3 : Hid (Below w.heap.size w w3) := hide (HB2.out.grown hgrow3 HSZ.out (fun q hq => (OW2.lt q hq).1))
        have HO3 : Hid (w3.ownsRow w.heap.size 2 1 v' (gl q (cs.take (k + 1))).length ((gl q (cs.take (k + 1))).map (Value.int .i64))) := hide (by rw [HST.out]; simpa using hown3)
        clear hown3 hgrow3 OW2 HB2 HSZ d0 d1 d2
        go_wp2
        go_roundg (L - (k + 1))
        case rel => exact ⟨k + 1, by omega, by go_num, HB3.out, HO3.out⟩
        case measure => omega
      · have hg1 : g1 q z = [gd q z, z] := by unfold g1; rw [if_neg h0]
        rw [hg1] at HST
        obtain ⟨gz, hgz⟩ : ∃ gz, gd q z = gz := ⟨_, rfl⟩
        rw [hgz] at h0 HST ⊢
        have h0' : (gz != 0) = true := bne_iff_ne.2 h0
        have OW2 := OW1.alloc (.cells #[.int .i64 gz] 2)
        have hb2 := HBX.out.alloc HBX.out.size (.cells #[.int .i64 gz] 2)
        have HB2 := hide hb2
        have HSZ : Hid (w.heap.size ≤ ((wr.alloc (.cells #[.int .i64 z0, .int .i64 z, .slice ab nb cb] 64)).alloc (.cells #[.int .i64 gz] 2)).heap.size) := hb2.size
        have e1 : ((wr.alloc (.cells #[.int .i64 z0, .int .i64 z, .slice ab nb cb] 64)).alloc (.cells #[.int .i64 gz] 2)).cell? ⟨wr.heap.size, 1, none⟩ = some (.int .i64 z) := cell_one (cell_new0 wr #[.int .i64 z0, .int .i64 z, .slice ab nb cb] 64 1 _ rfl) (by simp) _
        clear hb2 OW1 hgz
        go_wp2_with (at_builtin; refine wpList_append_own _ rfl _ _ 53 rfl w.heap.size 2 i2 (.int .i64 0) 1 8 Tryz.underlying53 hi2 hz20 hz21 hz22 rfl (by decide) _ _ _ rfl OW2 ⟨wr.heap.size + 1, 0, none⟩ 1 1 [.int .i64 gz] rfl rfl ?c1 ?c2 ?c3 ?c4 ?c5 ?_)
        case c1 =>
          intro j u hj
          match j, hj with
          | 0, hj => simp at hj; subst hj; simp [Addr.add]
        case c2 => intro u hu; simp at hu; subst hu; rfl
        case c3 => unfold maxLen; omega
        case c4 => omega
        case c5 => exact HSZ.out
        intro v3 w3 hown3 hgrow3 _
        have e3 : w3.cell? ⟨wr.heap.size, 1, none⟩ = some (.int .i64 z) := hgrow3.cell e1 (fun e => by
          rcases OW2.2 with ⟨h8, -⟩ | ⟨g, cap, cur, h8, -, hg8, -⟩
          · rw [h8] at e; cases e
          · rw [h8] at e
            cases e
            have h7 : ((wr.alloc (.cells #[.int .i64 z0, .int .i64 z, .slice ab nb cb] 64)).alloc (.cells #[.int .i64 gz] 2)).heap[wr.heap.size]? = some (.cells #[.int .i64 z0, .int .i64 z, .slice ab nb cb] 64 (0, 0)) := (Lib.alloc_old _ _ wr.heap.size (by simp)).trans (heap_alloc_new wr _)
            have h9 := h7.symm.trans hg8
            cases h9)
        have HB3 := hide (HB2.out.grown hgrow3 HSZ.out (fun q hq => (OW2.lt q hq).1))
        have OW3 := hown3.alloc (.cells #[.int .i64 z] 2)
        have HSZ3 : Hid (w.heap.size ≤ (w3.alloc (.cells #[.int .i64 z] 2)).heap.size) := hide (HB3.out.alloc HB3.out.size _).size
        clear hown3 hgrow3 OW2 HB2 HSZ d0 d1 d2 e1
        go_wp2_with (at_builtin; refine wpList_append_own _ rfl _ _ 53 rfl w.heap.size 2 i2 (.int .i64 0) 1 8 Tryz.underlying53 hi2 hz20 hz21 hz22 rfl (by decide) _ _ _ rfl OW3 ⟨w3.heap.size, 0, none⟩ 1 1 [.int .i64 z] rfl rfl ?k1 ?k2 ?k3 ?k4 ?k5 ?_)
        case k1 =>
          intro j u hj
          match j, hj with
          | 0, hj => simp at hj; subst hj; simp [Addr.add]
        case k2 => intro u hu; simp at hu; subst hu; rfl
        case k3 => unfold maxLen; omega
        case k4 => omega
        case k5 => exact HSZ3.out
        intro v4 w4 hown4 hgrow4 _
        have HB4 : Hid (Below w.heap.size w w4) := hide ((HB3.out.alloc HB3.out.size _).grown hgrow4 HSZ3.out (fun q hq => (OW3.lt q hq).1))
        have HO4 : Hid (w4.ownsRow w.heap.size 2 1 v4 (gl q (cs.take (k + 1))).length ((gl q (cs.take (k + 1))).map (Value.int .i64))) := hide (by rw [HST.out]; simpa [List.append_assoc] using hown4)
        clear hown4 hgrow4 OW3 HB3 HSZ3 e3
        go_wp2
        go_roundg (L - (k + 1))
        case rel => exact ⟨k + 1, by omega, by go_num, HB4.out, HO4.out⟩
        case measure => omega
    · have hke : k = L := by omega
      subst hke
      rw [HTK.out] at hown
      have hl9 : (gl q cs).length ≤ 2 * k := by have := HLN.out k; rw [HTK.out] at this; exact Nat.le_trans this (by have := HL2.out k; rw [HTK.out] at this; omega)
      obtain ⟨a5, c5, rfl, R5, -, -, -⟩ := Rn.row_owned hown (by omega)
      have hT5 : Rn.Tab wr := HT.out.below hnx HT.out.1
      have HW := hide (Rn.write_any (gl q cs) (gl q cs).length a5 c5 wr R5 hT5 (by omega) (Nat.le_refl _) (by rw [List.take_length]; exact HGG.out) (fun h => absurd h (by omega)))
      have HNX := hide hnx
      obtain ⟨M, hM⟩ : ∃ M, (gl q cs).length = M := ⟨_, rfl⟩
      rw [hM] at HW ⊢
      clear hown R5 hT5 hnx
      go_wp2_with fail
      refine HW.out.mono ?_
      rintro e w6 ⟨h6, -, hb6⟩
      obtain ⟨a6, rfl, R6, -⟩ := h6 hM.symm
      have hcv := conv_row R6 (Rn.enc_bytes HGG.out) (enc (gl q cs)).length
      have HB6 := hide (HNX.out.trans (hb6.mono HNX.out.size))
      clear h6 R6 hb6 HW
      go_wp2
      go_ret
      exact ⟨rfl, HB6.out⟩
end Go.Proofs.YtneblkdkhlgmcaaGreatDoor
namespace Go.Proofs.YtneblkdkhlgmcaaGreatDoor
open Go.ChangeShapes Go.WideShapes Go.ChangeAt Go.RowKit
open Rn (Good Byte enc put)
set_option maxRecDepth 100000
set_option linter.unusedVariables false
set_option linter.unusedSimpArgs false
def gV (G : Gs) : Value := .agg #[G.s1, G.s2, G.s3, .string G.outer, .string G.power, .string G.opn, .string G.cls, .string G.left, .string G.right, .string G.minus, .string G.quote, .bool G.trains, .bool G.lone, .bool G.square]
def str (l : List UInt8) : ByteArray := ⟨l.toArray⟩
/-- An array's numbers as words. -/
def numW (m : ByteArray) (cs : List Ce) : List ByteArray := cs.map fun c => str (numT c.2.1 m.data.toList)
/-- An array as a text. -/
def litT (G : Gs) (x : Ar) : List UInt8 := if txB x then G.quote.data.toList ++ u8 (enc (gl G.quote x.cells)) ++ G.quote.data.toList else pT false (numW G.minus x.cells)
def G0 : Gs := ⟨.slice none 0 0, .slice none 0 0, .slice none 0 0, ⟨#[]⟩, ⟨#[]⟩, ⟨#[]⟩, ⟨#[]⟩, ⟨#[]⟩, ⟨#[]⟩, ⟨#[]⟩, ⟨#[]⟩, false, false, false⟩
theorem Wr.new (w : World) (G : Gs) (rt : ByteArray) : Wr w.heap.size (w.alloc (.cells (wC G rt false (.pointer none) (.slice none 0 0)) 80)) w.heap.size G rt false [] (.pointer none) (.slice none 0 0) :=
  ⟨Nat.le_refl _, Or.inl rfl, heap_alloc_new w _, World.ownsRow_nil _ _ _ _⟩
theorem numT_len (z : Int) (m : List UInt8) (h0 : -9223372036854775808 ≤ z) (h1 : z ≤ 9223372036854775807) : (numT z m).length ≤ m.length + 20 := by
  unfold numT
  have := dig_len z.natAbs (by omega)
  split
  · rw [List.length_append]; omega
  · omega
theorem pT_len (bg : Bool) (ws : List ByteArray) (M : Nat) (h : ∀ s ∈ ws, s.size ≤ M) : (pT bg ws).length ≤ ws.length * (M + 1) := by
  induction ws generalizing bg with
  | nil => simp [pT]
  | cons s r ih =>
    have h1 := h s (by simp)
    have h2 := ih true (fun t ht => h t (by simp [ht]))
    have h3 : s.data.toList.length = s.size := by simp
    simp only [pT, List.length_append, List.length_cons, h3]
    have h4 : (if bg = true then [32] else [] : List UInt8).length ≤ 1 := by split <;> simp
    rw [Nat.succ_mul]
    omega
set_option maxHeartbeats 4000000 in
theorem literal34_text {n lo : Nat} {x : Ar} {va : Value} {G : Gs} {w : World} (hx : ArIn n lo w x va) (hl : x.cells.length ≤ 100000) (ht : txB x = true) (hg : ∀ i, i < x.cells.length → Good (cAt x.cells i).2.1) (hq : G.quote.size ≤ 1000000) (T : Rn.Tab w) :
    Calls Tryz.prog 27 #[va, gV G] w fun e w' => e = .returned (.string (str (litT G x))) ∧ Below w.heap.size w w' := by
  have HI := hide (fun wr (hw : Below w.heap.size w wr) => isText56 (hx.next hw))
  rw [ht] at HI
  cases n with
  | zero => exact hx.elim
  | succ n =>
  obtain ⟨a1, c1, a2, c2, rfl, R, hl', hc⟩ := hx
  have HS := hide (fun wr (hw : Below w.heap.size w wr) => signs57 (c2 := c2) (q := G.quote) ((show CellsIn n lo w x.cells a2 from hc).mono (Nat.le_refl _) hw) hl hg (T.below hw T.1))
  have hsl : (u8 (enc (gl G.quote x.cells))).length ≤ 800000 := by
    have e1 : (u8 (enc (gl G.quote x.cells))).length = (enc (gl G.quote x.cells)).length := by simp [u8]
    have e2 := (Rn.enc_len (gl G.quote x.cells)).2
    have e3 := gl_len G.quote x.cells
    omega
  have HR : Hid (litT G x = G.quote.data.toList ++ u8 (enc (gl G.quote x.cells)) ++ G.quote.data.toList) := hide (by unfold litT; rw [ht]; rfl)
  obtain ⟨S, hS⟩ : ∃ S, u8 (enc (gl G.quote x.cells)) = S := ⟨_, rfl⟩
  rw [hS] at HS HR hsl
  obtain ⟨L, hL⟩ : ∃ L, x.cells.length = L := ⟨_, rfl⟩
  obtain ⟨SL, hSL⟩ : ∃ SL, x.shape.length = SL := ⟨_, rfl⟩
  rw [hL] at HS HI
  rw [hSL] at HI
  rw [hL, hSL]
  obtain ⟨W2, hW2⟩ : ∃ W2, (w.alloc (.cells #[.slice a1 SL c1, .slice a2 L c2] 25)).alloc (.cells #[G.s1, G.s2, G.s3, .string G.outer, .string G.power, .string G.opn, .string G.cls, .string G.left, .string G.right, .string G.minus, .string G.quote, .bool G.trains, .bool G.lone, .bool G.square] 30) = W2 := ⟨_, rfl⟩
  have hb2 : Below w.heap.size w W2 := by rw [← hW2]; exact two_allocs _ _ _
  have s2 : W2.heap.size = w.heap.size + 2 := by rw [← hW2]; simp
  have hA : W2.heap[w.heap.size]? = some (.cells #[.slice a1 SL c1, .slice a2 L c2] 25 (0, 0)) := by
    rw [← hW2]; exact (Lib.alloc_old _ _ w.heap.size (by simp)).trans (heap_alloc_new w _)
  have hGb : W2.heap[w.heap.size + 1]? = some (.cells #[G.s1, G.s2, G.s3, .string G.outer, .string G.power, .string G.opn, .string G.cls, .string G.left, .string G.right, .string G.minus, .string G.quote, .bool G.trains, .bool G.lone, .bool G.square] 30 (0, 0)) := by
    have h := heap_alloc_new (w.alloc (.cells #[.slice a1 SL c1, .slice a2 L c2] 25)) (.cells #[G.s1, G.s2, G.s3, .string G.outer, .string G.power, .string G.opn, .string G.cls, .string G.left, .string G.right, .string G.minus, .string G.quote, .bool G.trains, .bool G.lone, .bool G.square] 30)
    have e : (w.alloc (.cells #[.slice a1 SL c1, .slice a2 L c2] 25)).heap.size = w.heap.size + 1 := by simp
    rw [e] at h
    rw [← hW2]; exact h
  have KS : Hid (∀ W, Below W2.heap.size W2 W → (Below W2.heap.size W2 W ∧ W.cell? ⟨w.heap.size, 0, none⟩ = some (.slice a1 SL c1) ∧ W.cell? ⟨w.heap.size, 1, none⟩ = some (.slice a2 L c2)) ∧ W.cell? ⟨w.heap.size + 1, 10, none⟩ = some (.string G.quote) ∧ W.cell? ⟨w.heap.size + 1, 9, none⟩ = some (.string G.minus)) := hide fun W h => by
    have hA2 := (h.block w.heap.size (by omega)).trans hA
    have hG2 := (h.block (w.heap.size + 1) (by omega)).trans hGb
    exact ⟨⟨h, (Lib.cell_of_heap hA2 0).trans rfl, (Lib.cell_of_heap hA2 1).trans rfl⟩, (Lib.cell_of_heap hG2 10).trans rfl, (Lib.cell_of_heap hG2 9).trans rfl⟩
  have HB2 := hide hb2
  have hlen1 : ¬ (9223372036854775807 < G.quote.size + S.length) := by omega
  have hlen2 : ¬ (9223372036854775807 < G.quote.size + S.length + G.quote.size) := by omega
  obtain ⟨⟨-, k0, k1⟩, -⟩ := KS.out W2 (Below.refl _ _)
  unfold gV
  go_enter Tryz.func27, Tryz.ntmps27
  go_upto_region 1 with fail
  try rw [hW2]
  clear hW2 hc hg T R hl' hA hGb
  go_wp2_with fail
  refine (HI.out W2 HB2.out).mono ?_
  rintro e w3 ⟨rfl, hb3⟩
  go_upto_region 2 with fail
  have HB3 := hide hb3
  have HD0 : Hid (Below W2.heap.size W2 w3.drew) := hide (hb3.drew)
  have HB23 : Hid (∀ W, Below W2.heap.size W2 W → Below w.heap.size w W) := hide fun W h => HB2.out.trans (h.mono HB2.out.size)
  clear hb2 hb3 k0 k1
  go_region_held3 (fun W => (Below W2.heap.size W2 W ∧ W.cell? ⟨w.heap.size, 0, none⟩ = some (.slice a1 SL c1) ∧ W.cell? ⟨w.heap.size, 1, none⟩ = some (.slice a2 L c2)) ∧ W.cell? ⟨w.heap.size + 1, 10, none⟩ = some (.string G.quote) ∧ W.cell? ⟨w.heap.size + 1, 9, none⟩ = some (.string G.minus)) (first | with_reducible exact KS.out _ HD0.out | with_reducible exact KS.out _ (by with_reducible assumption)) (first | (go_at_call 50; refine (HS.out _ (HB23.out _ HD0.out)).mono ?_; rintro e w6 ⟨rfl, hb6⟩; have hb7 := HD0.out.trans (hb6.mono HD0.out.size)))
  go_wp2
  go_ret
  refine ⟨?_, HB23.out _ hb7⟩
  rw [HR.out]
  have e : G.quote ++ ⟨S.toArray⟩ ++ G.quote = str (G.quote.data.toList ++ S ++ G.quote.data.toList) := by
    have e1 := cat_l G.quote S
    rw [e1]
    have e2 := str_mk G.quote
    have e3 := cat_mk (G.quote.data.toList ++ S) G.quote.data.toList
    rw [← e2] at e3
    exact e3
  rw [← e]
  rfl
theorem StrR.next {p : Nat} {w w' : World} {ad : Option Addr} {ws : List ByteArray} (h : StrR p w ad ws) (hb : Below w.heap.size w w') : StrR p w' ad ws :=
  ⟨h.1, fun j hj => by
    obtain ⟨b, off, ha, hl, hp, h5, hc⟩ := h.2 j hj
    exact ⟨b, off, ha, Nat.lt_of_lt_of_le hl hb.size, hp, by rw [hb.block b hl]; exact h5, (hb.cell (p := ⟨b, off + j, none⟩) hl).trans hc⟩⟩
theorem info9 : (Tryz.prog.info? 9).map (fun i => (i.zero, i.size, i.bytes)) = some (some (.string ⟨#[]⟩), 1, 16) := by kernel_rfl
theorem numW_snoc (m : ByteArray) {cs : List Ce} {j : Nat} (h : j < cs.length) : numW m (cs.take (j + 1)) = numW m (cs.take j) ++ [str (numT (cAt cs j).2.1 m.data.toList)] := by
  rw [List.take_succ_eq_append_getElem h]
  simp only [numW, cAt, List.getElem?_eq_getElem h, List.map_append, List.map_cons, List.map_nil, Option.getD_some]
theorem StrR.own {p : Nat} {w : World} {base : Nat} {v : Value} {ws : List ByteArray} (h : w.ownsRow base 9 1 v ws.length (ws.map Value.string)) (hp : w.heap.size ≤ p) (hl : ws.length ≤ 1000000) : ∃ ad c, v = .slice ad ws.length c ∧ StrR p w ad ws := by
  rcases h.2 with ⟨rfl, h0⟩ | ⟨g, cap, cur, rfl, hb, hg, hn, -⟩
  · exact ⟨none, 0, by rw [h0], hl, fun j hj => absurd hj (by omega)⟩
  · refine ⟨_, cap, rfl, hl, fun j hj => ⟨g, 0, rfl, lt_heap hg, by have := lt_heap hg; omega, ?_, ?_⟩⟩
    · rintro ⟨cs, fz, h⟩
      rw [hg] at h
      cases h
    · have := h.cells (g := g) rfl j (.string (ws[j]?.getD ⟨#[]⟩)) (by simp [List.getElem?_eq_getElem hj])
      rw [Lib.add_plain] at this
      exact this
set_option maxHeartbeats 8000000 in
theorem literal34_num {n lo : Nat} {x : Ar} {va : Value} {G : Gs} {w : World} (hx : ArIn n lo w x va) (hl : x.cells.length ≤ 100000) (ht : txB x = false) (hg : ∀ i, i < x.cells.length → I64 (cAt x.cells i).2.1) (hq : G.minus.size ≤ 1000000) (T : Pw w) :
    Calls Tryz.prog 27 #[va, gV G] w fun e w' => e = .returned (.string (str (litT G x))) ∧ Below w.heap.size w w' := by
  obtain ⟨i9, hi9, hz90, hz91, hz92⟩ := info_parts info9
  have HI := hide (fun wr (hw : Below w.heap.size w wr) => isText56 (hx.next hw))
  rw [ht] at HI
  cases n with
  | zero => exact hx.elim
  | succ n =>
  obtain ⟨a1, c1, a2, c2, rfl, R, hl', hc⟩ := hx
  have HCF : Hid (∀ i, i < x.cells.length → ∃ b off z0 ab nb cb, a2 = some ⟨b, off, none⟩ ∧ ∀ wr, Below w.heap.size w wr → wr.cell? ⟨b, off + i * 3, none⟩ = some (.int .i64 z0) ∧ wr.cell? ⟨b, off + i * 3 + 1, none⟩ = some (.int .i64 (cAt x.cells i).2.1) ∧ wr.cell? ⟨b, off + i * 3 + 2, none⟩ = some (.slice ab nb cb)) := hide fun i hi => by
    obtain ⟨b, off, z0, z1, ab, nb, cb, ha, hw⟩ := cells_at hc i hi
    refine ⟨b, off, z0, ab, nb, cb, ha, fun wr hwr => ?_⟩
    obtain ⟨g0, g1, g2, g3⟩ := hw wr hwr
    obtain ⟨-, e1, -⟩ := g3
    injection e1 with _ e1
    rw [e1] at g1
    exact ⟨g0, g1, g2⟩
  have HR : Hid (litT G x = pT false (numW G.minus x.cells)) := hide (by unfold litT; rw [ht]; rfl)
  have HSN := hide (fun j (hj : j < x.cells.length) => numW_snoc G.minus hj)
  have HTL := hide (fun (h : numW G.minus (x.cells.take x.cells.length) = numW G.minus x.cells) => h)
  have HTK : Hid (numW G.minus (x.cells.take x.cells.length) = numW G.minus x.cells) := hide (by rw [List.take_length])
  have HNL : Hid (∀ k, k ≤ x.cells.length → (numW G.minus (x.cells.take k)).length = k) := hide (fun k hk => by simp [numW]; omega)
  have HPL : Hid ((pT false (numW G.minus x.cells)).length ≤ 100000 * 1000021) := hide (by
    have h := pT_len false (numW G.minus x.cells) 1000020 (fun s hs => by
      obtain ⟨c, hc1, rfl⟩ := List.mem_map.1 hs
      obtain ⟨i, hi, rfl⟩ := List.mem_iff_getElem.1 hc1
      have h1 := hg i hi
      have e : cAt x.cells i = x.cells[i] := by simp [cAt, List.getElem?_eq_getElem hi]
      rw [e] at h1
      have h2 := numT_len _ G.minus.data.toList h1.1 h1.2
      have h3 : G.minus.data.toList.length = G.minus.size := by simp
      show (str _).data.size ≤ _
      simp only [str, List.size_toArray]
      omega)
    have e : (numW G.minus x.cells).length = x.cells.length := by simp [numW]
    rw [e] at h
    exact Nat.le_trans h (Nat.mul_le_mul hl (Nat.le_refl _)))
  have HG := hide hg
  have HT := hide T
  have HMS := hide hq
  obtain ⟨CS, hCS⟩ : ∃ CS, x.cells = CS := ⟨_, rfl⟩
  rw [hCS] at HCF HSN HTK HNL HPL HG hl HR HI
  rw [hCS]
  obtain ⟨L, hL⟩ : ∃ L, CS.length = L := ⟨_, rfl⟩
  obtain ⟨SL, hSL⟩ : ∃ SL, x.shape.length = SL := ⟨_, rfl⟩
  rw [hL] at HCF HSN HTK HNL HG hl HI
  rw [hSL] at HI
  rw [hL, hSL]
  obtain ⟨W2, hW2⟩ : ∃ W2, (w.alloc (.cells #[.slice a1 SL c1, .slice a2 L c2] 25)).alloc (.cells #[G.s1, G.s2, G.s3, .string G.outer, .string G.power, .string G.opn, .string G.cls, .string G.left, .string G.right, .string G.minus, .string G.quote, .bool G.trains, .bool G.lone, .bool G.square] 30) = W2 := ⟨_, rfl⟩
  have hb2 : Below w.heap.size w W2 := by rw [← hW2]; exact two_allocs _ _ _
  have s2 : W2.heap.size = w.heap.size + 2 := by rw [← hW2]; simp
  have hA : W2.heap[w.heap.size]? = some (.cells #[.slice a1 SL c1, .slice a2 L c2] 25 (0, 0)) := by
    rw [← hW2]; exact (Lib.alloc_old _ _ w.heap.size (by simp)).trans (heap_alloc_new w _)
  have hGb : W2.heap[w.heap.size + 1]? = some (.cells #[G.s1, G.s2, G.s3, .string G.outer, .string G.power, .string G.opn, .string G.cls, .string G.left, .string G.right, .string G.minus, .string G.quote, .bool G.trains, .bool G.lone, .bool G.square] 30 (0, 0)) := by
    have h := heap_alloc_new (w.alloc (.cells #[.slice a1 SL c1, .slice a2 L c2] 25)) (.cells #[G.s1, G.s2, G.s3, .string G.outer, .string G.power, .string G.opn, .string G.cls, .string G.left, .string G.right, .string G.minus, .string G.quote, .bool G.trains, .bool G.lone, .bool G.square] 30)
    have e : (w.alloc (.cells #[.slice a1 SL c1, .slice a2 L c2] 25)).heap.size = w.heap.size + 1 := by simp
    rw [e] at h
    rw [← hW2]; exact h
  have KS : Hid (∀ W, Below W2.heap.size W2 W → (Below W2.heap.size W2 W ∧ W.cell? ⟨w.heap.size, 0, none⟩ = some (.slice a1 SL c1) ∧ W.cell? ⟨w.heap.size, 1, none⟩ = some (.slice a2 L c2)) ∧ W.cell? ⟨w.heap.size + 1, 10, none⟩ = some (.string G.quote) ∧ W.cell? ⟨w.heap.size + 1, 9, none⟩ = some (.string G.minus)) := hide fun W h => by
    have hA2 := (h.block w.heap.size (by omega)).trans hA
    have hG2 := (h.block (w.heap.size + 1) (by omega)).trans hGb
    exact ⟨⟨h, (Lib.cell_of_heap hA2 0).trans rfl, (Lib.cell_of_heap hA2 1).trans rfl⟩, (Lib.cell_of_heap hG2 10).trans rfl, (Lib.cell_of_heap hG2 9).trans rfl⟩
  have HB2 := hide hb2
  obtain ⟨⟨-, k0, k1⟩, -, k9⟩ := KS.out W2 (Below.refl _ _)
  have HB23 : Hid (∀ W, Below W2.heap.size W2 W → Below w.heap.size w W) := hide fun W h => HB2.out.trans (h.mono HB2.out.size)
  unfold gV
  clear HTL hCS hL hSL hq
  go_enter Tryz.func27, Tryz.ntmps27
  go_upto_region 1 with fail
  try rw [hW2]
  clear hW2 hc hg T R hl' hA hGb
  go_wp2_with fail
  refine (HI.out W2 HB2.out).mono ?_
  rintro e w3 ⟨rfl, hb3⟩
  obtain ⟨⟨-, k30, k31⟩, -, k39⟩ := KS.out w3 hb3
  have HB3 := hide hb3
  have h23 := hb3.size
  clear k0 k1 k9 HI hb2
  go_wp2_with (at_make; refine wpList_make_own _ rfl _ _ 28 rfl w3.heap.size 9 i9 (.string ⟨#[]⟩) 1 Tryz.underlying28 hi9 hz90 hz91 .i64 .i64 _ L rfl rfl rfl (by rw [hz92]; omega) (by unfold maxLen; omega) (Nat.le_refl _) ?_; intro w4 hown4 hgrow4; have hb4 : Below w3.heap.size w3 w4 := (Below.refl _ _).grown hgrow4 (Nat.le_refl _) (fun q hq => by cases hq); obtain ⟨⟨-, k40, k41⟩, -, k49⟩ := KS.out w4 (HB3.out.trans (hb4.mono h23)))
  clear k30 k31 k39 k40 k41 k49 hgrow4 hb3
  go_loopg [5, 29] L (fun g v i wq => ∃ k : Nat, g + k = L ∧ i = .int .i64 (k : Int) ∧ Below w3.heap.size w3 wq ∧ wq.ownsRow w3.heap.size 9 1 v k ((numW G.minus (CS.take k)).map Value.string))
  case atStart => exact ⟨0, rfl, rfl, hb4, by simpa [numW] using hown4⟩
  case round =>
    obtain ⟨k, hgk, rfl, hnx, hown⟩ := hrel
    clear hb4 hown4
    have hnx2 : Below W2.heap.size W2 wr := HB3.out.trans (hnx.mono h23)
    by_cases hlk : k < L
    · obtain ⟨b, off, z0, ab, nb, cb, rfl, hw⟩ := HCF.out k hlk
      obtain ⟨d0, d1, d2⟩ := hw wr (HB23.out _ hnx2)
      have hst := HSN.out k hlk
      have h64 := HG.out k hlk
      obtain ⟨z, hz⟩ : ∃ z, (cAt CS k).2.1 = z := ⟨_, rfl⟩
      rw [hz] at d1 hst h64
      have hbx : Below W2.heap.size W2 (wr.alloc (.cells #[.int .i64 z0, .int .i64 z, .slice ab nb cb] 64)) := hnx2.alloc hnx2.size _
      obtain ⟨-, -, k9⟩ := KS.out _ hbx
      have hms : G.minus.size ≤ 140737488355328 := by have := HMS.out; omega
      have hpw : Pw (wr.alloc (.cells #[.int .i64 z0, .int .i64 z, .slice ab nb cb] 64)) :=
        Lib.tabBelow_of_tabIs HT.out _ (HB23.out _ hbx)
      have HN := hide (num5 z G.minus hms h64.1 h64.2 _ hpw)
      have OW1 := hown.alloc (.cells #[.int .i64 z0, .int .i64 z, .slice ab nb cb] 64)
      have hn3 : Below w3.heap.size w3 (wr.alloc (.cells #[.int .i64 z0, .int .i64 z, .slice ab nb cb] 64)) := hnx.alloc hnx.size _
      have HN3 := hide hn3
      have HO1 := hide OW1
      have HST := hide hst
      clear hw hz hst hown hnx hnx2 hbx hms hpw h64 HCF HSN HG hn3 OW1
      go_wp2_with fail
      refine HN.out.mono ?_
      rintro e w5 ⟨rfl, hb5⟩
      have hb35 : Below w3.heap.size w3 w5 := HN3.out.trans (hb5.mono HN3.out.size)
      have OW5 := HO1.out.kept (row := none) ⟨hb5.os, hb5.tape, hb5.output, hb5.size, fun q hq _ => hb5.block q hq⟩ (by cases hv : (_ : Value).ownBlock <;> simp)
      have OW2 := OW5.alloc (.cells #[.string (str (numT z G.minus.data.toList))] 9)
      have hb2 := hb35.alloc hb35.size (.cells #[.string (str (numT z G.minus.data.toList))] 9)
      have HBB := hide hb2
      have HSZ : Hid (w3.heap.size ≤ (w5.alloc (.cells #[.string (str (numT z G.minus.data.toList))] 9)).heap.size) := hb2.size
      clear hb2 OW5 hb35 hb5 HN HO1 HN3
      change Hid (w3.heap.size ≤ (w5.alloc (.cells #[.string ⟨(numT z G.minus.data.toList).toArray⟩] 9)).heap.size) at HSZ
      go_wp2_with (at_builtin; refine wpList_append_own _ rfl _ _ 28 rfl w3.heap.size 9 i9 (.string ⟨#[]⟩) 1 16 Tryz.underlying28 hi9 hz90 hz91 hz92 rfl (by decide) _ _ _ rfl OW2 ⟨w5.heap.size, 0, none⟩ 1 1 [.string (str (numT z G.minus.data.toList))] rfl rfl ?c1 ?c2 ?c3 ?c4 ?c5 ?_)
      case c1 =>
        intro j u hj
        match j, hj with
        | 0, hj => simp at hj; subst hj; simp [Addr.add, str]
      case c2 => intro u hu; simp at hu; subst hu; rfl
      case c3 => unfold maxLen; omega
      case c4 => omega
      case c5 => exact HSZ.out
      intro v' w7 hown7 hgrow7 _
      have HB7 : Hid (Below w3.heap.size w3 w7) := hide (HBB.out.grown hgrow7 HSZ.out (fun q hq => (OW2.lt q hq).1))
      have HO7 : Hid (w7.ownsRow w3.heap.size 9 1 v' (k + 1) ((numW G.minus (CS.take (k + 1))).map Value.string)) := hide (by rw [HST.out, List.map_append]; exact hown7)
      clear hown7 hgrow7 OW2 HBB HSZ d0 d1 d2 k9
      go_wp2
      go_roundg (L - (k + 1))
      case rel => exact ⟨k + 1, by omega, by go_num, HB7.out, HO7.out⟩
      case measure => omega
    · have hke : k = L := by omega
      subst hke
      have hlen := HNL.out k (Nat.le_refl _)
      rw [HTK.out] at hown hlen
      obtain ⟨ad, c, rfl, hst⟩ := StrR.own (p := wr.heap.size) (by rw [hlen]; exact hown) (Nat.le_refl _) (by rw [hlen]; omega)
      rw [hlen]
      have HNX := hide (HB23.out _ hnx2)
      have HW0 := hide (Wr.new wr G0 ⟨#[]⟩)
      have HP := hide (put58 (Wr.new wr G0 ⟨#[]⟩) c (hst.next (alloc_one wr (.cells (wC G0 ⟨#[]⟩ false (.pointer none) (.slice none 0 0)) 80))) (by show 0 + (pT false (numW G.minus CS)).length ≤ _; have := HPL.out; omega))
      rw [hlen] at HP
      have HA := hide (alloc_one wr (.cells (wC G0 ⟨#[]⟩ false (.pointer none) (.slice none 0 0)) 80))
      clear hown hst hnx hnx2 HCF HSN HG
      go_wp2_with fail
      refine HP.out.mono ?_
      rintro e w9 ⟨rfl, ⟨a9, v9, h9⟩, k9⟩
      have HS := hide (string26 h9)
      have HK := hide (HNX.out.trans ((HA.out.trans k9.bel).mono HNX.out.size))
      have hle : wr.heap.size ≤ w9.heap.size := Nat.le_of_lt h9.lt
      clear h9 k9 HP
      go_wp2_with fail
      refine HS.out.mono ?_
      rintro e w10 ⟨rfl, hb10⟩
      have HF := hide (HK.out.trans (hb10.mono (HNX.out.size)))
      clear hb10 HS
      go_wp2
      go_ret
      refine ⟨?_, HF.out⟩
      rw [HR.out]
      rfl
theorem literal34 {n lo : Nat} {x : Ar} {va : Value} {G : Gs} {w : World} (hx : ArIn n lo w x va) (hl : x.cells.length ≤ 100000) (hg : txB x = true → ∀ i, i < x.cells.length → Good (cAt x.cells i).2.1) (h64 : ∀ i, i < x.cells.length → I64 (cAt x.cells i).2.1) (hm : G.minus.size ≤ 1000000) (hq : G.quote.size ≤ 1000000) (T : Rn.Tab w) (P : Pw w) :
    Calls Tryz.prog 27 #[va, gV G] w fun e w' => e = .returned (.string (str (litT G x))) ∧ Below w.heap.size w w' := by
  cases ht : txB x with
  | true => exact literal34_text hx hl ht (hg ht) hq T
  | false => exact literal34_num hx hl ht h64 hm P
end Go.Proofs.YtneblkdkhlgmcaaGreatDoor
namespace Go.Proofs.YtneblkdkhlgmcaaGreatDoor
open Go.ChangeShapes Go.WideShapes Go.ChangeAt Go.RowKit
set_option maxRecDepth 100000
set_option linter.unusedVariables false
set_option linter.unusedSimpArgs false
def bL (s : ByteArray) : List UInt8 := s.data.toList
def sep (bg : Bool) : List UInt8 := if bg then [32] else []
/-- In round brackets. -/
def rdT (s : List UInt8) : List UInt8 := 40 :: 32 :: (s ++ [32, 41])
def kp (x : Nd) (i : Nat) : Nd := nAt x.kids i
/-- A function ahead of an operand, given functions. -/
def apF (F : Nd → List UInt8) (x : Nd) : List UInt8 := if x.kind = 26 then rdT (F x) else F x
structure Tx where
  E : ByteArray → Nd → List UInt8
  O : ByteArray → Nd → List UInt8
  F : Nd → List UInt8
def fnT (G : Gs) (t : Tx) (x : Nd) : List UInt8 :=
  if x.kind = 21 then bL x.name
  else if x.kind = 22 ∨ x.kind = 23 then bL G.opn ++ ([32] ++ t.E (if x.kind = 22 ∧ G.lone = true then G.left else G.right) (kp x 0)) ++ ([32] ++ bL G.cls)
  else if x.kind = 24 then t.F (kp x 0) ++ bL x.name
  else if x.kind = 26 then t.F (kp x 0) ++ (bL G.power ++ numT x.op (bL G.minus))
  else if x.kind = 25 then bL G.outer ++ ([32] ++ (if (kp x 0).kind = 24 ∨ (kp x 0).kind = 25 ∨ (kp x 0).kind = 26 then rdT (t.F (kp x 0)) else t.F (kp x 0)))
  else if x.kind = 27 then rdT (t.F (kp x 0) ++ ([32] ++ t.F (kp x 1)) ++ ([32] ++ t.F (kp x 2)))
  else rdT (t.F (kp x 0) ++ ([32] ++ t.F (kp x 1)))
def oneT (G : Gs) (t : Tx) (x : Nd) : List UInt8 :=
  if G.lone = true ∧ x.kind = 26 then numT x.op (bL G.minus) ++ ([32] ++ t.F (kp x 0)) ++ [47] else apF t.F x
def exA (G : Gs) (t : Tx) (rt : ByteArray) (x : Nd) : List UInt8 :=
  if x.kind = 5 then oneT G t (kp x 0) ++ ([32] ++ t.E rt (kp x 1))
  else t.O rt (kp x 1) ++ ([32] ++ apF t.F (kp x 0)) ++ ([32] ++ t.E rt (kp x 2))
def opT (G : Gs) (t : Tx) (rt : ByteArray) (x : Nd) : List UInt8 :=
  if x.kind = 1 then litT G x.lit
  else if x.kind = 2 then bL x.name
  else if x.kind = 3 then bL G.left
  else if x.kind = 4 then bL rt
  else if x.kind = 8 then t.O rt (kp x 0) ++ [32, 91] ++ ([32] ++ t.E rt (kp x 1)) ++ [32, 93]
  else rdT (exA G t rt x)
def TX (G : Gs) : Nat → Tx
  | 0 => ⟨fun _ _ => [], fun _ _ => [], fun _ => []⟩
  | m + 1 => ⟨fun rt x => if x.kind = 5 ∨ x.kind = 6 then exA G (TX G m) rt x else opT G (TX G m) rt x, opT G (TX G m), fnT G (TX G m)⟩
/-- How many parts a node of a kind has; -1: there is no such kind. -/
def arK (k : Int) : Int :=
  if k = 1 ∨ k = 2 ∨ k = 3 ∨ k = 4 ∨ k = 21 then 0
  else if k = 22 ∨ k = 23 ∨ k = 24 ∨ k = 25 ∨ k = 26 then 1
  else if k = 5 ∨ k = 8 ∨ k = 28 then 2
  else if k = 6 ∨ k = 27 then 3
  else -1
/-- Whether a part must be a function. -/
def fnP (k : Int) (i : Nat) : Bool := decide (k = 24 ∨ k = 25 ∨ k = 26 ∨ k = 27 ∨ k = 28 ∨ (i = 0 ∧ (k = 5 ∨ k = 6)))
/-- Whether a program may be written, but for numbers that say how often. -/
def okN : Nat → Bool → Nd → Prop
  | 0, _, _ => False
  | m + 1, f, x => (x.kids.length : Int) = arK x.kind ∧ f = decide (21 ≤ x.kind) ∧ (x.kind = 1 → litB x.lit = true) ∧ ∀ i, i < x.kids.length → okN m (fnP x.kind i) (kp x i)
/-- What a machine holds. -/
def sndN : Nat → Nd → Prop
  | 0, _ => True
  | m + 1, x => I64 x.op ∧ x.lit.cells.length ≤ 100000 ∧ (∀ i, i < x.lit.cells.length → I64 (cAt x.lit.cells i).2.1) ∧ ∀ i, i < x.kids.length → sndN m (kp x i)
def sndA (x : Nd) : Prop := ∀ m, sndN m x
theorem sndA.kid {x : Nd} (h : sndA x) {i : Nat} (hi : i < x.kids.length) : sndA (kp x i) := fun m => (h (m + 1)).2.2.2 i hi
theorem sndA.op {x : Nd} (h : sndA x) : I64 x.op := (h 1).1
theorem okN.deeper {m : Nat} {f : Bool} {x : Nd} (h : okN m f x) : okN (m + 1) f x := by
  induction m generalizing f x with
  | zero => exact h.elim
  | succ m ih =>
    obtain ⟨h1, h2, h3, h4⟩ := h
    exact ⟨h1, h2, h3, fun i hi => ih (h4 i hi)⟩
/-- One word more. -/
theorem put1 {B : Nat} {w : World} {p : Nat} {G : Gs} {rt : ByteArray} {bg : Bool} {out : List UInt8} {a v : Value} (h : Wr B w p G rt bg out a v) (s : ByteArray) (hl : out.length + (sep bg).length + s.size ≤ 140737488355328) :
    Calls Tryz.prog 51 #[.pointer (some ⟨p, 0, none⟩), .slice (some ⟨w.heap.size, 0, none⟩) 1 1] (w.alloc (.cells #[.string s] 9)) (GvT B p G rt true (out ++ (sep bg ++ bL s)) w) := by
  have hs : s.data.toList.length = s.size := by simp
  have e : pT bg [s] = sep bg ++ bL s := by simp [pT, sep, bL]
  have h1 := put58 (h.next (alloc_one w (.cells #[.string s] 9))) (ad := some ⟨w.heap.size, 0, none⟩) (ws := [s]) 1 (StrR.one h.lt s) (by rw [e, List.length_append]; unfold bL; omega)
  refine h1.mono ?_
  rintro e' w' ⟨rfl, ⟨a', v', hw⟩, hk⟩
  rw [e] at hw
  have hb : (bg || !([s] : List ByteArray).isEmpty) = true := by simp
  rw [hb] at hw
  exact ⟨rfl, ⟨a', v', hw⟩, (Wk.of (alloc_one w _) (Nat.le_trans h.hB (Nat.le_of_lt h.lt))).trans hk⟩
/-- One piece more. -/
theorem glue1 {B : Nat} {w : World} {p : Nat} {G : Gs} {rt : ByteArray} {bg : Bool} {out : List UInt8} {a v : Value} (h : Wr B w p G rt bg out a v) (s : ByteArray) (hl : out.length + s.size ≤ 140737488355328) :
    Calls Tryz.prog 88 #[.pointer (some ⟨p, 0, none⟩), .slice (some ⟨w.heap.size, 0, none⟩) 1 1] (w.alloc (.cells #[.string s] 9)) (GvT B p G rt bg (out ++ bL s) w) := by
  have hs : s.data.toList.length = s.size := by simp
  have e : fl [s] = bL s := by simp [fl, bL]
  have h1 := glue62 (h.next (alloc_one w (.cells #[.string s] 9))) (ad := some ⟨w.heap.size, 0, none⟩) (ws := [s]) 1 (StrR.one h.lt s) (by rw [e]; unfold bL; omega)
  refine h1.mono ?_
  rintro e' w' ⟨rfl, ⟨a', v', hw⟩, hk⟩
  rw [e] at hw
  exact ⟨rfl, ⟨a', v', hw⟩, (Wk.of (alloc_one w _) (Nat.le_trans h.hB (Nat.le_of_lt h.lt))).trans hk⟩
theorem GvT.trans {B p : Nat} {G : Gs} {rt : ByteArray} {bg : Bool} {out : List UInt8} {w w1 : World} {e : Ending} {w' : World} (hk : Wk B p w w1) (h : GvT B p G rt bg out w1 e w') : GvT B p G rt bg out w e w' :=
  ⟨h.1, h.2.1, hk.trans h.2.2⟩
end Go.Proofs.YtneblkdkhlgmcaaGreatDoor
namespace Go.Proofs.YtneblkdkhlgmcaaGreatDoor
open Go.ChangeShapes Go.WideShapes Go.ChangeAt Go.RowKit
set_option maxRecDepth 100000
set_option linter.unusedVariables false
set_option linter.unusedSimpArgs false
/-- What stands about a writer all the while. -/
structure Am (w0 : World) (B p : Nat) (G : Gs) : Prop where
  hB : w0.heap.size ≤ B
  tab : Rn.Tab w0
  pw : Pw w0
  hm : G.minus.size ≤ 1000000
  hq : G.quote.size ≤ 1000000
/-- A writer at work: its block, and an elder world below. -/
structure St (w0 : World) (B : Nat) (w : World) (p : Nat) (G : Gs) (rt : ByteArray) (bg : Bool) (out : List UInt8) : Prop where
  am : Am w0 B p G
  old : Below w0.heap.size w0 w
  wr : ∃ a v, Wr B w p G rt bg out a v
theorem St.lt {w0 : World} {B : Nat} {w : World} {p : Nat} {G : Gs} {rt : ByteArray} {bg : Bool} {out : List UInt8} (h : St w0 B w p G rt bg out) : p < w.heap.size := by
  obtain ⟨a, v, hw⟩ := h.wr; exact hw.lt
theorem St.next {w0 : World} {B : Nat} {w w' : World} {p : Nat} {G : Gs} {rt : ByteArray} {bg : Bool} {out : List UInt8} (h : St w0 B w p G rt bg out) (hb : Below w.heap.size w w') : St w0 B w' p G rt bg out := by
  obtain ⟨a, v, hw⟩ := h.wr
  exact ⟨h.am, h.old.trans (hb.mono h.old.size), a, v, hw.next hb⟩
theorem St.wkn {w0 : World} {B : Nat} {w w' : World} {p : Nat} {G : Gs} {rt : ByteArray} {bg : Bool} {out : List UInt8} (h : St w0 B w p G rt bg out) (hb : Below w.heap.size w w') : Wk B p w w' := by
  obtain ⟨a, v, hw⟩ := h.wr
  exact Wk.of hb (Nat.le_trans hw.hB (Nat.le_of_lt hw.lt))
/-- What a call that writes leaves. -/
theorem St.got {w0 : World} {B : Nat} {w : World} {p : Nat} {G : Gs} {rt rt' : ByteArray} {bg bg' : Bool} {out out' : List UInt8} (h : St w0 B w p G rt bg out) {e : Ending} {w' : World} (g : GvT B p G rt' bg' out' w e w') : St w0 B w' p G rt' bg' out' :=
  ⟨h.am, h.old.trans (g.2.2.bel.mono h.am.hB), g.2.1⟩
/-- A box of a call's own, kept. -/
theorem Wk.box {B p : Nat} {w w' : World} (h : Wk B p w w') {q : Nat} {cs : Array Value} {T : TypeId} (hq : w.heap[q]? = some (.cells cs T (0, 0))) (hp : q ≠ p) (hT : T ≠ 5) : w'.heap[q]? = some (.cells cs T (0, 0)) :=
  (h.keep q (lt_heap hq) hp (by rintro ⟨cs', fz, h'⟩; rw [hq] at h'; cases h'; exact hT rfl)).trans hq
/-- One word more, of a writer at work. -/
theorem St.put {w0 : World} {B : Nat} {w : World} {p : Nat} {G : Gs} {rt : ByteArray} {bg : Bool} {out : List UInt8} (h : St w0 B w p G rt bg out) (s : ByteArray) (hl : out.length + (sep bg).length + s.size ≤ 140737488355328) :
    Calls Tryz.prog 51 #[.pointer (some ⟨p, 0, none⟩), .slice (some ⟨w.heap.size, 0, none⟩) 1 1] (w.alloc (.cells #[.string s] 9)) (GvT B p G rt true (out ++ (sep bg ++ bL s)) w) := by
  obtain ⟨a, v, hw⟩ := h.wr
  exact put1 hw s hl
theorem St.glue {w0 : World} {B : Nat} {w : World} {p : Nat} {G : Gs} {rt : ByteArray} {bg : Bool} {out : List UInt8} (h : St w0 B w p G rt bg out) (s : ByteArray) (hl : out.length + s.size ≤ 140737488355328) :
    Calls Tryz.prog 88 #[.pointer (some ⟨p, 0, none⟩), .slice (some ⟨w.heap.size, 0, none⟩) 1 1] (w.alloc (.cells #[.string s] 9)) (GvT B p G rt bg (out ++ bL s) w) := by
  obtain ⟨a, v, hw⟩ := h.wr
  exact glue1 hw s hl
theorem number60 {w0 : World} {B : Nat} {w : World} {p : Nat} {G : Gs} {rt : ByteArray} {bg : Bool} {out : List UInt8} (h : St w0 B w p G rt bg out) (z : Int) (hz : I64 z) :
    Calls Tryz.prog 97 #[.pointer (some ⟨p, 0, none⟩), .int .i64 z] w fun e w' => e = .returned (.string (str (numT z (bL G.minus)))) ∧ Below w.heap.size w w' := by
  obtain ⟨a, v, hw⟩ := h.wr
  have c9 := hw.all.2.1.1
  have HN := hide (num5 z G.minus (by have := h.am.hm; omega) hz.1 hz.2 w (Lib.tabBelow_of_tabIs h.am.pw _ h.old))
  clear hw h
  go_enter Tryz.func97, Tryz.ntmps97
  go_wp2_with fail
  refine HN.out.mono ?_
  rintro e w' ⟨rfl, hb⟩
  go_wp2
  go_ret
  exact ⟨rfl, hb⟩
abbrev sv (k o : Int) (nm : ByteArray) (v1 v2 v3 : Value) (ps : Int) : Array Value := #[.int .i64 k, .int .i64 o, .string nm, v1, v2, v3, .int .i64 ps]
set_option maxHeartbeats 2000000 in
theorem brack63_25 {w0 : World} {B : Nat} {w : World} {p : Nat} {G : Gs} {rt : ByteArray} {bg : Bool} {out : List UInt8} (h : St w0 B w p G rt bg out) (T : List UInt8) (k o : Int) (nm : ByteArray) (v1 v2 v3 : Value) (h1 : v1.cells.size = 1) (ps : Int)
    (hl : out.length + (sep bg).length + (rdT T).length ≤ 140737488355328)
    (hc : ∀ w1 out1, St w0 B w1 p G rt true out1 → out1.length + 1 + T.length ≤ 140737488355328 → Calls Tryz.prog 34 #[.pointer (some ⟨p, 0, none⟩), .agg (sv k o nm v1 v2 v3 ps)] w1 (GvT B p G rt true (out1 ++ ([32] ++ T)) w1)) :
    Calls Tryz.prog 99 #[.pointer (some ⟨p, 0, none⟩), .agg (sv k o nm v1 v2 v3 ps), .func (.func 34) #[.pointer (some ⟨p, 0, none⟩)] #[]] w (GvT B p G rt true (out ++ (sep bg ++ rdT T)) w) := by
  obtain ⟨W1, hW1⟩ : ∃ W1, w.alloc (.cells (sv k o nm v1 v2 v3 ps) 42) = W1 := ⟨_, rfl⟩
  have hb1 : Below w.heap.size w W1 := by rw [← hW1]; exact alloc_one _ _
  have s1 : W1.heap.size = w.heap.size + 1 := by rw [← hW1]; simp
  have hbx : W1.heap[w.heap.size]? = some (.cells (sv k o nm v1 v2 v3 ps) 42 (0, 0)) := by rw [← hW1]; exact heap_alloc_new w _
  have hlr : (rdT T).length = T.length + 4 := by simp [rdT]
  have hse : (sep true).length = 1 := rfl
  have hs1 : (⟨#[40]⟩ : ByteArray).size = 1 := rfl
  have hs2 : (⟨#[41]⟩ : ByteArray).size = 1 := rfl
  have hql : w.heap.size ≠ p := Nat.ne_of_gt h.lt
  have H1 := hide (h.next hb1)
  have HK1 := hide (h.wkn hb1)
  have HP := hide ((h.next hb1).put ⟨#[40]⟩ (by omega))
  rw [s1] at HP
  have HBX := hide hbx
  have hv1 : sep bg ++ rdT T = (sep bg ++ bL ⟨#[40]⟩) ++ ([32] ++ T) ++ ([32] ++ bL ⟨#[41]⟩) := by simp [rdT, bL]
  rw [hv1]
  clear hb1 hbx h hv1
  go_enter Tryz.func99, Tryz.ntmps99
  go_wp2_with fail
  refine HP.out.mono ?_
  rintro e w2 g2
  have H2 := hide (H1.out.got g2)
  have HK2 := hide (HK1.out.trans g2.2.2)
  have hb2 := g2.2.2.box HBX.out hql (by decide)
  have HB2 := hide hb2
  obtain rfl := g2.1
  have k0 : w2.cell? ⟨w.heap.size, 0, none⟩ = some (.int .i64 k) := (Lib.cell_of_heap hb2 0).trans rfl
  have k1 : w2.cell? ⟨w.heap.size, 1, none⟩ = some (.int .i64 o) := (Lib.cell_of_heap hb2 1).trans rfl
  have k2 : w2.cell? ⟨w.heap.size, 2, none⟩ = some (.string nm) := (Lib.cell_of_heap hb2 2).trans rfl
  have k3 : w2.cell? ⟨w.heap.size, 3, none⟩ = some (v1) := (Lib.cell_of_heap hb2 3).trans rfl
  have k4 : w2.cell? ⟨w.heap.size, 4, none⟩ = some (v2) := (Lib.cell_of_heap hb2 4).trans rfl
  have k5 : w2.cell? ⟨w.heap.size, 5, none⟩ = some (v3) := (Lib.cell_of_heap hb2 5).trans rfl
  have k6 : w2.cell? ⟨w.heap.size, 6, none⟩ = some (.int .i64 ps) := (Lib.cell_of_heap hb2 6).trans rfl
  have HC := hide (hc w2 _ H2.out (by rw [List.length_append, List.length_append]; show _ + (_ + 1) + 1 + _ ≤ _; omega))
  clear g2 hb2 HP H1 HK1 HBX
  go_wp2_with fail
  refine HC.out.mono ?_
  rintro e w3 g3
  have H3 := hide (H2.out.got g3)
  have HK3 := hide (HK2.out.trans g3.2.2)
  obtain rfl := g3.1
  have HQ := hide (H3.out.put ⟨#[41]⟩ (by rw [List.length_append, List.length_append, List.length_append, List.length_append]; show _ + (_ + 1) + (1 + _) + _ + _ ≤ _; omega))
  clear g3 HC H2 HK2 k0 k1 k2 k3 k4 k5 k6
  go_wp2_with fail
  refine HQ.out.mono ?_
  rintro e w4 ⟨rfl, hx, hk⟩
  have HF := hide (And.intro hx (HK3.out.trans hk))
  clear hx hk HQ H3 HK3
  go_wp2
  go_end0
  refine ⟨rfl, ?_, HF.out.2⟩
  have hx := HF.out.1
  simpa [sep, List.append_assoc] using hx
set_option maxHeartbeats 2000000 in
theorem brack63_61 {w0 : World} {B : Nat} {w : World} {p : Nat} {G : Gs} {rt : ByteArray} {bg : Bool} {out : List UInt8} (h : St w0 B w p G rt bg out) (T : List UInt8) (k o : Int) (nm : ByteArray) (v1 v2 v3 : Value) (h1 : v1.cells.size = 1) (ps : Int)
    (hl : out.length + (sep bg).length + (rdT T).length ≤ 140737488355328)
    (hc : ∀ w1 out1, St w0 B w1 p G rt true out1 → out1.length + 1 + T.length ≤ 140737488355328 → Calls Tryz.prog 98 #[.pointer (some ⟨p, 0, none⟩), .agg (sv k o nm v1 v2 v3 ps)] w1 (GvT B p G rt true (out1 ++ ([32] ++ T)) w1)) :
    Calls Tryz.prog 99 #[.pointer (some ⟨p, 0, none⟩), .agg (sv k o nm v1 v2 v3 ps), .func (.func 98) #[.pointer (some ⟨p, 0, none⟩)] #[]] w (GvT B p G rt true (out ++ (sep bg ++ rdT T)) w) := by
  obtain ⟨W1, hW1⟩ : ∃ W1, w.alloc (.cells (sv k o nm v1 v2 v3 ps) 42) = W1 := ⟨_, rfl⟩
  have hb1 : Below w.heap.size w W1 := by rw [← hW1]; exact alloc_one _ _
  have s1 : W1.heap.size = w.heap.size + 1 := by rw [← hW1]; simp
  have hbx : W1.heap[w.heap.size]? = some (.cells (sv k o nm v1 v2 v3 ps) 42 (0, 0)) := by rw [← hW1]; exact heap_alloc_new w _
  have hlr : (rdT T).length = T.length + 4 := by simp [rdT]
  have hse : (sep true).length = 1 := rfl
  have hs1 : (⟨#[40]⟩ : ByteArray).size = 1 := rfl
  have hs2 : (⟨#[41]⟩ : ByteArray).size = 1 := rfl
  have hql : w.heap.size ≠ p := Nat.ne_of_gt h.lt
  have H1 := hide (h.next hb1)
  have HK1 := hide (h.wkn hb1)
  have HP := hide ((h.next hb1).put ⟨#[40]⟩ (by omega))
  rw [s1] at HP
  have HBX := hide hbx
  have hv1 : sep bg ++ rdT T = (sep bg ++ bL ⟨#[40]⟩) ++ ([32] ++ T) ++ ([32] ++ bL ⟨#[41]⟩) := by simp [rdT, bL]
  rw [hv1]
  clear hb1 hbx h hv1
  go_enter Tryz.func99, Tryz.ntmps99
  go_wp2_with fail
  refine HP.out.mono ?_
  rintro e w2 g2
  have H2 := hide (H1.out.got g2)
  have HK2 := hide (HK1.out.trans g2.2.2)
  have hb2 := g2.2.2.box HBX.out hql (by decide)
  have HB2 := hide hb2
  obtain rfl := g2.1
  have k0 : w2.cell? ⟨w.heap.size, 0, none⟩ = some (.int .i64 k) := (Lib.cell_of_heap hb2 0).trans rfl
  have k1 : w2.cell? ⟨w.heap.size, 1, none⟩ = some (.int .i64 o) := (Lib.cell_of_heap hb2 1).trans rfl
  have k2 : w2.cell? ⟨w.heap.size, 2, none⟩ = some (.string nm) := (Lib.cell_of_heap hb2 2).trans rfl
  have k3 : w2.cell? ⟨w.heap.size, 3, none⟩ = some (v1) := (Lib.cell_of_heap hb2 3).trans rfl
  have k4 : w2.cell? ⟨w.heap.size, 4, none⟩ = some (v2) := (Lib.cell_of_heap hb2 4).trans rfl
  have k5 : w2.cell? ⟨w.heap.size, 5, none⟩ = some (v3) := (Lib.cell_of_heap hb2 5).trans rfl
  have k6 : w2.cell? ⟨w.heap.size, 6, none⟩ = some (.int .i64 ps) := (Lib.cell_of_heap hb2 6).trans rfl
  have HC := hide (hc w2 _ H2.out (by rw [List.length_append, List.length_append]; show _ + (_ + 1) + 1 + _ ≤ _; omega))
  clear g2 hb2 HP H1 HK1 HBX
  go_wp2_with fail
  refine HC.out.mono ?_
  rintro e w3 g3
  have H3 := hide (H2.out.got g3)
  have HK3 := hide (HK2.out.trans g3.2.2)
  obtain rfl := g3.1
  have HQ := hide (H3.out.put ⟨#[41]⟩ (by rw [List.length_append, List.length_append, List.length_append, List.length_append]; show _ + (_ + 1) + (1 + _) + _ + _ ≤ _; omega))
  clear g3 HC H2 HK2 k0 k1 k2 k3 k4 k5 k6
  go_wp2_with fail
  refine HQ.out.mono ?_
  rintro e w4 ⟨rfl, hx, hk⟩
  have HF := hide (And.intro hx (HK3.out.trans hk))
  clear hx hk HQ H3 HK3
  go_wp2
  go_end0
  refine ⟨rfl, ?_, HF.out.2⟩
  have hx := HF.out.1
  simpa [sep, List.append_assoc] using hx
theorem nd_form {m n lo : Nat} {w : World} {x : Nd} {v : Value} (h : NdIn m n lo w x v) : ∃ v1 v2 v3, v = .agg (sv x.kind x.op x.name v1 v2 v3 x.pos) ∧ v1.cells.size = 1 := by
  cases m with
  | zero => exact h.elim
  | succ m =>
    obtain ⟨a1, c1, a2, c2, ak, ck, hv, -⟩ := h
    exact ⟨_, _, _, hv, rfl⟩
/-- Seven cells of a node from a place on. -/
def Sv7 (W : World) (b d : Nat) (k o : Int) (nm : ByteArray) (u1 u2 u3 : Value) (ps : Int) : Prop :=
  W.cell? ⟨b, d, none⟩ = some (.int .i64 k) ∧ W.cell? ⟨b, d + 1, none⟩ = some (.int .i64 o) ∧ W.cell? ⟨b, d + 2, none⟩ = some (.string nm) ∧ W.cell? ⟨b, d + 3, none⟩ = some u1 ∧ W.cell? ⟨b, d + 4, none⟩ = some u2 ∧ W.cell? ⟨b, d + 5, none⟩ = some u3 ∧ W.cell? ⟨b, d + 6, none⟩ = some (.int .i64 ps)
theorem nd_kids {m n : Nat} {w : World} {x : Nd} {v : Value} (h : NdIn (m + 1) n 0 w x v) : ∃ v1 v2 ak ck, v = .agg (sv x.kind x.op x.name v1 v2 (.slice ak x.kids.length ck) x.pos) ∧ v1.cells.size = 1 ∧ ArIn n 0 w x.lit (.agg #[v1, v2]) ∧
    ∀ j, j < x.kids.length → ∃ b off u1 u2 u3, ak = some ⟨b, off, none⟩ ∧ NdIn m n 0 w (kp x j) (.agg (sv (kp x j).kind (kp x j).op (kp x j).name u1 u2 u3 (kp x j).pos)) ∧ ∀ W, Below w.heap.size w W → Sv7 W b (off + j * 7) (kp x j).kind (kp x j).op (kp x j).name u1 u2 u3 (kp x j).pos := by
  obtain ⟨a1, c1, a2, c2, ak, ck, hv, hA, -, -, hc⟩ := h
  refine ⟨_, _, ak, ck, hv, rfl, hA, fun j hj => ?_⟩
  rcases hc with hc | ⟨b, off, ha, hlo, hb, hc⟩
  · rw [hc] at hj; exact absurd hj (by simp)
  · obtain ⟨d1, e1, d2, e2, dk, ek, s7, hk⟩ := hc j hj
    exact ⟨b, off, _, _, _, ha, hk, fun W hW => s7.next hW hb⟩
theorem sep_true : sep true = [32] := rfl
theorem sep_le (bg : Bool) : (sep bg).length ≤ 1 := by cases bg <;> simp [sep]
/-- What the writer of a function promises. -/
def CF (n m : Nat) (w0 : World) (B p : Nat) (G : Gs) : Prop := ∀ (rt : ByteArray) (bg : Bool) (out : List UInt8) (w : World) (x : Nd) (v : Value), NdIn m n 0 w0 x v → okN m true x → sndA x → St w0 B w p G rt bg out → out.length + 1 + ((TX G m).F x).length ≤ 140737488355328 →
  Calls Tryz.prog 98 #[.pointer (some ⟨p, 0, none⟩), v] w (GvT B p G rt true (out ++ (sep bg ++ (TX G m).F x)) w)
/-- What the writer of an expression promises. -/
def CE (n m : Nat) (w0 : World) (B p : Nat) (G : Gs) : Prop := ∀ (rt : ByteArray) (bg : Bool) (out : List UInt8) (w : World) (x : Nd) (v : Value), NdIn m n 0 w0 x v → okN m false x → sndA x → St w0 B w p G rt bg out → out.length + 1 + ((TX G m).E rt x).length ≤ 140737488355328 →
  Calls Tryz.prog 34 #[.pointer (some ⟨p, 0, none⟩), v] w (GvT B p G rt true (out ++ (sep bg ++ (TX G m).E rt x)) w)
/-- What the writer of an operand promises. -/
def CO (n m : Nat) (w0 : World) (B p : Nat) (G : Gs) : Prop := ∀ (rt : ByteArray) (bg : Bool) (out : List UInt8) (w : World) (x : Nd) (v : Value), NdIn m n 0 w0 x v → okN m false x → sndA x → St w0 B w p G rt bg out → out.length + 1 + ((TX G m).O rt x).length ≤ 140737488355328 →
  Calls Tryz.prog 63 #[.pointer (some ⟨p, 0, none⟩), v] w (GvT B p G rt true (out ++ (sep bg ++ (TX G m).O rt x)) w)
set_option maxHeartbeats 2000000 in
theorem ahead41 {n m : Nat} {w0 : World} {B p : Nat} {G : Gs} (IF : CF n m w0 B p G) (rt : ByteArray) (bg : Bool) (out : List UInt8) (w : World) (x : Nd) (v : Value) (hx : NdIn m n 0 w0 x v) (hk : okN m true x) (hs : sndA x) (h : St w0 B w p G rt bg out) (hl : out.length + 1 + (apF (TX G m).F x).length ≤ 140737488355328) :
    Calls Tryz.prog 64 #[.pointer (some ⟨p, 0, none⟩), v] w (GvT B p G rt true (out ++ (sep bg ++ apF (TX G m).F x)) w) := by
  obtain ⟨v1, v2, v3, rfl, hv1⟩ := nd_form hx
  have HF := hide (fun bg out w (hst : St w0 B w p G rt bg out) hl => IF rt bg out w x _ hx hk hs hst hl)
  have HAP : Hid ((x.kind = 26 → apF (TX G m).F x = rdT ((TX G m).F x)) ∧ (x.kind ≠ 26 → apF (TX G m).F x = (TX G m).F x)) := hide (by
    unfold apF
    exact ⟨fun h => by rw [if_pos h], fun h => by rw [if_neg h]⟩)
  obtain ⟨T, hT⟩ : ∃ T, apF (TX G m).F x = T := ⟨_, rfl⟩
  obtain ⟨FT, hFT⟩ : ∃ FT, (TX G m).F x = FT := ⟨_, rfl⟩
  rw [hT] at HAP hl ⊢
  rw [hFT] at HAP HF
  have hse := sep_le bg
  generalize x.kind = k at *
  generalize x.op = o at *
  generalize x.name = nm at *
  generalize x.pos = ps at *
  clear hT hFT hx hk hs IF
  obtain ⟨W1, hW1⟩ : ∃ W1, w.alloc (.cells (sv k o nm v1 v2 v3 ps) 42) = W1 := ⟨_, rfl⟩
  have hb1 : Below w.heap.size w W1 := by rw [← hW1]; exact alloc_one _ _
  have s1 : W1.heap.size = w.heap.size + 1 := by rw [← hW1]; simp
  have hbx : W1.heap[w.heap.size]? = some (.cells (sv k o nm v1 v2 v3 ps) 42 (0, 0)) := by rw [← hW1]; exact heap_alloc_new w _
  have hql : w.heap.size ≠ p := Nat.ne_of_gt h.lt
  have H1 := hide (h.next hb1)
  have HK1 := hide (h.wkn hb1)
  have HBX := hide hbx
  have k0 : W1.cell? ⟨w.heap.size, 0, none⟩ = some (.int .i64 k) := (Lib.cell_of_heap hbx 0).trans rfl
  have k1 : W1.cell? ⟨w.heap.size, 1, none⟩ = some (.int .i64 o) := (Lib.cell_of_heap hbx 1).trans rfl
  have k2 : W1.cell? ⟨w.heap.size, 2, none⟩ = some (.string nm) := (Lib.cell_of_heap hbx 2).trans rfl
  have k3 : W1.cell? ⟨w.heap.size, 3, none⟩ = some (v1) := (Lib.cell_of_heap hbx 3).trans rfl
  have k4 : W1.cell? ⟨w.heap.size, 4, none⟩ = some (v2) := (Lib.cell_of_heap hbx 4).trans rfl
  have k5 : W1.cell? ⟨w.heap.size, 5, none⟩ = some (v3) := (Lib.cell_of_heap hbx 5).trans rfl
  have k6 : W1.cell? ⟨w.heap.size, 6, none⟩ = some (.int .i64 ps) := (Lib.cell_of_heap hbx 6).trans rfl
  clear hb1 hbx
  by_cases h26 : k = 26
  · subst h26
    obtain rfl := HAP.out.1 rfl
    have hlr : (rdT FT).length = FT.length + 4 := by simp [rdT]
    have HC := hide (brack63_61 (h.next (by rw [← hW1]; exact alloc_one _ _) : St w0 B W1 p G rt bg out) FT 26 o nm v1 v2 v3 hv1 ps (by omega) (fun w1 out1 hst hb => HF.out true out1 w1 hst hb))
    clear h HF
    go_enter Tryz.func64, Tryz.ntmps64
    go_wp2_with fail
    refine HC.out.mono ?_
    rintro e w2 ⟨rfl, hx, hk⟩
    have HF := hide (And.intro hx (HK1.out.trans hk))
    clear hx hk HC
    go_wp2
    go_end0
    exact ⟨rfl, HF.out⟩
  · obtain rfl := HAP.out.2 h26
    have h26' : (k == 26) = false := beq_eq_false_iff_ne.2 h26
    have HC := hide (HF.out bg out W1 H1.out (by omega))
    clear h HF
    go_enter Tryz.func64, Tryz.ntmps64
    go_wp2_with fail
    refine HC.out.mono ?_
    rintro e w2 ⟨rfl, hx, hk⟩
    have HF := hide (And.intro hx (HK1.out.trans hk))
    clear hx hk HC
    go_wp2
    go_end0
    exact ⟨rfl, HF.out⟩
set_option maxHeartbeats 4000000 in
theorem one39 {n m : Nat} {w0 : World} {B p : Nat} {G : Gs} (IF : CF n m w0 B p G) (rt : ByteArray) (bg : Bool) (out : List UInt8) (w : World) (x : Nd) (v : Value) (hx : NdIn m n 0 w0 x v) (hk : okN m true x) (hs : sndA x) (h : St w0 B w p G rt bg out) (hl : out.length + 1 + (oneT G (TX G m) x).length ≤ 140737488355328) :
    Calls Tryz.prog 62 #[.pointer (some ⟨p, 0, none⟩), v] w (GvT B p G rt true (out ++ (sep bg ++ oneT G (TX G m) x)) w) := by
  cases m with
  | zero => exact hx.elim
  | succ m =>
  have HA := hide (fun W (hst : St w0 B W p G rt bg out) hl => ahead41 IF rt bg out W x v hx hk hs hst hl)
  have hsx := hs
  obtain ⟨v1, v2, ak, ck, rfl, hv1, -, hkid⟩ := nd_kids hx
  have hse := sep_le bg
  by_cases hc : G.lone = true ∧ x.kind = 26
  · obtain ⟨hlo, h26⟩ := hc
    have hT : oneT G (TX G (m + 1)) x = numT x.op (bL G.minus) ++ ([32] ++ (TX G (m + 1)).F (kp x 0)) ++ [47] := by unfold oneT; rw [if_pos ⟨hlo, h26⟩]
    have hkl : x.kids.length = 1 := by have := hk.1; rw [h26] at this; unfold arK at this; simp at this; omega
    obtain ⟨b, off, u1, u2, u3, rfl, hnk, h7⟩ := hkid 0 (by omega)
    have hok := (hk.2.2.2 0 (by omega)).deeper
    rw [h26] at hok
    have hsk := hsx.kid (i := 0) (by omega)
    have HF := hide (fun out w (hst : St w0 B w p G rt true out) hl => IF rt true out w (kp x 0) _ hnk.deeper hok hsk hst hl)
    rw [hT] at hl ⊢
    have H7 : Hid (∀ W, Below w0.heap.size w0 W → Sv7 W b off (kp x 0).kind (kp x 0).op (kp x 0).name u1 u2 u3 (kp x 0).pos) := hide (by simpa only [Nat.zero_mul, Nat.add_zero] using h7)
    have ho := hs.op
    rw [h26, hkl] at HA ⊢
    obtain ⟨FT, hFT⟩ : ∃ FT, (TX G (m + 1)).F (kp x 0) = FT := ⟨_, rfl⟩
    rw [hFT] at HF hl ⊢
    have hNL : (numT x.op (bL G.minus)).length ≤ 140737488355328 := by rw [List.length_append, List.length_append] at hl; omega
    obtain ⟨NT, hNT⟩ : ∃ NT, numT x.op (bL G.minus) = NT := ⟨_, rfl⟩
    rw [hNT] at hl hNL ⊢
    simp only [List.length_append, List.length_cons, List.length_nil] at hl
    generalize (kp x 0).kind = k' at *
    generalize (kp x 0).op = o' at *
    generalize (kp x 0).name = nm' at *
    generalize (kp x 0).pos = ps' at *
    have HNT := hide hNT
    generalize x.op = o at *
    generalize x.name = nm at *
    generalize x.pos = ps at *
    clear hx hk hs hsx hnk h7 hok hsk IF hkid hT h26 hkl hFT hNT HA
    obtain ⟨W1, hW1⟩ : ∃ W1, w.alloc (.cells (sv 26 o nm v1 v2 (.slice (some ⟨b, off, none⟩) 1 ck) ps) 42) = W1 := ⟨_, rfl⟩
    have hb1 : Below w.heap.size w W1 := by rw [← hW1]; exact alloc_one _ _
    have s1 : W1.heap.size = w.heap.size + 1 := by rw [← hW1]; simp
    have hbx : W1.heap[w.heap.size]? = some (.cells (sv 26 o nm v1 v2 (.slice (some ⟨b, off, none⟩) 1 ck) ps) 42 (0, 0)) := by rw [← hW1]; exact heap_alloc_new w _
    have hql : w.heap.size ≠ p := Nat.ne_of_gt h.lt
    have H1 := hide (h.next hb1)
    have HK1 := hide (h.wkn hb1)
    have HBX := hide hbx
    have k0 : W1.cell? ⟨w.heap.size, 0, none⟩ = some (.int .i64 26) := (Lib.cell_of_heap hbx 0).trans rfl
    have k1 : W1.cell? ⟨w.heap.size, 1, none⟩ = some (.int .i64 o) := (Lib.cell_of_heap hbx 1).trans rfl
    have k2 : W1.cell? ⟨w.heap.size, 2, none⟩ = some (.string nm) := (Lib.cell_of_heap hbx 2).trans rfl
    have k3 : W1.cell? ⟨w.heap.size, 3, none⟩ = some (v1) := (Lib.cell_of_heap hbx 3).trans rfl
    have k4 : W1.cell? ⟨w.heap.size, 4, none⟩ = some (v2) := (Lib.cell_of_heap hbx 4).trans rfl
    have k5 : W1.cell? ⟨w.heap.size, 5, none⟩ = some (.slice (some ⟨b, off, none⟩) 1 ck) := (Lib.cell_of_heap hbx 5).trans rfl
    have k6 : W1.cell? ⟨w.heap.size, 6, none⟩ = some (.int .i64 ps) := (Lib.cell_of_heap hbx 6).trans rfl
    obtain ⟨aw, vw, hw⟩ := H1.out.wr
    have c12 : W1.cell? ⟨p, 12, none⟩ = some (.bool true) := by rw [hw.all.2.1.2.2.1, hlo]
    have HN := hide (number60 H1.out o ho)
    clear hb1 hbx hw
    go_enter Tryz.func62, Tryz.ntmps62
    go_wp2_with fail
    refine HN.out.mono ?_
    rintro e w2 ⟨rfl, hb2⟩
    rw [HNT.out]
    have H2 := hide (H1.out.next hb2)
    have HK2 := hide (HK1.out.trans (H1.out.wkn hb2))
    have HB2 := hide ((H1.out.wkn hb2).box HBX.out hql (by decide))
    have HP := hide (H2.out.put (str NT) (by show _ + _ + (str NT).data.size ≤ _; simp only [str, List.size_toArray]; omega))
    clear hb2 HN H1 HK1 HBX k0 k1 k2 k3 k4 k5 k6 c12
    go_wp2_with fail
    refine HP.out.mono ?_
    rintro e w3 g3
    have H3 := hide (H2.out.got g3)
    have HK3 := hide (HK2.out.trans g3.2.2)
    have hb3 := g3.2.2.box HB2.out hql (by decide)
    have HB3 := hide hb3
    obtain rfl := g3.1
    clear g3 HP
    have k0 : w3.cell? ⟨w.heap.size, 0, none⟩ = some (.int .i64 26) := (Lib.cell_of_heap hb3 0).trans rfl
    have k1 : w3.cell? ⟨w.heap.size, 1, none⟩ = some (.int .i64 o) := (Lib.cell_of_heap hb3 1).trans rfl
    have k2 : w3.cell? ⟨w.heap.size, 2, none⟩ = some (.string nm) := (Lib.cell_of_heap hb3 2).trans rfl
    have k3 : w3.cell? ⟨w.heap.size, 3, none⟩ = some (v1) := (Lib.cell_of_heap hb3 3).trans rfl
    have k4 : w3.cell? ⟨w.heap.size, 4, none⟩ = some (v2) := (Lib.cell_of_heap hb3 4).trans rfl
    have k5 : w3.cell? ⟨w.heap.size, 5, none⟩ = some (.slice (some ⟨b, off, none⟩) 1 ck) := (Lib.cell_of_heap hb3 5).trans rfl
    have k6 : w3.cell? ⟨w.heap.size, 6, none⟩ = some (.int .i64 ps) := (Lib.cell_of_heap hb3 6).trans rfl
    clear hb3
    obtain ⟨y0, y1, y2, y3, y4, y5, y6⟩ := H7.out w3 H3.out.old
    have HC := hide (HF.out _ w3 H3.out (by simp [bL, str, sep_true]; omega))
    go_wp2_with fail
    refine HC.out.mono ?_
    rintro e w4 g4
    have H4 := hide (H3.out.got g4)
    have HK4 := hide (HK3.out.trans g4.2.2)
    have hb4 := g4.2.2.box HB3.out hql (by decide)
    have HB4 := hide hb4
    obtain rfl := g4.1
    clear g4 HC k0 k1 k2 k3 k4 k5 k6 y0 y1 y2 y3 y4 y5 y6
    clear hb4
    have HC := hide (H4.out.glue ⟨#[47]⟩ (by simp [bL, str, sep_true]; show _ + 1 ≤ _; omega))
    go_wp2_with fail
    refine HC.out.mono ?_
    rintro e w9 ⟨rfl, hx9, hk9⟩
    have HF9 := hide (And.intro hx9 (HK4.out.trans hk9))
    clear hx9 hk9 HC 
    go_wp2
    go_end0
    refine ⟨rfl, ?_, HF9.out.2⟩
    have hx := HF9.out.1
    simpa [sep, rdT, bL, str, List.append_assoc] using hx
  · have hT : oneT G (TX G (m + 1)) x = apF (TX G (m + 1)).F x := by unfold oneT; rw [if_neg hc]
    rw [hT] at hl ⊢
    obtain ⟨FT, hFT⟩ : ∃ FT, apF (TX G (m + 1)).F x = FT := ⟨_, rfl⟩
    rw [hFT] at HA hl ⊢
    generalize hk' : x.kind = k at *
    generalize x.op = o at *
    generalize x.name = nm at *
    generalize x.pos = ps at *
    generalize x.kids.length = KL at *
    obtain ⟨LO, hLO⟩ : ∃ LO, G.lone = LO := ⟨_, rfl⟩
    rw [hLO] at hc
    clear hx hk hs hsx IF hkid hT hk' hFT
    obtain ⟨W1, hW1⟩ : ∃ W1, w.alloc (.cells (sv (k) (o) nm (v1) (v2) (.slice ak KL ck) (ps)) 42) = W1 := ⟨_, rfl⟩
    have hb1 : Below w.heap.size w W1 := by rw [← hW1]; exact alloc_one _ _
    have s1 : W1.heap.size = w.heap.size + 1 := by rw [← hW1]; simp
    have hbx : W1.heap[w.heap.size]? = some (.cells (sv (k) (o) nm (v1) (v2) (.slice ak KL ck) (ps)) 42 (0, 0)) := by rw [← hW1]; exact heap_alloc_new w _
    have hql : w.heap.size ≠ p := Nat.ne_of_gt h.lt
    have H1 := hide (h.next hb1)
    have HK1 := hide (h.wkn hb1)
    have HB1 := hide hbx
    have k0 : W1.cell? ⟨w.heap.size, 0, none⟩ = some (.int .i64 k) := (Lib.cell_of_heap hbx 0).trans rfl
    have k1 : W1.cell? ⟨w.heap.size, 1, none⟩ = some (.int .i64 o) := (Lib.cell_of_heap hbx 1).trans rfl
    have k2 : W1.cell? ⟨w.heap.size, 2, none⟩ = some (.string nm) := (Lib.cell_of_heap hbx 2).trans rfl
    have k3 : W1.cell? ⟨w.heap.size, 3, none⟩ = some (v1) := (Lib.cell_of_heap hbx 3).trans rfl
    have k4 : W1.cell? ⟨w.heap.size, 4, none⟩ = some (v2) := (Lib.cell_of_heap hbx 4).trans rfl
    have k5 : W1.cell? ⟨w.heap.size, 5, none⟩ = some (.slice ak KL ck) := (Lib.cell_of_heap hbx 5).trans rfl
    have k6 : W1.cell? ⟨w.heap.size, 6, none⟩ = some (.int .i64 ps) := (Lib.cell_of_heap hbx 6).trans rfl
    clear hb1 hbx
    obtain ⟨aw, vw, hw⟩ := H1.out.wr
    have c12 : W1.cell? ⟨p, 12, none⟩ = some (.bool LO) := by rw [hw.all.2.1.2.2.1, hLO]
    have HC := hide (HA.out W1 H1.out hl)
    clear hw HA hLO h
    cases LO with
    | false =>
      go_enter Tryz.func62, Tryz.ntmps62
      go_wp2_with fail
      refine HC.out.mono ?_
      rintro e w9 ⟨rfl, hx9, hk9⟩
      have HF9 := hide (And.intro hx9 (HK1.out.trans hk9))
      clear hx9 hk9 HC 
      go_wp2
      go_end0
      refine ⟨rfl, ?_, HF9.out.2⟩
      have hx := HF9.out.1
      simpa [sep, rdT, bL, str, List.append_assoc] using hx
    | true =>
      have h26 : (k != 26) = true := bne_iff_ne.2 (fun h9 => hc ⟨rfl, h9⟩)
      have h26' : (k == 26) = false := beq_eq_false_iff_ne.2 (fun h9 => hc ⟨rfl, h9⟩)
      go_enter Tryz.func62, Tryz.ntmps62
      go_wp2_with fail
      refine HC.out.mono ?_
      rintro e w9 ⟨rfl, hx9, hk9⟩
      have HF9 := hide (And.intro hx9 (HK1.out.trans hk9))
      clear hx9 hk9 HC 
      go_wp2
      go_end0
      refine ⟨rfl, ?_, HF9.out.2⟩
      have hx := HF9.out.1
      simpa [sep, rdT, bL, str, List.append_assoc] using hx
end Go.Proofs.YtneblkdkhlgmcaaGreatDoor
