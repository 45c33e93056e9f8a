/-
  Bytes of a sign behind those that are there: the contracts of group and grow of layer 2.
  The contract of Write of layer 2: the signs' bytes in memory of its own, or ErrUtf8.
  The contracts of layer 3's Place and Places, and of the document's: which cell stands at places, where a cell stands, for all shapes; and of the statements' own comparison of two lists of numbers.
  The contracts of the document's Place, of layer 3's Places and the document's, and of the statements' own comparison of two lists of numbers; for all shapes.
  The contracts of the document's Check and of layer 3's; for all arrays.
  Literals: whether an array can be written as it is, by both; for all arrays.
  Signs between two quotes: what stands ahead of a sign, the signs' bytes; the contracts of isText, guard and signs; for all cells whose signs are good.
  The signs between two quotes as a string: the contract of signs; for all cells whose signs are good.
  An array as a text: the contracts of literal and Literal; for all arrays that can be written.
  Literal of layer 16: an array as a text, or that it can't be written; for all arrays.
  The document's own Put: a sign's bytes in new memory.
  The document's own Literal: an array as a text, or that it can't be written; for all arrays.
-/
import Derived.Test.YtneblkdkhlgmcaaDoorM0
import Derived.Shelf.Strconv.Itoa4
import Derived.Test.YtneblkdkhlgmcaaDoorProg
import Derived.WalkKit
import Derived.Test.YtneblkdkhlgmcaaDoorChecked
import GoSem.Claim
import GoSem.ClaimJoined
import GoSem.ClaimMapViews
import Derived.JoinedTies
import Derived.KernelRfl
import Derived.ProofKit
import Derived.Below
import Derived.Deep.OwnRows
import Derived.Deep.QuietTactic
import Derived.BigQuiet
import Derived.Deep.RegionWith
import Derived.Lib.AppendIntMem
import Derived.Lib.ConvBytes
import Derived.Lib.Builder
import Derived.Lib.AppendStr
import Derived.Lib.UnsafeStr
import Derived.Deep.LoopGhost
import Derived.Deep.RegionHeld3
import Derived.Lib.MakeNoZero
import Derived.Laws.MakeOwn
import Derived.Laws.BitsAllLaws
import Derived.Lib.Bits
import Derived.Deep.Cut
import Derived.Deep.MidRow
import Derived.OpenShut
import Derived.ChangeOld
import Derived.SizedLaws
import Derived.Deep.Slices
import Derived.Deep.Strs
import Derived.Deep.RegionLaw
import GoSem.ClaimSeven
import Derived.LaidByTextLater
import Derived.SevenTiedAt
import Derived.LaidSub
import Derived.LaidOnce
import Derived.Deep.DeepHandedRow
import Derived.Lib.LaidTab
import Derived.Lay
namespace Go.Proofs.YtneblkdkhlgmcaaDoor.Rn
open Go.ChangeShapes Go.WideShapes Go.ChangeAt Go.RowKit
set_option maxRecDepth 100000
set_option linter.unusedVariables false
set_option linter.unusedSimpArgs false
theorem group_any (n : Int) (w : World) (h0 : 0 ≤ n) (h1 : n < 4611686018427387904) : Calls Tryd.prog 94 #[.int .i64 n] w fun e w' => e = .returned (.int .u8 (128 + n % 64)) ∧ w' = w := by
  have e1 := and63w h0 h1
  have h2 : 0 ≤ n % 64 := by omega
  have h3 : n % 64 < 64 := by omega
  have e2 := or128 h2 h3
  go_enter Tryd.func94, Tryd.ntmps94
  go_wp2
  go_ret
  exact ⟨rfl, rfl⟩
theorem info5 : (Tryd.prog.info? 5).map (fun i => (i.zero, i.size, i.bytes)) = some (some (.int .u8 0), 1, 1) := by kernel_rfl
theorem info2 : (Tryd.prog.info? 2).map (fun i => (i.zero, i.size, i.bytes)) = some (some (.int .i64 0), 1, 8) := by kernel_rfl
abbrev bv (zs : List Int) : List Value := zs.map (Value.int .u8)
set_option maxHeartbeats 1000000 in
theorem grow1 (n : Int) (w : World) (v : Value) (k base : Nat) (xs : List Value) (T : Tab w) (hn0 : 0 ≤ n) (hn : n < 128) (hown : w.ownsRow base 5 1 v k xs) (hbase : base ≤ w.heap.size) (hk : k + 4 ≤ 140737488355328) :
    Calls Tryd.prog 88 #[v, .int .i64 n] w fun e w' => ∃ v', e = .returned v' ∧ w'.ownsRow base 5 1 v' (k + 1) (xs ++ bv [n]) ∧ Below base w w' := by
  obtain ⟨i0, hi, hz0, hz1, hz2⟩ := info_parts info5
  have t1 : w.cell? ⟨3, 1, none⟩ = some (.int .i64 128) := T.2 1 (by omega)
  go_enter Tryd.func88, Tryd.ntmps88
  go_wp2_with (at_builtin; refine wpList_append_own _ rfl _ _ 44 rfl base 5 i0 (.int .u8 0) 1 1 Tryd.underlying44 hi hz0 hz1 hz2 rfl (by decide) _ _ _ rfl (hown.alloc _) ⟨w.heap.size, 0, none⟩ 1 1 [.int .u8 n] rfl rfl ?c1 ?c2 ?c3 ?c4 ?c5 ?_)
  case c1 =>
    intro j u hj
    match j, hj with
    | 0, hj => simp at hj; subst hj; simp [Addr.add]
  case c2 => intro u hu; simp at hu; subst hu; rfl
  case c3 => unfold maxLen; omega
  case c4 => omega
  case c5 => simp; omega
  · intro v' w1 hown' hgrow _
    go_wp2
    go_ret
    exact ⟨_, rfl, hown', ((Below.refl _ _).alloc hbase _).grown hgrow (by simp; omega) (fun q hq => (hown.lt q hq).1)⟩
set_option maxHeartbeats 2000000 in
theorem grow2 (n : Int) (w : World) (v : Value) (k base : Nat) (xs : List Value) (T : Tab w) (hn0 : 128 ≤ n) (hn : n < 2048) (hown : w.ownsRow base 5 1 v k xs) (hbase : base ≤ w.heap.size) (hk : k + 4 ≤ 140737488355328) :
    Calls Tryd.prog 88 #[v, .int .i64 n] w fun e w' => ∃ v', e = .returned v' ∧ w'.ownsRow base 5 1 v' (k + 2) (xs ++ bv [192 + n / 64, 128 + n % 64]) ∧ Below base w w' := by
  obtain ⟨i0, hi, hz0, hz1, hz2⟩ := info_parts info5
  have t1 : w.cell? ⟨3, 1, none⟩ = some (.int .i64 128) := T.2 1 (by omega)
  have t2 : w.cell? ⟨3, 2, none⟩ = some (.int .i64 2048) := T.2 2 (by omega)
  have t3 : w.cell? ⟨3, 3, none⟩ = some (.int .i64 65536) := T.2 3 (by omega)
  have d1 : 0 ≤ n / 64 := by omega
  have d2 : n / 64 < 32 := by omega
  have d3 := or192 d1 d2
  go_enter Tryd.func88, Tryd.ntmps88
  go_wp2_with (first | (go_at_call 94; refine (group_any _ _ (by omega) (by omega)).mono ?_; rintro e w' ⟨rfl, hw⟩; rw [hw]) | (at_builtin; refine wpList_append_own _ rfl _ _ 44 rfl base 5 i0 (.int .u8 0) 1 1 Tryd.underlying44 hi hz0 hz1 hz2 rfl (by decide) _ _ _ rfl (hown.alloc _) ⟨w.heap.size, 0, none⟩ 2 2 (bv [192 + n / 64, 128 + n % 64]) rfl rfl ?c1 ?c2 ?c3 ?c4 ?c5 ?_))
  case c1 =>
    intro j u hj
    match j, hj with
    | 0, hj => simp at hj; subst hj; simp [Addr.add]
    | 1, hj => simp at hj; subst hj; simp [Addr.add]
  case c2 => intro u hu; simp at hu; rcases hu with rfl | rfl <;> rfl
  case c3 => unfold maxLen; omega
  case c4 => omega
  case c5 => simp; omega
  · intro v' w1 hown' hgrow _
    go_wp2
    go_ret
    exact ⟨_, rfl, hown', ((Below.refl _ _).alloc hbase _).grown hgrow (by simp; omega) (fun q hq => (hown.lt q hq).1)⟩
set_option maxHeartbeats 2000000 in
theorem grow3 (n : Int) (w : World) (v : Value) (k base : Nat) (xs : List Value) (T : Tab w) (hn0 : 2048 ≤ n) (hn : n < 65536) (hown : w.ownsRow base 5 1 v k xs) (hbase : base ≤ w.heap.size) (hk : k + 4 ≤ 140737488355328) :
    Calls Tryd.prog 88 #[v, .int .i64 n] w fun e w' => ∃ v', e = .returned v' ∧ w'.ownsRow base 5 1 v' (k + 3) (xs ++ bv [224 + n / 4096, 128 + n / 64 % 64, 128 + n % 64]) ∧ Below base w w' := by
  obtain ⟨i0, hi, hz0, hz1, hz2⟩ := info_parts info5
  have t1 : w.cell? ⟨3, 1, none⟩ = some (.int .i64 128) := T.2 1 (by omega)
  have t2 : w.cell? ⟨3, 2, none⟩ = some (.int .i64 2048) := T.2 2 (by omega)
  have t3 : w.cell? ⟨3, 3, none⟩ = some (.int .i64 65536) := T.2 3 (by omega)
  have d1 : 0 ≤ n / 4096 := by omega
  have d2 : n / 4096 < 16 := by omega
  have d3 := or224 d1 d2
  go_enter Tryd.func88, Tryd.ntmps88
  go_wp2_with (first | (go_at_call 94; refine (group_any _ _ (by omega) (by omega)).mono ?_; rintro e w' ⟨rfl, hw⟩; rw [hw]) | (at_builtin; refine wpList_append_own _ rfl _ _ 44 rfl base 5 i0 (.int .u8 0) 1 1 Tryd.underlying44 hi hz0 hz1 hz2 rfl (by decide) _ _ _ rfl (hown.alloc _) ⟨w.heap.size, 0, none⟩ 3 3 (bv [224 + n / 4096, 128 + n / 64 % 64, 128 + n % 64]) rfl rfl ?c1 ?c2 ?c3 ?c4 ?c5 ?_))
  case c1 =>
    intro j u hj
    match j, hj with
    | 0, hj => simp at hj; subst hj; simp [Addr.add]
    | 1, hj => simp at hj; subst hj; simp [Addr.add]
    | 2, hj => simp at hj; subst hj; simp [Addr.add]
  case c2 => intro u hu; simp at hu; rcases hu with rfl | rfl | rfl <;> rfl
  case c3 => unfold maxLen; omega
  case c4 => omega
  case c5 => simp; omega
  · intro v' w1 hown' hgrow _
    go_wp2
    go_ret
    exact ⟨_, rfl, hown', ((Below.refl _ _).alloc hbase _).grown hgrow (by simp; omega) (fun q hq => (hown.lt q hq).1)⟩
set_option maxHeartbeats 2000000 in
theorem grow4 (n : Int) (w : World) (v : Value) (k base : Nat) (xs : List Value) (T : Tab w) (hn0 : 65536 ≤ n) (hn : n < 1114112) (hown : w.ownsRow base 5 1 v k xs) (hbase : base ≤ w.heap.size) (hk : k + 4 ≤ 140737488355328) :
    Calls Tryd.prog 88 #[v, .int .i64 n] w fun e w' => ∃ v', e = .returned v' ∧ w'.ownsRow base 5 1 v' (k + 4) (xs ++ bv [240 + n / 262144, 128 + n / 4096 % 64, 128 + n / 64 % 64, 128 + n % 64]) ∧ Below base w w' := by
  obtain ⟨i0, hi, hz0, hz1, hz2⟩ := info_parts info5
  have t1 : w.cell? ⟨3, 1, none⟩ = some (.int .i64 128) := T.2 1 (by omega)
  have t2 : w.cell? ⟨3, 2, none⟩ = some (.int .i64 2048) := T.2 2 (by omega)
  have t3 : w.cell? ⟨3, 3, none⟩ = some (.int .i64 65536) := T.2 3 (by omega)
  have d1 : 0 ≤ n / 262144 := by omega
  have d2 : n / 262144 < 8 := by omega
  have d3 := or240 d1 d2
  go_enter Tryd.func88, Tryd.ntmps88
  go_wp2_with (first | (go_at_call 94; refine (group_any _ _ (by omega) (by omega)).mono ?_; rintro e w' ⟨rfl, hw⟩; rw [hw]) | (at_builtin; refine wpList_append_own _ rfl _ _ 44 rfl base 5 i0 (.int .u8 0) 1 1 Tryd.underlying44 hi hz0 hz1 hz2 rfl (by decide) _ _ _ rfl (hown.alloc _) ⟨w.heap.size, 0, none⟩ 4 4 (bv [240 + n / 262144, 128 + n / 4096 % 64, 128 + n / 64 % 64, 128 + n % 64]) rfl rfl ?c1 ?c2 ?c3 ?c4 ?c5 ?_))
  case c1 =>
    intro j u hj
    match j, hj with
    | 0, hj => simp at hj; subst hj; simp [Addr.add]
    | 1, hj => simp at hj; subst hj; simp [Addr.add]
    | 2, hj => simp at hj; subst hj; simp [Addr.add]
    | 3, hj => simp at hj; subst hj; simp [Addr.add]
  case c2 => intro u hu; simp at hu; rcases hu with rfl | rfl | rfl | rfl <;> rfl
  case c3 => unfold maxLen; omega
  case c4 => omega
  case c5 => simp; omega
  · intro v' w1 hown' hgrow _
    go_wp2
    go_ret
    exact ⟨_, rfl, hown', ((Below.refl _ _).alloc hbase _).grown hgrow (by simp; omega) (fun q hq => (hown.lt q hq).1)⟩
theorem grow_any (n : Int) (w : World) (v : Value) (k base : Nat) (xs : List Value) (T : Tab w) (hn : Good n) (hown : w.ownsRow base 5 1 v k xs) (hbase : base ≤ w.heap.size) (hk : k + 4 ≤ 140737488355328) :
    Calls Tryd.prog 88 #[v, .int .i64 n] w fun e w' => ∃ v', e = .returned v' ∧ w'.ownsRow base 5 1 v' (k + wid n) (xs ++ bv (put n)) ∧ Below base w w' := by
  have hr := hn.rng
  unfold wid put
  by_cases h1 : n < 128
  · rw [if_pos h1, if_pos h1]; exact grow1 n w v k base xs T hr.1 h1 hown hbase hk
  · rw [if_neg h1, if_neg h1]
    by_cases h2 : n < 2048
    · rw [if_pos h2, if_pos h2]; exact grow2 n w v k base xs T (by omega) h2 hown hbase hk
    · rw [if_neg h2, if_neg h2]
      by_cases h3 : n < 65536
      · rw [if_pos h3, if_pos h3]; exact grow3 n w v k base xs T (by omega) h3 hown hbase hk
      · rw [if_neg h3, if_neg h3]; exact grow4 n w v k base xs T (by omega) hr.2 hown hbase hk
end Go.Proofs.YtneblkdkhlgmcaaDoor.Rn
namespace Go.Proofs.YtneblkdkhlgmcaaDoor.Rn
open Go.ChangeShapes Go.WideShapes Go.ChangeAt Go.RowKit
set_option maxRecDepth 100000
set_option linter.unusedVariables false
set_option linter.unusedSimpArgs false
theorem row_at {k : IntKind} {w : World} {a : Option Addr} {l : List Int} (R : Row k w a l) {j : Nat} (h : j < l.length) : ∃ b off, a = some ⟨b, off, none⟩ ∧ b < w.heap.size ∧ w.cell? ⟨b, off + j, none⟩ = some (.int k (l[j]?.getD 0)) := by
  rcases R.2 with h0 | ⟨b, off, ha, hb, hc⟩
  · subst h0; simp at h
  · exact ⟨b, off, ha, hb, hc j h⟩
theorem row_owned {k : IntKind} {e : TypeId} {w : World} {base : Nat} {v : Value} {zs : List Int} (h : w.ownsRow base e 1 v zs.length (zs.map (Value.int k))) (hl : zs.length ≤ 140737488355328) :
    ∃ a cap, v = .slice a zs.length cap ∧ Row k w a zs ∧ (∀ x, a = some x → base ≤ x.block) ∧ (zs.length : Int) ≤ cap ∧ (a = none → zs.length = 0 ∧ cap = 0) := by
  obtain ⟨h1, h2⟩ := h
  rcases h2 with ⟨rfl, h2⟩ | ⟨g, cap, cur, rfl, hb, hg, hn, hm, hs, ht⟩
  · have e : zs = [] := List.eq_nil_of_length_eq_zero h2
    subst e
    exact ⟨none, 0, rfl, ⟨by simp, Or.inl rfl⟩, (fun x hx => by cases hx), by simp, (fun _ => ⟨rfl, rfl⟩)⟩
  · refine ⟨_, _, rfl, ⟨hl, Or.inr ⟨g, 0, rfl, ?_, ?_⟩⟩, (fun x hx => by cases hx; exact hb), by omega, (fun h => by cases h)⟩
    · exact lt_of_block hg
    · intro i hi
      have hown : w.ownsRow base e 1 (.slice (some ⟨g, 0, none⟩) zs.length cap) zs.length (zs.map (Value.int k)) := ⟨h1, Or.inr ⟨g, cap, cur, rfl, hb, hg, hn, hm, hs, ht⟩⟩
      have := hown.cellAt i (by omega)
      simp only [Nat.zero_add]
      rw [this, List.getElem?_map, List.getElem?_eq_getElem hi]
      rfl
theorem enc_snoc (l : List Int) (j : Nat) (hlt : j < l.length) : enc (l.take (j + 1)) = enc (l.take j) ++ put (l[j]?.getD 0) := by
  rw [List.take_succ_eq_append_getElem hlt, enc_append, List.getElem?_eq_getElem hlt]
  simp [enc]
theorem bv_append (l m : List Int) : bv (l ++ m) = bv l ++ bv m := List.map_append
/-- What Write tells. -/
def Wrote (l : List Int) (p : Nat) (w : World) (e : Ending) (w' : World) : Prop :=
  (p = l.length → ∃ a, e = .returned (.tuple #[.slice a (enc l).length (enc l).length, .int .i64 0]) ∧ Row .u8 w' a (enc l) ∧ ∀ x, a = some x → w.heap.size ≤ x.block) ∧
  (p < l.length → e = .returned (.tuple #[.slice none 0 0, .int .i64 3])) ∧ Below w.heap.size w w'
set_option maxHeartbeats 2000000 in
theorem write_any (l : List Int) (p : Nat) (a : Option Addr) (cap : Nat) (w : World) (R : Row .i64 w a l) (T : Tab w) (hl : l.length * 8 ≤ 140737488355328) (hp : p ≤ l.length) (hg : ∀ z ∈ l.take p, Good z) (hb : p < l.length → ¬ Good (l[p]?.getD 0)) :
    Calls Tryd.prog 74 #[.slice a l.length cap] w fun e w' => Wrote l p w e w' := by
  have hrow := @row_at _ _ _ _ R
  have Hb : Hid (p < l.length → ¬ Good (l[p]?.getD 0)) := hb
  clear hb
  go_enter Tryd.func74, Tryd.ntmps74
  go_wp2
  go_loopw [4, 8] (fun v i wr => ∃ j : Nat, j ≤ p ∧ i = .int .i64 j ∧ wr.ownsRow w.heap.size 5 1 v (enc (l.take j)).length (bv (enc (l.take j))) ∧ Below w.heap.size w wr) (fun _ i _ => l.length - (intOf i).toNat)
  case atStart => exact ⟨0, Nat.zero_le _, rfl, World.ownsRow_nil _ _ _ _, Below.refl _ _⟩
  case round =>
    obtain ⟨j, hj, rfl, hown, hnx⟩ := hrel
    have T' := T.below hnx T.1
    by_cases hlt : j < l.length
    · obtain ⟨b, off, ha, hb, hck⟩ := hrow hlt
      subst ha
      have hcx : wr.cell? ⟨b, off + j, none⟩ = some (.int .i64 (l[j]?.getD 0)) := (hnx.cell (p := ⟨b, off + j, none⟩) hb).trans hck
      by_cases hjp : j < p
      · have hgj : Good (l[j]?.getD 0) := by
          rw [List.getElem?_eq_getElem hlt]
          refine hg _ ?_
          rw [List.mem_take_iff_getElem]
          exact ⟨j, by omega, rfl⟩
        have HS : Hid (enc (l.take (j + 1)) = enc (l.take j) ++ put (l[j]?.getD 0)) := enc_snoc l j hlt
        have hlen := (enc_len (l.take j)).2
        rw [List.length_take] at hlen
        have hgb := goodB_true hgj
        have HG : Hid (Good (l[j]?.getD 0)) := hgj
        clear hgj
        obtain ⟨z, hz⟩ : ∃ z, l[j]?.getD 0 = z := ⟨_, rfl⟩
        rw [hz] at hcx HS hgb HG
        clear hck hrow hz hg
        go_wp2_with (first | (go_at_call 87; refine (good_any _ _).mono ?_; rintro e w' ⟨rfl, hw⟩; rw [hw]) | (go_at_call 88; refine (grow_any _ _ _ _ w.heap.size _ T' HG.out hown hnx.size (by omega)).mono ?_; rintro e w1 ⟨v', rfl, hown', hbel⟩))
        go_roundw
        case rel => exact ⟨j + 1, by omega, by go_num, by rw [HS.out, List.length_append, put_length, bv_append]; exact hown', hnx.trans hbel⟩
        case measure => simp [intOf]; omega
      · have hje : j = p := by omega
        subst hje
        have hgj := Hb.out hlt
        have hgb := goodB_false hgj
        clear hgj
        obtain ⟨z, hz⟩ : ∃ z, l[j]?.getD 0 = z := ⟨_, rfl⟩
        rw [hz] at hcx hgb
        clear hck hrow hz hg
        go_wp2_with (first | (go_at_call 87; refine (good_any _ _).mono ?_; rintro e w' ⟨rfl, hw⟩; rw [hw]))
        go_ret2
        exact ⟨fun h => absurd h (by omega), fun _ => rfl, hnx⟩
    · have hje : j = l.length := by omega
      have hjp : p = l.length := by omega
      subst hje
      rw [List.take_length] at hown
      have hlen := (enc_len l).2
      obtain ⟨a', c', hv, R', hx, hcap, hnil⟩ := row_owned hown (by omega)
      subst hv
      clear hown hrow
      go_wp2
      go_ret2
      exact ⟨fun _ => ⟨a', rfl, R', hx⟩, fun h => absurd h (by omega), hnx⟩
end Go.Proofs.YtneblkdkhlgmcaaDoor.Rn
namespace Go.Proofs.YtneblkdkhlgmcaaDoor
open Go.ChangeShapes Go.WideShapes Go.ChangeAt Go.RowKit
set_option maxRecDepth 100000
noncomputable instance (l at' : List Int) : Decidable (inAxes l at') := Classical.propDecidable _
/-- Place's answer. -/
noncomputable def plcV (l m : List Int) : Int := if sizeE l = 0 ∧ inAxes l m then place l m else 0
noncomputable def plcE (l m : List Int) : Int := if sizeE l ≠ 0 then sizeE l else if m.length ≠ l.length then 6 else if inAxes l m then 0 else 8
theorem sizeE_ok {l : List Int} (h : sizeE l = 0) : ¬ 8 < l.length ∧ ¬ hasNeg l ∧ (hasZero l ∨ (¬ hasZero l ∧ prodL l ≤ 16384)) := by
  unfold sizeE at h
  by_cases h8 : 8 < l.length
  · simp [h8] at h
  · by_cases hn : hasNeg l
    · simp [h8, hn] at h
    · by_cases hz : hasZero l
      · exact ⟨h8, hn, Or.inl hz⟩
      · by_cases hm : 16384 < prodL l
        · simp [h8, hn, hz, hm] at h
        · exact ⟨h8, hn, Or.inr ⟨hz, by omega⟩⟩
end Go.Proofs.YtneblkdkhlgmcaaDoor
namespace Go.Proofs.YtneblkdkhlgmcaaDoor
open Go.ChangeShapes Go.WideShapes Go.ChangeAt Go.RowKit
set_option maxRecDepth 100000
theorem drewN_below {B : Nat} {w wr : World} (h : Below B w wr) (m : Nat) : Below B w (wr.drewN m) := ⟨h.os, h.tape, h.output, h.size, h.block⟩
theorem sizeV_in {l : List Int} {n : Int} (hs : sizeE l = 0) (h0 : 0 ≤ n) (h1 : n < sizeV l) : ¬ 8 < l.length ∧ (∀ z ∈ l, 0 < z) ∧ sizeV l = prodL l ∧ prodL l ≤ 16384 := by
  obtain ⟨a, b, c⟩ := sizeE_ok hs
  rcases c with c | ⟨c, d⟩
  · rw [(size_zero a b c).1] at h1
    omega
  · exact ⟨a, all_pos b c, (size_ok a b c (by omega)).1, d⟩
end Go.Proofs.YtneblkdkhlgmcaaDoor
namespace Go.Proofs.YtneblkdkhlgmcaaDoor
open Go.ChangeShapes Go.WideShapes Go.ChangeAt Go.RowKit
set_option maxRecDepth 100000
set_option linter.unusedVariables false
set_option maxHeartbeats 2000000 in
theorem rcheckB_any (n B : Nat) (f : Ar → Int) (IH : InnerC 80 n B f) (x : Ar) (lo : Nat) (va : Value) (w : World) (hx : ArIn (n + 1) lo w x va) :
    Calls Tryd.prog 80 #[va, .int .i64 (B : Int)] w fun e w' => e = .returned (.int .i64 (chkB f x)) ∧ Below w.heap.size w w' := by
  obtain ⟨a1, c1, a2, c2, rfl, R, hl, hc⟩ := hx
  have K1 : Hid (¬ sizeE x.shape = 0 → chkB f x = sizeE x.shape) := fun h => by unfold chkB; rw [if_pos h]
  have K2 : Hid (sizeE x.shape = 0 → ¬ sizeV x.shape = x.cells.length → chkB f x = 1) := fun h h' => by unfold chkB; rw [if_neg (fun k => k h), if_pos h']
  have K3 : Hid (sizeE x.shape = 0 → sizeV x.shape = x.cells.length → hasLong x.shape → chkB f x = 12) := fun h h' h'' => by unfold chkB; rw [if_neg (fun k => k h), if_neg (fun k => k h'), if_pos h'']
  have K4 : Hid (sizeE x.shape = 0 → sizeV x.shape = x.cells.length → ¬ hasLong x.shape → chkB f x = firstUp (chkF f x) x.cells.length) := fun h h' h'' => by unfold chkB; rw [if_neg (fun k => k h), if_neg (fun k => k h'), if_neg h'']
  generalize chkB f x = r at K1 K2 K3 K4
  have b0 := one_alloc w (.cells #[.slice a1 x.shape.length c1, .slice a2 x.cells.length c2] 31)
  have C1 := rsize_any x.shape a1 c1 _ (R.next b0)
  have hlR := R.1
  have HB0 : Hid (Below w.heap.size w (w.alloc (.cells #[.slice a1 x.shape.length c1, .slice a2 x.cells.length c2] 31))) := b0
  have HS : Hid (∀ i, i < x.shape.length → ∃ b off s, a1 = some ⟨b, off, none⟩ ∧ (16384 < s → hasLong x.shape) ∧ (x.shape[i]?.getD 0 = s) ∧ (w.alloc (.cells #[.slice a1 x.shape.length c1, .slice a2 x.cells.length c2] 31)).cell? ⟨b, off + i, none⟩ = some (.int .i64 s)) := by
    intro i hi
    obtain ⟨b, off, ha, hb, hck⟩ := row_at (R.next b0) hi
    exact ⟨b, off, _, ha, fun h => ⟨_, getD_mem hi, h⟩, rfl, hck⟩
  have D3 : Hid ((∀ i, i < x.shape.length → ¬ 16384 < x.shape[i]?.getD 0) → ¬ hasLong x.shape) := by
    rintro h ⟨z, hz, hz'⟩
    obtain ⟨k, hk, e⟩ := mem_getD hz
    exact h k hk (by omega)
  have HC : Hid (∀ i, i < x.cells.length → ∃ b off z0 z1 ab nb cb, a2 = some ⟨b, off, none⟩ ∧ ∀ wr, Below w.heap.size w wr → (wr.cell? ⟨b, off + i * 3, none⟩ = some (.int .i64 z0) ∧ wr.cell? ⟨b, off + i * 3 + 1, none⟩ = some (.int .i64 z1) ∧ wr.cell? ⟨b, off + i * 3 + 2, none⟩ = some (.slice ab nb cb)) ∧ Calls Tryd.prog 91 #[.agg #[.int .i64 z0, .int .i64 z1, .slice ab nb cb], .int .i64 (B : Int)] wr fun e w' => e = .returned (.int .i64 (chkF f x i)) ∧ Below wr.heap.size wr w') := by
    intro i hi
    obtain ⟨b, off, z0, z1, ab, nb, cb, ha, h⟩ := cells_at hc i hi
    refine ⟨b, off, z0, z1, ab, nb, cb, ha, fun wr hw => ?_⟩
    obtain ⟨e0, e1, e2, e3⟩ := h wr hw
    exact ⟨⟨e0, e1, e2⟩, rcheckCell_any n B f IH _ lo wr _ _ _ e3⟩
  clear R hc b0 IH
  by_cases h1 : sizeE x.shape = 0
  · rw [h1] at C1
    by_cases h2 : sizeV x.shape = x.cells.length
    · rw [h2] at C1
      have K3' : Hid (hasLong x.shape → r = 12) := K3.out h1 h2
      have K4' : Hid (¬ hasLong x.shape → r = firstUp (chkF f x) x.cells.length) := K4.out h1 h2
      clear K1 K2 K3 K4 h1 h2
      have H0 : Hid (firstUp (chkF f x) 0 = 0) := rfl
      generalize chkF f x = F at *
      generalize x.shape = SS at *
      generalize x.cells.length = CA at *
      have W1 := one_alloc w (.cells #[.slice a1 SS.length c1, .slice a2 CA c2] 31)
      go_enter Tryd.func80, Tryd.ntmps80
      go_wp2_with fail
      refine C1.mono ?_
      rintro e w1 ⟨rfl, hw⟩
      rw [hw]
      clear hw C1 W1
      go_wp2
      go_loop [7] (fun i => ∃ j : Nat, j ≤ SS.length ∧ i = .int .i64 (j : Int) ∧ ∀ i, i < j → ¬ 16384 < SS[i]?.getD 0) (fun i => SS.length - (intOf i).toNat)
      case atStart => exact ⟨0, Nat.zero_le _, rfl, by simp⟩
      case round =>
        obtain ⟨j, hj, rfl, hall⟩ := hrel
        have HALL := hide hall
        clear hall
        by_cases hlt : j < SS.length
        · obtain ⟨b, off, s, rfl, hL, hs, hck⟩ := HS.out j hlt
          have HSS := hide hs
          have HL := hide hL
          clear HS HC hs hL
          by_cases hlong : 16384 < s
          · have hr : Hid (r = 12) := K3'.out (HL.out hlong)
            go_wp2
            go_ret
            exact ⟨retI hr.out.symm, HB0.out⟩
          · have HN := hide hlong
            go_wp2
            go_round
            case rel =>
              refine ⟨j + 1, by omega, by go_num, ?_⟩
              intro i hi
              rcases Nat.lt_succ_iff_lt_or_eq.1 hi with h | rfl
              · exact HALL.out i h
              · rw [HSS.out]; exact HN.out
            case measure => simp [intOf]; omega
        · have hje : j = SS.length := by omega
          subst hje
          have HR := hide (K4'.out (D3.out (fun i hi => by have := HALL.out i hi; omega)))
          clear HS HALL D3 K3' K4'
          go_wp2
          go_loopw [8] (fun i wr => ∃ j : Nat, j ≤ CA ∧ i = .int .i64 (j : Int) ∧ firstUp F j = 0 ∧ wr.cell? ⟨w.heap.size, 1, none⟩ = some (.slice a2 CA c2) ∧ w.heap.size + 1 ≤ wr.heap.size ∧ Below w.heap.size w wr) (fun i _ => CA - (intOf i).toNat)
          case atStart => exact ⟨0, Nat.zero_le _, rfl, H0.out, cell_new0 w _ 31 1 _ rfl, by simp, HB0.out⟩
          case round =>
            clear HB0
            obtain ⟨j, hj, rfl, hz, hcl, hsz, hnx⟩ := hrel
            have HZ := hide hz
            have HSZ := hide hsz
            clear hz hsz
            by_cases hlt : j < CA
            · obtain ⟨b, off, z0, z1, ab, nb, cb, rfl, hcs⟩ := HC.out j hlt
              obtain ⟨⟨k0, k1, k2⟩, C⟩ := hcs wr hnx
              have HT : Hid (F j ≠ 0 → r = F j) := fun h => by rw [HR.out]; exact firstUp_hit HZ.out h CA hlt
              have HS : Hid (firstUp F (j + 1) = F j) := firstUp_step HZ.out
              clear hcs HC
              obtain ⟨z, ez⟩ : ∃ z, F j = z := ⟨_, rfl⟩
              rw [ez] at C HT HS
              clear ez
              by_cases hz0 : z = 0
              · subst hz0
                go_wp2_with fail
                refine C.mono ?_
                rintro e w1 ⟨rfl, hb1⟩
                go_wp2
                go_roundw
                case rel => exact ⟨j + 1, by omega, by go_num, HS.out, (hb1.cell (p := ⟨w.heap.size, 1, none⟩) (by have := HSZ.out; show w.heap.size < _; omega)).trans hcl, Nat.le_trans HSZ.out hb1.size, hnx.trans (hb1.mono hnx.size)⟩
                case measure => simp [intOf]; omega
              · have HN := hide hz0
                go_wp2_with fail
                refine C.mono ?_
                rintro e w1 ⟨rfl, hb1⟩
                go_wp2
                go_ret
                exact ⟨retI (HT.out HN.out).symm, hnx.trans (hb1.mono hnx.size)⟩
            · have hje : j = CA := by omega
              subst hje
              have hr : Hid (r = 0) := by show r = 0; rw [HR.out]; exact HZ.out
              clear HC HR HZ
              go_wp2
              go_ret
              exact ⟨retI hr.out.symm, hnx⟩
    · have hr : Hid (r = 1) := K2.out h1 h2
      clear K1 K2 K3 K4 HC h1 HS D3
      generalize sizeV x.shape = S at C1 h2
      generalize x.shape.length = SA at *
      generalize x.cells.length = CA at *
      go_enter Tryd.func80, Tryd.ntmps80
      go_wp2_with fail
      refine C1.mono ?_
      rintro e w1 ⟨rfl, hw⟩
      rw [hw]
      clear hw
      go_wp2
      go_ret
      exact ⟨retI hr.out.symm, HB0.out⟩
  · have hr := hide (K1.out h1)
    clear K1 K2 K3 K4 HC HS D3
    generalize sizeV x.shape = S at C1
    generalize sizeE x.shape = E at C1 h1 hr
    generalize x.shape.length = SA at *
    generalize x.cells.length = CA at *
    go_enter Tryd.func80, Tryd.ntmps80
    go_wp2_with fail
    refine C1.mono ?_
    rintro e w1 ⟨rfl, hw⟩
    rw [hw]
    clear hw
    go_wp2
    go_ret
    exact ⟨retI hr.out.symm, HB0.out⟩
theorem within_any (r : Nat) : ∀ (hr : r ≤ 8) (n : Nat) (x : Ar) (lo : Nat) (va : Value) (w : World), ArIn n lo w x va → Calls Tryd.prog 72 #[va, .int .i64 ((8 - r : Nat) : Int)] w fun e w' => e = .returned (.int .i64 (chkA r x)) ∧ Below w.heap.size w w' := by
  induction r with
  | zero =>
    intro hr n x lo va w hx
    cases n with
    | zero => exact hx.elim
    | succ n => exact checkB_any n 8 (fun _ => 15) ⟨by omega, fun _ => rfl, fun h => absurd h (by omega)⟩ x lo va w hx
  | succ r ih =>
    intro hr n x lo va w hx
    cases n with
    | zero => exact hx.elim
    | succ n =>
      refine checkB_any n (8 - (r + 1)) (chkA r) ⟨by omega, fun h => absurd h (by omega), fun _ => ?_⟩ x lo va w hx
      intro y lo vb w hy
      have := ih (by omega) n y lo vb w hy
      have e : ((8 - r : Nat) : Int) = ((8 - (r + 1) : Nat) : Int) + 1 := by omega
      rw [e] at this
      exact this
theorem rwithin_any (r : Nat) : ∀ (hr : r ≤ 8) (n : Nat) (x : Ar) (lo : Nat) (va : Value) (w : World), ArIn n lo w x va → Calls Tryd.prog 80 #[va, .int .i64 ((8 - r : Nat) : Int)] w fun e w' => e = .returned (.int .i64 (chkA r x)) ∧ Below w.heap.size w w' := by
  induction r with
  | zero =>
    intro hr n x lo va w hx
    cases n with
    | zero => exact hx.elim
    | succ n => exact rcheckB_any n 8 (fun _ => 15) ⟨by omega, fun _ => rfl, fun h => absurd h (by omega)⟩ x lo va w hx
  | succ r ih =>
    intro hr n x lo va w hx
    cases n with
    | zero => exact hx.elim
    | succ n =>
      refine rcheckB_any n (8 - (r + 1)) (chkA r) ⟨by omega, fun h => absurd h (by omega), fun _ => ?_⟩ x lo va w hx
      intro y lo vb w hy
      have := ih (by omega) n y lo vb w hy
      have e : ((8 - r : Nat) : Int) = ((8 - (r + 1) : Nat) : Int) + 1 := by omega
      rw [e] at this
      exact this
theorem check_any (n : Nat) (x : Ar) (lo : Nat) (va : Value) (w : World) (hx : ArIn n lo w x va) : Calls Tryd.prog 55 #[va] w fun e w' => e = .returned (.int .i64 (chkA 8 x)) ∧ Below w.heap.size w w' := by
  have C := fun w' hb => within_any 8 (Nat.le_refl _) n x lo va w' (hx.next hb)
  cases n with
  | zero => exact hx.elim
  | succ n =>
    obtain ⟨a1, c1, a2, c2, rfl, -⟩ := hx
    generalize chkA 8 x = r at C
    generalize x.shape.length = SA at *
    generalize x.cells.length = CA at *
    have C1 := C _ (one_alloc w (.cells #[.slice a1 SA c1, .slice a2 CA c2] 31))
    clear C
    go_enter Tryd.func55, Tryd.ntmps55
    go_wp2_with fail
    refine C1.mono ?_
    rintro e w1 ⟨rfl, hb1⟩
    go_wp2
    go_ret
    exact ⟨rfl, (one_alloc _ _).trans (hb1.mono (one_alloc _ _).size)⟩
theorem rcheck_any (n : Nat) (x : Ar) (lo : Nat) (va : Value) (w : World) (hx : ArIn n lo w x va) : Calls Tryd.prog 64 #[va] w fun e w' => e = .returned (.int .i64 (chkA 8 x)) ∧ Below w.heap.size w w' := by
  have C := fun w' hb => rwithin_any 8 (Nat.le_refl _) n x lo va w' (hx.next hb)
  cases n with
  | zero => exact hx.elim
  | succ n =>
    obtain ⟨a1, c1, a2, c2, rfl, -⟩ := hx
    generalize chkA 8 x = r at C
    generalize x.shape.length = SA at *
    generalize x.cells.length = CA at *
    have C1 := C _ (one_alloc w (.cells #[.slice a1 SA c1, .slice a2 CA c2] 31))
    clear C
    go_enter Tryd.func64, Tryd.ntmps64
    go_wp2_with fail
    refine C1.mono ?_
    rintro e w1 ⟨rfl, hb1⟩
    go_wp2
    go_ret
    exact ⟨rfl, (one_alloc _ _).trans (hb1.mono (one_alloc _ _).size)⟩
end Go.Proofs.YtneblkdkhlgmcaaDoor
namespace Go.Proofs.YtneblkdkhlgmcaaDoor
open Go.ChangeShapes Go.WideShapes Go.ChangeAt Go.RowKit
set_option maxRecDepth 100000
set_option linter.unusedVariables false
set_option linter.unusedSimpArgs false
def atomL (x : Ar) : Bool := decide (x.shape.length = 0) || (decide (x.shape.length = 1) && !decide (x.shape[0]?.getD 0 = 1))
def numC (c : Ce) : Bool := decide (c.1 = 0)
def plC (c : Ce) : Bool := decide (c.1 = 1) && (decide (32 ≤ c.2.1) && !decide (c.2.1 = 127))
def allC (p : Ce → Bool) (cs : List Ce) : Bool := !anyUp (fun i => !p (cAt cs i)) cs.length
/-- Can an array be written as it is? -/
def litB (x : Ar) : Bool := atomL x && (allC numC x.cells || allC plC x.cells) && decide (chkA 8 x = 0)
def badC (x : Ar) (i : Nat) : Bool := decide ((cAt x.cells i).1 ≠ (cAt x.cells 0).1) || decide ((cAt x.cells i).1 = 2) || (decide ((cAt x.cells i).1 = 1) && (decide ((cAt x.cells i).2.1 < 32) || decide ((cAt x.cells i).2.1 = 127)))
theorem chk_kinds {x : Ar} (h : chkA 8 x = 0) (i : Nat) (hi : i < x.cells.length) : (cAt x.cells i).1 = 0 ∨ (cAt x.cells i).1 = 1 ∨ (cAt x.cells i).1 = 2 := by
  change chkB (chkA 7) x = 0 at h
  unfold chkB at h
  split at h
  · omega
  split at h
  · omega
  split at h
  · omega
  have h1 := firstUp_zero h (i + 1) hi
  have h2 := firstUp_zero h i (by omega)
  rw [firstUp_step h2] at h1
  unfold chkF chkC at h1
  split at h1
  · omega
  split at h1
  · omega
  · omega
theorem allC_iff {p : Ce → Bool} {cs : List Ce} : allC p cs = true ↔ ∀ i, i < cs.length → p (cAt cs i) = true := by
  unfold allC
  rw [Bool.not_eq_true', anyUp_none]
  constructor
  · intro h i hi; have := h i hi; simpa using this
  · intro h i hi; simp [h i hi]
theorem lit_doc (x : Ar) : (decide (chkA 8 x = 0) && atomL x && !anyUp (badC x) x.cells.length) = litB x := by
  unfold litB
  by_cases hc : chkA 8 x = 0
  · have hk := chk_kinds hc
    simp only [hc, decide_true, Bool.true_and, Bool.and_true]
    cases atomL x
    · simp
    · simp only [Bool.true_and]
      rw [Bool.eq_iff_iff, Bool.not_eq_true', anyUp_none, Bool.or_eq_true, allC_iff, allC_iff]
      constructor
      · intro h
        by_cases h0 : x.cells.length = 0
        · exact Or.inl fun i hi => by omega
        · have hb := h 0 (by omega)
          have k0 := hk 0 (by omega)
          simp only [badC, Bool.or_eq_false_iff, Bool.and_eq_false_iff, decide_eq_false_iff_not] at hb
          rcases k0 with k0 | k0 | k0
          · refine Or.inl fun i hi => ?_
            have := h i hi
            simp only [badC, Bool.or_eq_false_iff, decide_eq_false_iff_not, Decidable.not_not] at this
            simp [numC, this.1.1, k0]
          · refine Or.inr fun i hi => ?_
            have := h i hi
            simp only [badC, Bool.or_eq_false_iff, Bool.and_eq_false_iff, decide_eq_false_iff_not, Decidable.not_not] at this
            have k : (cAt x.cells i).1 = 1 := by rw [this.1.1, k0]
            rcases this.2 with t | ⟨t1, t2⟩
            · exact absurd k t
            · simp only [plC, k, decide_true, Bool.true_and, Bool.and_eq_true, decide_eq_true_eq, Bool.not_eq_true', decide_eq_false_iff_not]
              exact ⟨by omega, t2⟩
          · exact absurd k0 hb.1.2
      · intro h i hi
        rcases h with h | h
        · have a := h i hi
          have b := h 0 (by omega)
          simp only [numC, decide_eq_true_eq] at a b
          simp [badC, a, b]
        · have a := h i hi
          have b := h 0 (by omega)
          simp only [plC, Bool.and_eq_true, decide_eq_true_eq, Bool.not_eq_true', decide_eq_false_iff_not] at a b
          simp only [badC, a.1, b.1, Bool.or_eq_false_iff, Bool.and_eq_false_iff, decide_eq_false_iff_not]
          exact ⟨⟨by omega, by omega⟩, Or.inr ⟨by omega, a.2.2⟩⟩
  · simp [hc]
set_option maxHeartbeats 1000000 in
theorem isNum39 (c : Ce) (v2 : Value) (a : Option Addr) (l cc : Nat) (hv : v2 = .slice a l cc) (w : World) : Calls Tryd.prog 53 #[.agg #[.int .i64 c.1, .int .i64 c.2.1, v2]] w fun e w' => e = .returned (.bool (numC c)) ∧ Below w.heap.size w w' := by
  subst hv
  unfold numC
  have hb := fun z1 z2 => one_alloc w (.cells #[.int .i64 z1, .int .i64 z2, .slice a l cc] 72)
  generalize c.1 = K
  generalize c.2.1 = Z
  go_enter Tryd.func53, Tryd.ntmps53
  go_wp2
  go_ret
  exact ⟨retB (by rw [Bool.eq_iff_iff]; simp), hb _ _⟩
set_option maxHeartbeats 1000000 in
theorem isPl40 (c : Ce) (v2 : Value) (a : Option Addr) (l cc : Nat) (hv : v2 = .slice a l cc) (w : World) : Calls Tryd.prog 54 #[.agg #[.int .i64 c.1, .int .i64 c.2.1, v2]] w fun e w' => e = .returned (.bool (plC c)) ∧ Below w.heap.size w w' := by
  subst hv
  unfold plC
  have hb := fun z1 z2 => one_alloc w (.cells #[.int .i64 z1, .int .i64 z2, .slice a l cc] 72)
  generalize c.1 = K
  generalize c.2.1 = Z
  by_cases k1 : K = 1
  · subst k1
    by_cases k2 : 32 ≤ Z
    · have k2' : decide (32 ≤ Z) = true := by simp [k2]
      by_cases k3 : Z = 127
      · subst k3
        go_enter Tryd.func54, Tryd.ntmps54
        go_wp2
        go_ret
        exact ⟨retB (by simp), hb _ _⟩
      · have k3' : (Z == 127) = false := beq_eq_false_iff_ne.2 k3
        go_enter Tryd.func54, Tryd.ntmps54
        go_wp2
        go_ret
        exact ⟨retB (by simp [k3, k2]), hb _ _⟩
    · have k2' : decide (32 ≤ Z) = false := by simp [k2]
      go_enter Tryd.func54, Tryd.ntmps54
      go_wp2
      go_ret
      exact ⟨retB (by simp [k2]), hb _ _⟩
  · have k1' : (K == 1) = false := beq_eq_false_iff_ne.2 k1
    go_enter Tryd.func54, Tryd.ntmps54
    go_wp2
    go_ret
    exact ⟨retB (by simp [k1]), hb _ _⟩

set_option maxHeartbeats 2000000 in
theorem all39 {n lo : Nat} (cs : List Ce) (a2 : Option Addr) (c2 : Nat) (w : World) (hl : cs.length ≤ 5864062014805) (hc : CellsIn n lo w cs a2) :
    Calls Tryd.prog 52 #[.slice a2 cs.length c2, .func (.func 53) #[] #[]] w fun e w' => e = .returned (.bool (allC numC cs)) ∧ Below w.heap.size w w' := by
  have HB : Hid (∀ i, i < cs.length → ∃ b off z0 z1 ab nb cb, a2 = some ⟨b, off, none⟩ ∧ ∀ wr, Below w.heap.size w wr → wr.cell? ⟨b, off + i * 3, none⟩ = some (.int .i64 z0) ∧ wr.cell? ⟨b, off + i * 3 + 1, none⟩ = some (.int .i64 z1) ∧ wr.cell? ⟨b, off + i * 3 + 2, none⟩ = some (.slice ab nb cb) ∧ ∀ w, Calls Tryd.prog 53 #[.agg #[.int .i64 z0, .int .i64 z1, .slice ab nb cb]] w fun e w' => e = .returned (.bool (numC (cAt cs i))) ∧ Below w.heap.size w w') := by
    intro i hi
    obtain ⟨b, off, z0, z1, ab, nb, cb, ha, hw⟩ := cells_at hc i hi
    refine ⟨b, off, z0, z1, ab, nb, cb, ha, fun wr hwr => ?_⟩
    obtain ⟨g0, g1, g2, g3⟩ := hw wr hwr
    obtain ⟨e0, e1, -⟩ := g3
    injection e0 with _ e0
    injection e1 with _ e1
    exact ⟨g0, g1, g2, fun w => by rw [e0, e1]; exact isNum39 (cAt cs i) _ ab nb cb rfl w⟩
  clear hc
  have HHIT : Hid (∀ j, j < cs.length → numC (cAt cs j) = false → allC numC cs = false) := fun j hj h => by
    unfold allC
    rw [anyUp_hit hj (by simp [h])]
    rfl
  have HNO : Hid ((∀ j, j < cs.length → numC (cAt cs j) = true) → allC numC cs = true) := fun h => allC_iff.2 h
  generalize hF : (fun i => numC (cAt cs i)) = F at *
  have HF : Hid (∀ j, numC (cAt cs j) = F j) := fun j => by rw [← hF]
  clear hF
  generalize allC numC cs = Z at *
  generalize cs.length = L at *
  go_enter Tryd.func52, Tryd.ntmps52
  go_wp2
  go_loopg [9] L (fun g i wr => ∃ (j : Nat), g + j = L ∧ i = .int .i64 (j : Int) ∧ (∀ i, i < j → F i = true) ∧ Below w.heap.size w wr)
  case atStart => exact ⟨0, rfl, rfl, (by intro i hi; omega), Below.refl _ _⟩
  case round =>
    obtain ⟨j, hj, rfl, hno, hnx⟩ := hrel
    have HN := hide hno
    clear hno
    by_cases hlt : j < L
    · obtain ⟨b, off, z0, z1, ab, nb, cb, rfl, hw⟩ := HB.out j hlt
      obtain ⟨g0, g1, g2, C⟩ := hw wr hnx
      have hb2 : Below w.heap.size w (wr.alloc (.cells #[.int .i64 z0, .int .i64 z1, .slice ab nb cb] 72)) := hnx.alloc hnx.size _
      have HB2 := hide hb2
      rw [HF.out j] at C
      have HC := hide C
      have HH := hide (HHIT.out j hlt)
      rw [HF.out j] at HH
      clear C hw HB HHIT HNO HF hb2
      cases hFJ : F j with
      | true =>
        rw [hFJ] at HC
        have HFJ := hide hFJ
        clear hFJ HH
        go_wp2_with fail
        refine (HC.out _).mono ?_
        rintro e w1 ⟨rfl, hb1⟩
        clear HC
        go_wp2
        go_roundg (L - (j + 1))
        case rel =>
          refine ⟨j + 1, by omega, by go_num, fun i hi => ?_, HB2.out.trans (hb1.mono HB2.out.size)⟩
          rcases Nat.lt_succ_iff_lt_or_eq.1 hi with hi | rfl
          · exact HN.out i hi
          · exact HFJ.out
        case measure => omega
      | false =>
        rw [hFJ] at HC
        have HZ := hide (HH.out hFJ)
        clear hFJ HH HN
        go_wp2_with fail
        refine (HC.out _).mono ?_
        rintro e w1 ⟨rfl, hb1⟩
        clear HC
        go_wp2
        go_ret
        exact ⟨retB HZ.out.symm, HB2.out.trans (hb1.mono HB2.out.size)⟩
    · have hje : j = L := by omega
      subst hje
      have HZ := hide (HNO.out fun i hi => by rw [HF.out i]; exact HN.out i hi)
      clear HB HHIT HNO HN HF
      go_wp2
      go_ret
      exact ⟨retB HZ.out.symm, hnx⟩

set_option maxHeartbeats 2000000 in
theorem all40 {n lo : Nat} (cs : List Ce) (a2 : Option Addr) (c2 : Nat) (w : World) (hl : cs.length ≤ 5864062014805) (hc : CellsIn n lo w cs a2) :
    Calls Tryd.prog 52 #[.slice a2 cs.length c2, .func (.func 54) #[] #[]] w fun e w' => e = .returned (.bool (allC plC cs)) ∧ Below w.heap.size w w' := by
  have HB : Hid (∀ i, i < cs.length → ∃ b off z0 z1 ab nb cb, a2 = some ⟨b, off, none⟩ ∧ ∀ wr, Below w.heap.size w wr → wr.cell? ⟨b, off + i * 3, none⟩ = some (.int .i64 z0) ∧ wr.cell? ⟨b, off + i * 3 + 1, none⟩ = some (.int .i64 z1) ∧ wr.cell? ⟨b, off + i * 3 + 2, none⟩ = some (.slice ab nb cb) ∧ ∀ w, Calls Tryd.prog 54 #[.agg #[.int .i64 z0, .int .i64 z1, .slice ab nb cb]] w fun e w' => e = .returned (.bool (plC (cAt cs i))) ∧ Below w.heap.size w w') := by
    intro i hi
    obtain ⟨b, off, z0, z1, ab, nb, cb, ha, hw⟩ := cells_at hc i hi
    refine ⟨b, off, z0, z1, ab, nb, cb, ha, fun wr hwr => ?_⟩
    obtain ⟨g0, g1, g2, g3⟩ := hw wr hwr
    obtain ⟨e0, e1, -⟩ := g3
    injection e0 with _ e0
    injection e1 with _ e1
    exact ⟨g0, g1, g2, fun w => by rw [e0, e1]; exact isPl40 (cAt cs i) _ ab nb cb rfl w⟩
  clear hc
  have HHIT : Hid (∀ j, j < cs.length → plC (cAt cs j) = false → allC plC cs = false) := fun j hj h => by
    unfold allC
    rw [anyUp_hit hj (by simp [h])]
    rfl
  have HNO : Hid ((∀ j, j < cs.length → plC (cAt cs j) = true) → allC plC cs = true) := fun h => allC_iff.2 h
  generalize hF : (fun i => plC (cAt cs i)) = F at *
  have HF : Hid (∀ j, plC (cAt cs j) = F j) := fun j => by rw [← hF]
  clear hF
  generalize allC plC cs = Z at *
  generalize cs.length = L at *
  go_enter Tryd.func52, Tryd.ntmps52
  go_wp2
  go_loopg [9] L (fun g i wr => ∃ (j : Nat), g + j = L ∧ i = .int .i64 (j : Int) ∧ (∀ i, i < j → F i = true) ∧ Below w.heap.size w wr)
  case atStart => exact ⟨0, rfl, rfl, (by intro i hi; omega), Below.refl _ _⟩
  case round =>
    obtain ⟨j, hj, rfl, hno, hnx⟩ := hrel
    have HN := hide hno
    clear hno
    by_cases hlt : j < L
    · obtain ⟨b, off, z0, z1, ab, nb, cb, rfl, hw⟩ := HB.out j hlt
      obtain ⟨g0, g1, g2, C⟩ := hw wr hnx
      have hb2 : Below w.heap.size w (wr.alloc (.cells #[.int .i64 z0, .int .i64 z1, .slice ab nb cb] 72)) := hnx.alloc hnx.size _
      have HB2 := hide hb2
      rw [HF.out j] at C
      have HC := hide C
      have HH := hide (HHIT.out j hlt)
      rw [HF.out j] at HH
      clear C hw HB HHIT HNO HF hb2
      cases hFJ : F j with
      | true =>
        rw [hFJ] at HC
        have HFJ := hide hFJ
        clear hFJ HH
        go_wp2_with fail
        refine (HC.out _).mono ?_
        rintro e w1 ⟨rfl, hb1⟩
        clear HC
        go_wp2
        go_roundg (L - (j + 1))
        case rel =>
          refine ⟨j + 1, by omega, by go_num, fun i hi => ?_, HB2.out.trans (hb1.mono HB2.out.size)⟩
          rcases Nat.lt_succ_iff_lt_or_eq.1 hi with hi | rfl
          · exact HN.out i hi
          · exact HFJ.out
        case measure => omega
      | false =>
        rw [hFJ] at HC
        have HZ := hide (HH.out hFJ)
        clear hFJ HH HN
        go_wp2_with fail
        refine (HC.out _).mono ?_
        rintro e w1 ⟨rfl, hb1⟩
        clear HC
        go_wp2
        go_ret
        exact ⟨retB HZ.out.symm, HB2.out.trans (hb1.mono HB2.out.size)⟩
    · have hje : j = L := by omega
      subst hje
      have HZ := hide (HNO.out fun i hi => by rw [HF.out i]; exact HN.out i hi)
      clear HB HHIT HNO HN HF
      go_wp2
      go_ret
      exact ⟨retB HZ.out.symm, hnx⟩

theorem atomL_0 {x : Ar} (h : x.shape.length = 0) : atomL x = true := by simp [atomL, h]
theorem atomL_1 {x : Ar} (h : x.shape.length = 1) : atomL x = !decide (x.shape[0]?.getD 0 = 1) := by simp [atomL, h]
theorem atomL_2 {x : Ar} (h : ¬ x.shape.length = 0) (h' : ¬ x.shape.length = 1) : atomL x = false := by simp [atomL, h, h']
set_option maxHeartbeats 1000000 in
theorem atom37 {lo : Nat} (x : Ar) (a1 : Option Addr) (c1 : Nat) (a2 : Option Addr) (L2 c2 : Nat) (w : World) (R : Row lo w a1 x.shape) :
    Calls Tryd.prog 51 #[.agg #[.slice a1 x.shape.length c1, .slice a2 L2 c2]] w fun e w' => e = .returned (.bool (atomL x)) ∧ Below w.heap.size w w' := by
  have hb := fun l => one_alloc w (.cells #[.slice a1 l c1, .slice a2 L2 c2] 31)
  by_cases h0 : x.shape.length = 0
  · rw [atomL_0 h0, h0]
    go_enter Tryd.func51, Tryd.ntmps51
    go_wp2
    go_ret
    exact ⟨rfl, hb _⟩
  by_cases h1 : x.shape.length = 1
  · rw [atomL_1 h1]
    obtain ⟨b, off, rfl, hbb, hc⟩ := row_at R (j := 0) (by omega)
    rw [h1]
    have hc2 := cell_one hc hbb (.cells #[.slice (some ⟨b, off, none⟩) 1 c1, .slice a2 L2 c2] 31)
    simp only [Nat.add_zero] at hc hc2
    generalize x.shape[0]?.getD 0 = Z at *
    clear R h0 h1
    go_enter Tryd.func51, Tryd.ntmps51
    go_wp2
    go_ret
    exact ⟨retB (by rw [Bool.eq_iff_iff]; simp), hb _⟩
  · rw [atomL_2 h0 h1]
    have h0' : ((x.shape.length : Int) == 0) = false := beq_eq_false_iff_ne.2 (by omega)
    have h1' : ((x.shape.length : Int) == 1) = false := beq_eq_false_iff_ne.2 (by omega)
    generalize x.shape.length = SA at *
    go_enter Tryd.func51, Tryd.ntmps51
    go_wp2
    go_ret
    exact ⟨rfl, hb _⟩
theorem litB_a {x : Ar} (h : atomL x = false) : litB x = false := by simp [litB, h]
theorem litB_b {x : Ar} (h1 : allC numC x.cells = false) (h2 : allC plC x.cells = false) : litB x = false := by simp [litB, h1, h2]
theorem litB_c {x : Ar} (h : atomL x = true) (h1 : allC numC x.cells = true ∨ allC plC x.cells = true) : litB x = decide (chkA 8 x = 0) := by
  rcases h1 with h1 | h1 <;> simp [litB, h, h1]
set_option maxHeartbeats 2000000 in
theorem lit17 {n lo : Nat} (x : Ar) (va : Value) (w : World) (hx : ArIn n lo w x va) : Calls Tryd.prog 33 #[va] w fun e w' => e = .returned (.bool (litB x)) ∧ Below w.heap.size w w' := by
  have CK : ∀ wr, Below w.heap.size w wr → Calls Tryd.prog 55 #[va] wr fun e w' => e = .returned (.int .i64 (chkA 8 x)) ∧ Below wr.heap.size wr w' := fun wr hw => check_any n x lo va wr (hx.next hw)
  cases n with
  | zero => exact hx.elim
  | succ n =>
  obtain ⟨a1, c1, a2, c2, rfl, R, hl, hc⟩ := hx
  have hb0 := one_alloc w (.cells #[.slice a1 x.shape.length c1, .slice a2 x.cells.length c2] 31)
  have q0 := cell_new0 w #[.slice a1 x.shape.length c1, .slice a2 x.cells.length c2] 31 0 _ rfl
  have q1 := cell_new0 w #[.slice a1 x.shape.length c1, .slice a2 x.cells.length c2] 31 1 _ rfl
  have CA := hide (fun wr (hw : Below w.heap.size w wr) => atom37 x a1 c1 a2 x.cells.length c2 wr (R.next hw))
  have CN := hide (fun wr (hw : Below w.heap.size w wr) => all39 (n := n) (lo := lo) x.cells a2 c2 wr hl ((show CellsIn n lo w x.cells a2 from hc).mono (Nat.le_refl _) hw))
  have CP := hide (fun wr (hw : Below w.heap.size w wr) => all40 (n := n) (lo := lo) x.cells a2 c2 wr hl ((show CellsIn n lo w x.cells a2 from hc).mono (Nat.le_refl _) hw))
  have HCK := hide CK
  have HQ := hide (And.intro hb0 (And.intro q0 (And.intro q1 (show w.heap.size < (w.alloc (.cells #[.slice a1 x.shape.length c1, .slice a2 x.cells.length c2] 31)).heap.size by simp))))
  clear R hc CK
  have HLA : Hid (atomL x = false → litB x = false) := litB_a
  have HLB : Hid (allC numC x.cells = false → allC plC x.cells = false → litB x = false) := litB_b
  have HLC : Hid (atomL x = true → (allC numC x.cells = true ∨ allC plC x.cells = true) → litB x = decide (chkA 8 x = 0)) := litB_c
  generalize chkA 8 x = CH at *
  generalize litB x = Z at *
  generalize x.shape.length = SA at *
  generalize hLN : x.cells.length = LN at *
  generalize allC numC x.cells = AN at *
  generalize allC plC x.cells = AP at *
  generalize atomL x = AT at *
  clear hLN
  cases AT
  · have HZ := hide (HLA.out rfl)
    go_enter Tryd.func33, Tryd.ntmps33
    go_wp2_with fail
    refine (CA.out _ hb0).mono ?_
    rintro e w1 ⟨rfl, hb1⟩
    go_wp2
    go_ret
    exact ⟨retB HZ.out.symm, hb0.trans (hb1.mono hb0.size)⟩
  · go_enter Tryd.func33, Tryd.ntmps33
    go_wp2_with fail
    refine (CA.out _ hb0).mono ?_
    rintro e w1 ⟨rfl, hb1⟩
    have hw1 := hb0.trans (hb1.mono hb0.size)
    have q10 := (hb1.cell (p := ⟨w.heap.size, 0, none⟩) HQ.out.2.2.2).trans q0
    have q11 := (hb1.cell (p := ⟨w.heap.size, 1, none⟩) HQ.out.2.2.2).trans q1
    have hs1 := Nat.lt_of_lt_of_le HQ.out.2.2.2 hb1.size
    have HS1 := hide hs1
    clear q0 q1 CA hb1 hb0 hs1
    cases AN
    · cases AP
      · have HZ := hide (HLB.out (by first | trivial | rfl) (by first | trivial | rfl))
        go_wp2_with fail
        refine (CN.out _ hw1).mono ?_
        rintro e w2 ⟨rfl, hb2⟩
        have hw2 := hw1.trans (hb2.mono hw1.size)
        have q20 := (hb2.cell (p := ⟨w.heap.size, 0, none⟩) HS1.out).trans q10
        have q21 := (hb2.cell (p := ⟨w.heap.size, 1, none⟩) HS1.out).trans q11
        clear hb2
        go_wp2_with fail
        refine (CP.out _ hw2).mono ?_
        rintro e w3 ⟨rfl, hb3⟩
        go_wp2
        go_ret
        exact ⟨retB HZ.out.symm, hw2.trans (hb3.mono hw2.size)⟩
      · have HZ := hide (HLC.out (by first | trivial | rfl) (by first | exact Or.inr rfl | trivial | simp))
        go_wp2_with fail
        refine (CN.out _ hw1).mono ?_
        rintro e w2 ⟨rfl, hb2⟩
        have hw2 := hw1.trans (hb2.mono hw1.size)
        have q20 := (hb2.cell (p := ⟨w.heap.size, 0, none⟩) HS1.out).trans q10
        have q21 := (hb2.cell (p := ⟨w.heap.size, 1, none⟩) HS1.out).trans q11
        have HS2 := hide (Nat.lt_of_lt_of_le HS1.out hb2.size)
        clear hb2 q10 q11
        go_wp2_with fail
        refine (CP.out _ hw2).mono ?_
        rintro e w3 ⟨rfl, hb3⟩
        have hw3 := hw2.trans (hb3.mono hw2.size)
        have q30 := (hb3.cell (p := ⟨w.heap.size, 0, none⟩) HS2.out).trans q20
        have q31 := (hb3.cell (p := ⟨w.heap.size, 1, none⟩) HS2.out).trans q21
        clear hb3 q20 q21
        go_wp2_with fail
        refine (HCK.out _ hw3).mono ?_
        rintro e w4 ⟨rfl, hb4⟩
        go_wp2
        go_ret
        exact ⟨retB (by rw [HZ.out, Bool.eq_iff_iff]; simp), hw3.trans (hb4.mono hw3.size)⟩
    · have HZ := hide (HLC.out (by first | trivial | rfl) (by first | exact Or.inl rfl | trivial | simp))
      go_wp2_with fail
      refine (CN.out _ hw1).mono ?_
      rintro e w2 ⟨rfl, hb2⟩
      have hw2 := hw1.trans (hb2.mono hw1.size)
      have q20 := (hb2.cell (p := ⟨w.heap.size, 0, none⟩) HS1.out).trans q10
      have q21 := (hb2.cell (p := ⟨w.heap.size, 1, none⟩) HS1.out).trans q11
      clear hb2 q10 q11
      go_wp2_with fail
      refine (HCK.out _ hw2).mono ?_
      rintro e w4 ⟨rfl, hb4⟩
      go_wp2
      go_ret
      exact ⟨retB (by rw [HZ.out, Bool.eq_iff_iff]; simp), hw2.trans (hb4.mono hw2.size)⟩

set_option maxHeartbeats 4000000 in
theorem rlit18 {n lo : Nat} (x : Ar) (va : Value) (w : World) (hx : ArIn n lo w x va) : Calls Tryd.prog 43 #[va] w fun e w' => e = .returned (.bool (litB x)) ∧ Below w.heap.size w w' := by
  rw [← lit_doc]
  have CK : ∀ wr, Below w.heap.size w wr → Calls Tryd.prog 64 #[va] wr fun e w' => e = .returned (.int .i64 (chkA 8 x)) ∧ Below wr.heap.size wr w' := fun wr hw => rcheck_any n x lo va wr (hx.next hw)
  cases n with
  | zero => exact hx.elim
  | succ n =>
  obtain ⟨a1, c1, a2, c2, rfl, R, hl, hc⟩ := hx
  have hb0 := one_alloc w (.cells #[.slice a1 x.shape.length c1, .slice a2 x.cells.length c2] 31)
  have q0 := cell_new0 w #[.slice a1 x.shape.length c1, .slice a2 x.cells.length c2] 31 0 _ rfl
  have q1 := cell_new0 w #[.slice a1 x.shape.length c1, .slice a2 x.cells.length c2] 31 1 _ rfl
  have hlt0 : w.heap.size < (w.alloc (.cells #[.slice a1 x.shape.length c1, .slice a2 x.cells.length c2] 31)).heap.size := by simp
  have HLT := hide hlt0
  have C := CK _ hb0
  clear CK hlt0
  have HB := hide (cells_at hc)
  have HR := hide (fun (h : 0 < x.shape.length) wr (hw : Below w.heap.size w wr) => row_at (R.next hw) (j := 0) h)
  clear R hc
  by_cases hch : ¬ chkA 8 x = 0
  · rw [decide_eq_false hch, Bool.false_and, Bool.false_and]
    have hch' : (chkA 8 x == 0) = false := beq_eq_false_iff_ne.2 hch
    generalize chkA 8 x = CH at *
    generalize x.shape.length = SA at *
    generalize x.cells.length = LN at *
    go_enter Tryd.func43, Tryd.ntmps43
    go_wp2_with fail
    refine C.mono ?_
    rintro e w1 ⟨rfl, hb1⟩
    go_wp2
    go_ret
    exact ⟨rfl, hb0.trans (hb1.mono hb0.size)⟩
  rw [Decidable.not_not.1 hch] at C ⊢
  rw [show decide ((0 : Int) = 0) = true from rfl, Bool.true_and]
  clear hch
  by_cases h2 : 1 < x.shape.length
  · rw [atomL_2 (by omega) (by omega), Bool.false_and]
    generalize x.shape.length = SA at *
    generalize x.cells.length = LN at *
    go_enter Tryd.func43, Tryd.ntmps43
    go_wp2_with fail
    refine C.mono ?_
    rintro e w1 ⟨rfl, hb1⟩
    have q10 := (hb1.cell (p := ⟨w.heap.size, 0, none⟩) HLT.out).trans q0
    go_wp2
    go_ret
    exact ⟨rfl, hb0.trans (hb1.mono hb0.size)⟩
  have h2' : decide (1 < (x.shape.length : Int)) = false := by simp; omega
  have HHIT : Hid (∀ j, j < x.cells.length → badC x j = true → (!anyUp (badC x) x.cells.length) = false) := fun j hj h => by rw [anyUp_hit hj h]; rfl
  have HNO : Hid ((∀ j, j < x.cells.length → badC x j = false) → (!anyUp (badC x) x.cells.length) = true) := fun h => by rw [anyUp_none.2 h]; rfl
  have HBAD : Hid (∀ j, badC x j = (decide ((cAt x.cells j).1 ≠ (cAt x.cells 0).1) || decide ((cAt x.cells j).1 = 2) || (decide ((cAt x.cells j).1 = 1) && (decide ((cAt x.cells j).2.1 < 32) || decide ((cAt x.cells j).2.1 = 127))))) := fun j => rfl
  generalize (!anyUp (badC x) x.cells.length) = Z at *
  have HCE : Hid (∀ j, j < x.cells.length → ∃ b off z0 z1 ab nb cb y0, a2 = some ⟨b, off, none⟩ ∧ badC x j = (decide (z0 ≠ y0) || decide (z0 = 2) || (decide (z0 = 1) && (decide (z1 < 32) || decide (z1 = 127)))) ∧ ∀ wr, Below w.heap.size w wr → wr.cell? ⟨b, off + j * 3, none⟩ = some (.int .i64 z0) ∧ wr.cell? ⟨b, off + j * 3 + 1, none⟩ = some (.int .i64 z1) ∧ wr.cell? ⟨b, off + j * 3 + 2, none⟩ = some (.slice ab nb cb) ∧ wr.cell? ⟨b, off, none⟩ = some (.int .i64 y0)) := by
    intro j hj
    obtain ⟨b, off, z0, z1, ab, nb, cb, ha, hw⟩ := HB.out j hj
    obtain ⟨b', off', y0, y1, ab', nb', cb', ha', hw'⟩ := HB.out 0 (by omega)
    rw [ha] at ha'
    obtain ⟨rfl, rfl⟩ : b = b' ∧ off = off' := by simpa using ha'
    refine ⟨b, off, z0, z1, ab, nb, cb, y0, ha, ?_, fun wr hwr => ?_⟩
    · obtain ⟨e0, e1, -⟩ := (hw w (Below.refl _ _)).2.2.2
      obtain ⟨f0, -⟩ := (hw' w (Below.refl _ _)).2.2.2
      injection e0 with _ e0
      injection e1 with _ e1
      injection f0 with _ f0
      rw [HBAD.out, e0, e1, f0]
    · refine ⟨(hw wr hwr).1, (hw wr hwr).2.1, (hw wr hwr).2.2.1, ?_⟩
      have := (hw' wr hwr).1
      simpa using this
  clear HB HBAD
  generalize badC x = F at *
  by_cases h0 : x.shape.length = 0
  · rw [atomL_0 h0, Bool.true_and]
    rw [h0] at C q0 q1 hb0 HLT ⊢
    clear HR h2 h2' h0
    generalize x.cells.length = LN at *
    go_enter Tryd.func43, Tryd.ntmps43
    go_wp2_with fail
    refine C.mono ?_
    rintro e w1 ⟨rfl, hb1⟩
    have q10 := (hb1.cell (p := ⟨w.heap.size, 0, none⟩) HLT.out).trans q0
    have q11 := (hb1.cell (p := ⟨w.heap.size, 1, none⟩) HLT.out).trans q1
    clear C q0 q1
    go_wp2
    go_loopg [3] LN (fun g i wr => ∃ (j : Nat), g + j = LN ∧ i = .int .i64 (j : Int) ∧ (∀ i, i < j → F i = false) ∧ Below w.heap.size w wr ∧ wr.cell? ⟨w.heap.size, 1, none⟩ = some (.slice a2 LN c2) ∧ w.heap.size < wr.heap.size)
    case atStart => exact ⟨0, rfl, rfl, (by intro i hi; omega), hb0.trans (hb1.mono hb0.size), q11, Nat.lt_of_lt_of_le HLT.out hb1.size⟩
    case round =>
      clear q10 q11 hb1 hb0
      obtain ⟨j, hj, rfl, hno, hnx, hcl, hsz⟩ := hrel
      have HSZ := hide hsz
      have HN := hide hno
      clear hno hsz
      by_cases hlt : j < LN
      · obtain ⟨b, off, z0, z1, ab, nb, cb, y0, rfl, hbd, hw⟩ := HCE.out j hlt
        obtain ⟨g0, g1, g2, g3⟩ := hw wr hnx
        have hb2 : Below w.heap.size w (wr.alloc (.cells #[.int .i64 z0, .int .i64 z1, .slice ab nb cb] 72)) := hnx.alloc hnx.size _
        obtain ⟨-, -, -, g4⟩ := hw _ hb2
        have hcl2 := cell_one hcl HSZ.out (.cells #[.int .i64 z0, .int .i64 z1, .slice ab nb cb] 72)
        have k0 := cell_new0 wr #[.int .i64 z0, .int .i64 z1, .slice ab nb cb] 72 0 _ rfl
        have k1 := cell_new0 wr #[.int .i64 z0, .int .i64 z1, .slice ab nb cb] 72 1 _ rfl
        have HB2 := hide hb2
        have HBD := hide hbd
        have HH := hide (HHIT.out j hlt)
        clear hw HCE HHIT HNO hb2 hbd
        have hs2 : w.heap.size < (wr.alloc (.cells #[.int .i64 z0, .int .i64 z1, .slice ab nb cb] 72)).heap.size := Nat.lt_of_lt_of_le HSZ.out (by simp)
        have HS2 := hide hs2
        clear hs2
        by_cases e1 : z0 = y0
        · subst e1
          by_cases e2 : z0 = 2
          · subst e2
            have hFJ : F j = true := by rw [HBD.out]; simp 
            have HZ := hide (HH.out hFJ)
            clear hFJ HBD HH HN
            go_wp2
            go_quiet (fail)
            go_wp2
            go_ret
            exact ⟨retB HZ.out.symm, drewN_below HB2.out _⟩
          · have e2' : (z0 == 2) = false := beq_eq_false_iff_ne.2 e2
            by_cases e3 : z0 = 1
            · subst e3
              by_cases e4 : z1 < 32
              · have e4' : decide (z1 < 32) = true := by simp [e4]
                have hFJ : F j = true := by rw [HBD.out]; simp [e4]
                have HZ := hide (HH.out hFJ)
                clear hFJ HBD HH HN
                go_wp2
                go_quiet (fail)
                go_wp2
                go_ret
                exact ⟨retB HZ.out.symm, drewN_below HB2.out _⟩
              · have e4' : decide (z1 < 32) = false := by simp; omega
                by_cases e5 : z1 = 127
                · subst e5
                  have hFJ : F j = true := by rw [HBD.out]; simp 
                  have HZ := hide (HH.out hFJ)
                  clear hFJ HBD HH HN
                  go_wp2
                  go_quiet (fail)
                  go_wp2
                  go_ret
                  exact ⟨retB HZ.out.symm, drewN_below HB2.out _⟩
                · have e5' : (z1 == 127) = false := beq_eq_false_iff_ne.2 e5
                  have hFJ : F j = false := by rw [HBD.out]; simp [e4, e5]
                  have HFJ := hide hFJ
                  clear hFJ HBD HH
                  go_wp2
                  go_quiet (fail)
                  go_wp2
                  go_roundg (LN - (j + 1))
                  case rel =>
                    refine ⟨j + 1, by omega, by go_num, fun i hi => ?_, drewN_below HB2.out _, hcl2, HS2.out⟩
                    rcases Nat.lt_succ_iff_lt_or_eq.1 hi with hi | rfl
                    · exact HN.out i hi
                    · exact HFJ.out
                  case measure => omega
            · have e3' : (z0 == 1) = false := beq_eq_false_iff_ne.2 e3
              have hFJ : F j = false := by rw [HBD.out]; simp [e2, e3]
              have HFJ := hide hFJ
              clear hFJ HBD HH
              go_wp2
              go_quiet (fail)
              go_wp2
              go_roundg (LN - (j + 1))
              case rel =>
                refine ⟨j + 1, by omega, by go_num, fun i hi => ?_, drewN_below HB2.out _, hcl2, HS2.out⟩
                rcases Nat.lt_succ_iff_lt_or_eq.1 hi with hi | rfl
                · exact HN.out i hi
                · exact HFJ.out
              case measure => omega
        · have e1' : (z0 != y0) = true := by simp [e1]
          have hFJ : F j = true := by rw [HBD.out]; simp [e1]
          have HZ := hide (HH.out hFJ)
          clear hFJ HBD HH HN
          go_wp2
          go_quiet (fail)
          go_wp2
          go_ret
          exact ⟨retB HZ.out.symm, drewN_below HB2.out _⟩
      · have hje : j = LN := by omega
        subst hje
        have HZ := hide (HNO.out HN.out)
        clear HCE HHIT HNO HN
        go_wp2
        go_ret
        exact ⟨retB HZ.out.symm, hnx⟩
  · have h1 : x.shape.length = 1 := by omega
    rw [atomL_1 h1]
    rw [h1] at C q0 q1 hb0 HLT HR ⊢
    generalize x.shape[0]?.getD 0 = SZ at *
    clear h2 h2' h0 h1
    generalize x.cells.length = LN at *
    by_cases hz : SZ = 1
    · subst hz
      simp only [decide_true, Bool.not_true, Bool.false_and]
      go_enter Tryd.func43, Tryd.ntmps43
      go_wp2_with fail
      refine C.mono ?_
      rintro e w1 ⟨rfl, hb1⟩
      have q10 := (hb1.cell (p := ⟨w.heap.size, 0, none⟩) HLT.out).trans q0
      have q11 := (hb1.cell (p := ⟨w.heap.size, 1, none⟩) HLT.out).trans q1
      clear C q0 q1
      obtain ⟨b, off, rfl, hbb, hcc⟩ := HR.out (by omega) w1 (hb0.trans (hb1.mono hb0.size))
      simp only [Nat.add_zero] at hcc
      go_wp2
      go_ret
      exact ⟨rfl, hb0.trans (hb1.mono hb0.size)⟩
    have hz' : (SZ == 1) = false := beq_eq_false_iff_ne.2 hz
    simp only [hz, decide_false, Bool.not_false, Bool.true_and]
    go_enter Tryd.func43, Tryd.ntmps43
    go_wp2_with fail
    refine C.mono ?_
    rintro e w1 ⟨rfl, hb1⟩
    have q10 := (hb1.cell (p := ⟨w.heap.size, 0, none⟩) HLT.out).trans q0
    have q11 := (hb1.cell (p := ⟨w.heap.size, 1, none⟩) HLT.out).trans q1
    clear C q0 q1
    obtain ⟨bs, os, rfl, hbb, hcc⟩ := HR.out (by omega) w1 (hb0.trans (hb1.mono hb0.size))
    simp only [Nat.add_zero] at hcc
    go_wp2
    go_loopg [3] LN (fun g i wr => ∃ (j : Nat), g + j = LN ∧ i = .int .i64 (j : Int) ∧ (∀ i, i < j → F i = false) ∧ Below w.heap.size w wr ∧ wr.cell? ⟨w.heap.size, 1, none⟩ = some (.slice a2 LN c2) ∧ w.heap.size < wr.heap.size)
    case atStart => exact ⟨0, rfl, rfl, (by intro i hi; omega), hb0.trans (hb1.mono hb0.size), q11, Nat.lt_of_lt_of_le HLT.out hb1.size⟩
    case round =>
      clear q10 q11 hb1 hb0 hcc hbb
      obtain ⟨j, hj, rfl, hno, hnx, hcl, hsz⟩ := hrel
      have HSZ := hide hsz
      have HN := hide hno
      clear hno hsz
      by_cases hlt : j < LN
      · obtain ⟨b, off, z0, z1, ab, nb, cb, y0, rfl, hbd, hw⟩ := HCE.out j hlt
        obtain ⟨g0, g1, g2, g3⟩ := hw wr hnx
        have hb2 : Below w.heap.size w (wr.alloc (.cells #[.int .i64 z0, .int .i64 z1, .slice ab nb cb] 72)) := hnx.alloc hnx.size _
        obtain ⟨-, -, -, g4⟩ := hw _ hb2
        have hcl2 := cell_one hcl HSZ.out (.cells #[.int .i64 z0, .int .i64 z1, .slice ab nb cb] 72)
        have k0 := cell_new0 wr #[.int .i64 z0, .int .i64 z1, .slice ab nb cb] 72 0 _ rfl
        have k1 := cell_new0 wr #[.int .i64 z0, .int .i64 z1, .slice ab nb cb] 72 1 _ rfl
        have HB2 := hide hb2
        have HBD := hide hbd
        have HH := hide (HHIT.out j hlt)
        clear hw HCE HHIT HNO hb2 hbd
        have hs2 : w.heap.size < (wr.alloc (.cells #[.int .i64 z0, .int .i64 z1, .slice ab nb cb] 72)).heap.size := Nat.lt_of_lt_of_le HSZ.out (by simp)
        have HS2 := hide hs2
        clear hs2
        by_cases e1 : z0 = y0
        · subst e1
          by_cases e2 : z0 = 2
          · subst e2
            have hFJ : F j = true := by rw [HBD.out]; simp 
            have HZ := hide (HH.out hFJ)
            clear hFJ HBD HH HN
            go_wp2
            go_quiet (fail)
            go_wp2
            go_ret
            exact ⟨retB HZ.out.symm, drewN_below HB2.out _⟩
          · have e2' : (z0 == 2) = false := beq_eq_false_iff_ne.2 e2
            by_cases e3 : z0 = 1
            · subst e3
              by_cases e4 : z1 < 32
              · have e4' : decide (z1 < 32) = true := by simp [e4]
                have hFJ : F j = true := by rw [HBD.out]; simp [e4]
                have HZ := hide (HH.out hFJ)
                clear hFJ HBD HH HN
                go_wp2
                go_quiet (fail)
                go_wp2
                go_ret
                exact ⟨retB HZ.out.symm, drewN_below HB2.out _⟩
              · have e4' : decide (z1 < 32) = false := by simp; omega
                by_cases e5 : z1 = 127
                · subst e5
                  have hFJ : F j = true := by rw [HBD.out]; simp 
                  have HZ := hide (HH.out hFJ)
                  clear hFJ HBD HH HN
                  go_wp2
                  go_quiet (fail)
                  go_wp2
                  go_ret
                  exact ⟨retB HZ.out.symm, drewN_below HB2.out _⟩
                · have e5' : (z1 == 127) = false := beq_eq_false_iff_ne.2 e5
                  have hFJ : F j = false := by rw [HBD.out]; simp [e4, e5]
                  have HFJ := hide hFJ
                  clear hFJ HBD HH
                  go_wp2
                  go_quiet (fail)
                  go_wp2
                  go_roundg (LN - (j + 1))
                  case rel =>
                    refine ⟨j + 1, by omega, by go_num, fun i hi => ?_, drewN_below HB2.out _, hcl2, HS2.out⟩
                    rcases Nat.lt_succ_iff_lt_or_eq.1 hi with hi | rfl
                    · exact HN.out i hi
                    · exact HFJ.out
                  case measure => omega
            · have e3' : (z0 == 1) = false := beq_eq_false_iff_ne.2 e3
              have hFJ : F j = false := by rw [HBD.out]; simp [e2, e3]
              have HFJ := hide hFJ
              clear hFJ HBD HH
              go_wp2
              go_quiet (fail)
              go_wp2
              go_roundg (LN - (j + 1))
              case rel =>
                refine ⟨j + 1, by omega, by go_num, fun i hi => ?_, drewN_below HB2.out _, hcl2, HS2.out⟩
                rcases Nat.lt_succ_iff_lt_or_eq.1 hi with hi | rfl
                · exact HN.out i hi
                · exact HFJ.out
              case measure => omega
        · have e1' : (z0 != y0) = true := by simp [e1]
          have hFJ : F j = true := by rw [HBD.out]; simp [e1]
          have HZ := hide (HH.out hFJ)
          clear hFJ HBD HH HN
          go_wp2
          go_quiet (fail)
          go_wp2
          go_ret
          exact ⟨retB HZ.out.symm, drewN_below HB2.out _⟩
      · have hje : j = LN := by omega
        subst hje
        have HZ := hide (HNO.out HN.out)
        clear HCE HHIT HNO HN
        go_wp2
        go_ret
        exact ⟨retB HZ.out.symm, hnx⟩
end Go.Proofs.YtneblkdkhlgmcaaDoor
namespace Go.Proofs.YtneblkdkhlgmcaaDoor
open Go.ChangeShapes Go.WideShapes Go.ChangeAt Go.RowKit
open Rn (Good Byte enc put)
set_option maxRecDepth 100000
set_option linter.unusedVariables false
set_option linter.unusedSimpArgs false
/-- What stands ahead of a sign between two quotes; 0: nothing. -/
def gd (q : ByteArray) (z : Int) : Int := if q.toList = [39] then (if z = 39 then 39 else 0) else if z = 34 ∨ z = 92 then 92 else 0
def g1 (q : ByteArray) (z : Int) : List Int := if gd q z = 0 then [z] else [gd q z, z]
/-- The signs between two quotes. -/
def gl (q : ByteArray) (cs : List Ce) : List Int := cs.flatMap fun c => g1 q c.2.1
/-- Numbers as bytes. -/
def u8 (l : List Int) : List UInt8 := l.map fun z => UInt8.ofNat z.toNat
theorem g1_len (q : ByteArray) (z : Int) : 1 ≤ (g1 q z).length ∧ (g1 q z).length ≤ 2 := by
  unfold g1
  split <;> simp
theorem gl_snoc (q : ByteArray) {cs : List Ce} {j : Nat} (h : j < cs.length) : gl q (cs.take (j + 1)) = gl q (cs.take j) ++ g1 q (cAt cs j).2.1 := by
  rw [List.take_succ_eq_append_getElem h]
  simp only [gl, cAt, List.getElem?_eq_getElem h, List.flatMap_append, List.flatMap_cons, List.flatMap_nil, List.append_nil, Option.getD_some]
theorem gl_len (q : ByteArray) (cs : List Ce) : (gl q cs).length ≤ 2 * cs.length := by
  induction cs with
  | nil => simp [gl]
  | cons c r ih =>
    have := (g1_len q c.2.1).2
    simp only [gl, List.flatMap_cons, List.length_append, List.length_cons] at ih ⊢
    omega
theorem gd_good (q : ByteArray) (z : Int) (h : gd q z ≠ 0) : Good (gd q z) := by
  unfold gd at *
  unfold Good
  repeat' split
  all_goals first | omega | (simp_all)
theorem gl_good (q : ByteArray) {cs : List Ce} (h : ∀ i, i < cs.length → Good (cAt cs i).2.1) : ∀ z ∈ gl q cs, Good z := by
  intro z hz
  obtain ⟨c, hc, hz⟩ := List.mem_flatMap.1 hz
  obtain ⟨i, hi, rfl⟩ := List.mem_iff_getElem.1 hc
  have hg := h i hi
  have e : cAt cs i = cs[i] := by simp [cAt, List.getElem?_eq_getElem hi]
  rw [e] at hg
  unfold g1 at hz
  split at hz
  · simp at hz; rw [hz]; exact hg
  · rename_i h0
    simp at hz
    rcases hz with rfl | rfl
    · exact gd_good _ _ h0
    · exact hg
theorem guard73 (z : Int) (q : ByteArray) (w : World) : Calls Tryd.prog 73 #[.int .i64 z, .string q] w fun e w' => e = .returned (.int .i64 (gd q z)) ∧ w' = w := by
  unfold gd
  by_cases hq : q.toList = [39]
  · rw [if_pos hq]
    have hq2 : (q.toList == [39]) = true := by rw [hq]; rfl
    by_cases hz : z = 39
    · subst hz
      rw [if_pos rfl]
      go_enter Tryd.func73, Tryd.ntmps73
      go_wp2
      go_ret
      exact ⟨rfl, rfl⟩
    · rw [if_neg hz]
      have h1 : (z == 39) = false := beq_eq_false_iff_ne.2 hz
      go_enter Tryd.func73, Tryd.ntmps73
      go_wp2
      go_ret
      exact ⟨rfl, rfl⟩
  · rw [if_neg hq]
    have h2 : (q.toList == [39]) = false := beq_eq_false_iff_ne.2 hq
    by_cases h34 : z = 34
    · subst h34
      rw [if_pos (Or.inl rfl)]
      go_enter Tryd.func73, Tryd.ntmps73
      go_wp2
      go_ret
      exact ⟨rfl, rfl⟩
    · by_cases h92 : z = 92
      · subst h92
        rw [if_pos (Or.inr rfl)]
        go_enter Tryd.func73, Tryd.ntmps73
        go_wp2
        go_ret
        exact ⟨rfl, rfl⟩
      · rw [if_neg (by omega)]
        have h3 : (z == 34) = false := beq_eq_false_iff_ne.2 h34
        have h4 : (z == 92) = false := beq_eq_false_iff_ne.2 h92
        go_enter Tryd.func73, Tryd.ntmps73
        go_wp2
        go_ret
        exact ⟨rfl, rfl⟩
/-- Whether an array is written as a text. -/
def txB (x : Ar) : Bool := decide (x.cells.length = 0) || decide ((cAt x.cells 0).1 = 1)
theorem isText56 {n lo : Nat} {x : Ar} {va : Value} {w : World} (hx : ArIn n lo w x va) : Calls Tryd.prog 56 #[va] w fun e w' => e = .returned (.bool (txB x)) ∧ Below w.heap.size w w' := by
  cases n with
  | zero => exact hx.elim
  | succ n =>
  obtain ⟨a1, c1, a2, c2, rfl, R, hl, hc⟩ := hx
  unfold txB
  by_cases h0 : x.cells.length = 0
  · rw [h0]
    go_enter Tryd.func56, Tryd.ntmps56
    go_wp2
    go_ret
    exact ⟨rfl, one_alloc _ _⟩
  · obtain ⟨b, off, z0, z1, ab, nb, cb, rfl, hw⟩ := cells_at hc 0 (by omega)
    obtain ⟨d0, -, -, e3⟩ := hw (w.alloc (.cells #[.slice a1 x.shape.length c1, .slice (some ⟨b, off, none⟩) x.cells.length c2] 31)) (one_alloc _ _)
    obtain ⟨e0, -, -⟩ := e3
    injection e0 with _ e0
    rw [e0] at d0
    rw [Nat.zero_mul, Nat.add_zero] at d0
    obtain ⟨L, hL⟩ : ∃ L, x.cells.length = L := ⟨_, rfl⟩
    obtain ⟨K, hK⟩ : ∃ K, (cAt x.cells 0).1 = K := ⟨_, rfl⟩
    rw [hL] at h0 hl d0 ⊢
    rw [hK] at d0 ⊢
    have h1 : ((L : Int) == 0) = false := beq_eq_false_iff_ne.2 (by omega)
    have h2 : (0 : Int) < (L : Int) := by omega
    have h3 : decide (L = 0) = false := decide_eq_false h0
    clear hw hc R e0 hK hL
    rw [h3, Bool.false_or]
    go_enter Tryd.func56, Tryd.ntmps56
    go_wp2
    go_ret
    refine ⟨?_, one_alloc _ _⟩
    by_cases hK : K = 1
    · subst hK; rfl
    · rw [decide_eq_false hK]
      rw [show (K == 1) = false from beq_eq_false_iff_ne.2 hK]
      rfl
end Go.Proofs.YtneblkdkhlgmcaaDoor
namespace Go.Proofs.YtneblkdkhlgmcaaDoor
open Go.ChangeShapes Go.WideShapes Go.ChangeAt Go.RowKit
open Rn (Good Byte enc put)
set_option maxRecDepth 100000
set_option linter.unusedVariables false
set_option linter.unusedSimpArgs false
theorem info2 : (Tryd.prog.info? 2).map (fun i => (i.zero, i.size, i.bytes)) = some (some (.int .i64 0), 1, 8) := by kernel_rfl
theorem u8_at (l : List Int) (h : ∀ z ∈ l, Byte z) {j : Nat} (hj : j < (u8 l).length) : (((u8 l)[j]).toNat : Int) = l[j]?.getD 0 := by
  have hj' : j < l.length := by simpa [u8] using hj
  have hb := h l[j] (List.getElem_mem hj')
  unfold Byte at hb
  simp only [u8, List.getElem_map, List.getElem?_eq_getElem hj', Option.getD_some]
  rw [UInt8.toNat_ofNat_of_lt' (by show (l[j]).toNat < 256; omega)]
  omega
theorem conv_none (w : World) (c : Nat) : (convert 44 9 (.slice none 0 c)).run Tryd.prog w = .ok (.string ⟨#[]⟩) w := by
  rw [run_convert_bytes_string w 44 9 5 none 0 c Tryd.underlying44 Tryd.underlying5 Tryd.underlying9]
  rfl
theorem conv_row {w : World} {a : Option Addr} {l : List Int} (R : Rn.Row .u8 w a l) (h : ∀ z ∈ l, Byte z) (c : Nat) : (convert 44 9 (.slice a l.length c)).run Tryd.prog w = .ok (.string ⟨(u8 l).toArray⟩) w := by
  have hul : (u8 l).length = l.length := by simp [u8]
  rcases R.2 with h0 | ⟨b, off, ha, hb, hc⟩
  · subst h0
    cases a with
    | none => exact conv_none w c
    | some ad =>
      exact run_convert_bytes_back w 44 9 5 ad c [] Tryd.underlying44 Tryd.underlying5 Tryd.underlying9 (fun j hj => absurd hj (by simp))
  · rw [← hul, ha]
    refine run_convert_bytes_back w 44 9 5 ⟨b, off, none⟩ c (u8 l) Tryd.underlying44 Tryd.underlying5 Tryd.underlying9 (fun j hj => ?_)
    rw [u8_at l h hj, Lib.add_plain]
    exact hc j (by rw [← hul]; exact hj)
set_option maxHeartbeats 4000000 in
theorem signs57 {n lo : Nat} {cs : List Ce} {a2 : Option Addr} {c2 : Nat} {q : ByteArray} {w : World} (hc : CellsIn n lo w cs a2) (hl : cs.length ≤ 100000) (hg : ∀ i, i < cs.length → Good (cAt cs i).2.1) (T : Rn.Tab w) :
    Calls Tryd.prog 57 #[.slice a2 cs.length c2, .string q] w fun e w' => e = .returned (.string ⟨(u8 (enc (gl q cs))).toArray⟩) ∧ Below w.heap.size w w' := by
  obtain ⟨i2, hi2, hz20, hz21, hz22⟩ := info_parts info2
  have HCF : Hid (∀ i, i < cs.length → ∃ b off z0 ab nb cb, a2 = some ⟨b, off, none⟩ ∧ ∀ wr, Below w.heap.size w wr → wr.cell? ⟨b, off + i * 3, none⟩ = some (.int .i64 z0) ∧ wr.cell? ⟨b, off + i * 3 + 1, none⟩ = some (.int .i64 (cAt cs i).2.1) ∧ wr.cell? ⟨b, off + i * 3 + 2, none⟩ = some (.slice ab nb cb)) := hide fun i hi => by
    obtain ⟨b, off, z0, z1, ab, nb, cb, ha, hw⟩ := cells_at hc i hi
    refine ⟨b, off, z0, ab, nb, cb, ha, fun wr hwr => ?_⟩
    obtain ⟨g0, g1, g2, g3⟩ := hw wr hwr
    obtain ⟨-, e1, -⟩ := g3
    injection e1 with _ e1
    rw [e1] at g1
    exact ⟨g0, g1, g2⟩
  have HGL := hide (fun j (hj : j < cs.length) => gl_snoc q hj)
  have HLN := hide (fun j => gl_len q (cs.take j))
  have HGG := hide (gl_good q hg)
  have HT := hide T
  obtain ⟨L, hL⟩ : ∃ L, cs.length = L := ⟨_, rfl⟩
  have HTK : Hid (cs.take L = cs) := hide (by rw [← hL]; exact List.take_length)
  have HL2 : Hid (∀ j, (cs.take j).length ≤ L) := hide (fun j => by rw [← hL]; rw [List.length_take]; omega)
  rw [hL] at HCF HGL hl ⊢
  clear hc hg T hL
  go_enter Tryd.func57, Tryd.ntmps57
  go_wp2_with (at_make; refine wpList_make_own _ rfl _ _ 47 rfl w.heap.size 2 i2 (.int .i64 0) 1 Tryd.underlying47 hi2 hz20 hz21 .i64 .i64 _ L rfl rfl rfl (by rw [hz22]; omega) (by unfold maxLen; omega) (Nat.le_refl _) ?_; intro w0 hown0 hgrow0)
  have hb0 : Below w.heap.size w w0 := (Below.refl _ _).grown hgrow0 (Nat.le_refl _) (fun q hq => by cases hq)
  clear hgrow0
  go_wp2
  go_loopg [5, 16] L (fun g v i wq => ∃ k : Nat, g + k = L ∧ i = .int .i64 (k : Int) ∧ Below w.heap.size w wq ∧ wq.ownsRow w.heap.size 2 1 v (gl q (cs.take k)).length ((gl q (cs.take k)).map (Value.int .i64)))
  case atStart => exact ⟨0, rfl, rfl, hb0, by simpa [gl] using hown0⟩
  case round =>
    obtain ⟨k, hgk, rfl, hnx, hown⟩ := hrel
    clear hb0 hown0
    by_cases hlk : k < L
    · obtain ⟨b, off, z0, ab, nb, cb, rfl, hw⟩ := HCF.out k hlk
      obtain ⟨d0, d1, d2⟩ := hw wr hnx
      have hst := HGL.out k hlk
      have hln := HLN.out k
      have hl2 := HL2.out k
      obtain ⟨z, hz⟩ : ∃ z, (cAt cs k).2.1 = z := ⟨_, rfl⟩
      obtain ⟨pre, hpre⟩ : ∃ pre, gl q (cs.take k) = pre := ⟨_, rfl⟩
      rw [hz] at d1 hst
      rw [hpre] at hst hln hown
      have HST := hide hst
      have OW1 := hown.alloc (.cells #[.int .i64 z0, .int .i64 z, .slice ab nb cb] 72)
      have HNX := hide hnx
      have hbx : Below w.heap.size w (wr.alloc (.cells #[.int .i64 z0, .int .i64 z, .slice ab nb cb] 72)) := hnx.alloc hnx.size _
      have HBX := hide hbx
      clear hw hz hpre hst hown hnx hbx HCF HGL HLN HL2
      go_wp2_with fail
      refine (guard73 _ _ _).mono ?_
      rintro e w2 ⟨rfl, rfl⟩
      by_cases h0 : gd q z = 0
      · have hg1 : g1 q z = [z] := by unfold g1; rw [if_pos h0]
        rw [hg1] at HST
        rw [h0]
        have OW2 := OW1.alloc (.cells #[.int .i64 z] 2)
        have hb2 := HBX.out.alloc HBX.out.size (.cells #[.int .i64 z] 2)
        have HB2 := hide hb2
        have HSZ : Hid (w.heap.size ≤ ((wr.alloc (.cells #[.int .i64 z0, .int .i64 z, .slice ab nb cb] 72)).alloc (.cells #[.int .i64 z] 2)).heap.size) := hb2.size
        clear hb2 OW1
        go_wp2_with (at_builtin; refine wpList_append_own _ rfl _ _ 47 rfl w.heap.size 2 i2 (.int .i64 0) 1 8 Tryd.underlying47 hi2 hz20 hz21 hz22 rfl (by decide) _ _ _ rfl OW2 ⟨wr.heap.size + 1, 0, none⟩ 1 1 [.int .i64 z] rfl rfl ?c1 ?c2 ?c3 ?c4 ?c5 ?_)
        case c1 =>
          intro j u hj
          match j, hj with
          | 0, hj => simp at hj; subst hj; simp [Addr.add]
        case c2 => intro u hu; simp at hu; subst hu; rfl
        case c3 => unfold maxLen; omega
        case c4 => omega
        case c5 => exact HSZ.out
        intro v' w3 hown3 hgrow3 _
        have HB3 : Hid (Below w.heap.size w w3) := hide (HB2.out.grown hgrow3 HSZ.out (fun q hq => (OW2.lt q hq).1))
        have HO3 : Hid (w3.ownsRow w.heap.size 2 1 v' (gl q (cs.take (k + 1))).length ((gl q (cs.take (k + 1))).map (Value.int .i64))) := hide (by rw [HST.out]; simpa using hown3)
        clear hown3 hgrow3 OW2 HB2 HSZ d0 d1 d2
        go_wp2
        go_roundg (L - (k + 1))
        case rel => exact ⟨k + 1, by omega, by go_num, HB3.out, HO3.out⟩
        case measure => omega
      · have hg1 : g1 q z = [gd q z, z] := by unfold g1; rw [if_neg h0]
        rw [hg1] at HST
        obtain ⟨gz, hgz⟩ : ∃ gz, gd q z = gz := ⟨_, rfl⟩
        rw [hgz] at h0 HST ⊢
        have h0' : (gz != 0) = true := bne_iff_ne.2 h0
        have OW2 := OW1.alloc (.cells #[.int .i64 gz] 2)
        have hb2 := HBX.out.alloc HBX.out.size (.cells #[.int .i64 gz] 2)
        have HB2 := hide hb2
        have HSZ : Hid (w.heap.size ≤ ((wr.alloc (.cells #[.int .i64 z0, .int .i64 z, .slice ab nb cb] 72)).alloc (.cells #[.int .i64 gz] 2)).heap.size) := hb2.size
        have e1 : ((wr.alloc (.cells #[.int .i64 z0, .int .i64 z, .slice ab nb cb] 72)).alloc (.cells #[.int .i64 gz] 2)).cell? ⟨wr.heap.size, 1, none⟩ = some (.int .i64 z) := cell_one (cell_new0 wr #[.int .i64 z0, .int .i64 z, .slice ab nb cb] 72 1 _ rfl) (by simp) _
        clear hb2 OW1 hgz
        go_wp2_with (at_builtin; refine wpList_append_own _ rfl _ _ 47 rfl w.heap.size 2 i2 (.int .i64 0) 1 8 Tryd.underlying47 hi2 hz20 hz21 hz22 rfl (by decide) _ _ _ rfl OW2 ⟨wr.heap.size + 1, 0, none⟩ 1 1 [.int .i64 gz] rfl rfl ?c1 ?c2 ?c3 ?c4 ?c5 ?_)
        case c1 =>
          intro j u hj
          match j, hj with
          | 0, hj => simp at hj; subst hj; simp [Addr.add]
        case c2 => intro u hu; simp at hu; subst hu; rfl
        case c3 => unfold maxLen; omega
        case c4 => omega
        case c5 => exact HSZ.out
        intro v3 w3 hown3 hgrow3 _
        have e3 : w3.cell? ⟨wr.heap.size, 1, none⟩ = some (.int .i64 z) := hgrow3.cell e1 (fun e => by
          rcases OW2.2 with ⟨h8, -⟩ | ⟨g, cap, cur, h8, -, hg8, -⟩
          · rw [h8] at e; cases e
          · rw [h8] at e
            cases e
            have h7 : ((wr.alloc (.cells #[.int .i64 z0, .int .i64 z, .slice ab nb cb] 72)).alloc (.cells #[.int .i64 gz] 2)).heap[wr.heap.size]? = some (.cells #[.int .i64 z0, .int .i64 z, .slice ab nb cb] 72 (0, 0)) := (Lib.alloc_old _ _ wr.heap.size (by simp)).trans (heap_alloc_new wr _)
            have h9 := h7.symm.trans hg8
            cases h9)
        have HB3 := hide (HB2.out.grown hgrow3 HSZ.out (fun q hq => (OW2.lt q hq).1))
        have OW3 := hown3.alloc (.cells #[.int .i64 z] 2)
        have HSZ3 : Hid (w.heap.size ≤ (w3.alloc (.cells #[.int .i64 z] 2)).heap.size) := hide (HB3.out.alloc HB3.out.size _).size
        clear hown3 hgrow3 OW2 HB2 HSZ d0 d1 d2 e1
        go_wp2_with (at_builtin; refine wpList_append_own _ rfl _ _ 47 rfl w.heap.size 2 i2 (.int .i64 0) 1 8 Tryd.underlying47 hi2 hz20 hz21 hz22 rfl (by decide) _ _ _ rfl OW3 ⟨w3.heap.size, 0, none⟩ 1 1 [.int .i64 z] rfl rfl ?k1 ?k2 ?k3 ?k4 ?k5 ?_)
        case k1 =>
          intro j u hj
          match j, hj with
          | 0, hj => simp at hj; subst hj; simp [Addr.add]
        case k2 => intro u hu; simp at hu; subst hu; rfl
        case k3 => unfold maxLen; omega
        case k4 => omega
        case k5 => exact HSZ3.out
        intro v4 w4 hown4 hgrow4 _
        have HB4 : Hid (Below w.heap.size w w4) := hide ((HB3.out.alloc HB3.out.size _).grown hgrow4 HSZ3.out (fun q hq => (OW3.lt q hq).1))
        have HO4 : Hid (w4.ownsRow w.heap.size 2 1 v4 (gl q (cs.take (k + 1))).length ((gl q (cs.take (k + 1))).map (Value.int .i64))) := hide (by rw [HST.out]; simpa [List.append_assoc] using hown4)
        clear hown4 hgrow4 OW3 HB3 HSZ3 e3
        go_wp2
        go_roundg (L - (k + 1))
        case rel => exact ⟨k + 1, by omega, by go_num, HB4.out, HO4.out⟩
        case measure => omega
    · have hke : k = L := by omega
      subst hke
      rw [HTK.out] at hown
      have hl9 : (gl q cs).length ≤ 2 * k := by have := HLN.out k; rw [HTK.out] at this; exact Nat.le_trans this (by have := HL2.out k; rw [HTK.out] at this; omega)
      obtain ⟨a5, c5, rfl, R5, -, -, -⟩ := Rn.row_owned hown (by omega)
      have hT5 : Rn.Tab wr := HT.out.below hnx HT.out.1
      have HW := hide (Rn.write_any (gl q cs) (gl q cs).length a5 c5 wr R5 hT5 (by omega) (Nat.le_refl _) (by rw [List.take_length]; exact HGG.out) (fun h => absurd h (by omega)))
      have HNX := hide hnx
      obtain ⟨M, hM⟩ : ∃ M, (gl q cs).length = M := ⟨_, rfl⟩
      rw [hM] at HW ⊢
      clear hown R5 hT5 hnx
      go_wp2_with fail
      refine HW.out.mono ?_
      rintro e w6 ⟨h6, -, hb6⟩
      obtain ⟨a6, rfl, R6, -⟩ := h6 hM.symm
      have hcv := conv_row R6 (Rn.enc_bytes HGG.out) (enc (gl q cs)).length
      have HB6 := hide (HNX.out.trans (hb6.mono HNX.out.size))
      clear h6 R6 hb6 HW
      go_wp2
      go_ret
      exact ⟨rfl, HB6.out⟩
end Go.Proofs.YtneblkdkhlgmcaaDoor
namespace Go.Proofs.YtneblkdkhlgmcaaDoor
open Go.ChangeShapes Go.WideShapes Go.ChangeAt Go.RowKit
open Rn (Good Byte enc put)
set_option maxRecDepth 100000
set_option linter.unusedVariables false
set_option linter.unusedSimpArgs false
def gV (G : Gs) : Value := .agg #[G.s1, G.s2, G.s3, .string G.outer, .string G.power, .string G.opn, .string G.cls, .string G.left, .string G.right, .string G.minus, .string G.quote, .bool G.trains, .bool G.lone, .bool G.square]
def str (l : List UInt8) : ByteArray := ⟨l.toArray⟩
/-- An array's numbers as words. -/
def numW (m : ByteArray) (cs : List Ce) : List ByteArray := cs.map fun c => str (numT c.2.1 m.data.toList)
/-- An array as a text. -/
def litT (G : Gs) (x : Ar) : List UInt8 := if txB x then G.quote.data.toList ++ u8 (enc (gl G.quote x.cells)) ++ G.quote.data.toList else pT false (numW G.minus x.cells)
def G0 : Gs := ⟨.slice none 0 0, .slice none 0 0, .slice none 0 0, ⟨#[]⟩, ⟨#[]⟩, ⟨#[]⟩, ⟨#[]⟩, ⟨#[]⟩, ⟨#[]⟩, ⟨#[]⟩, ⟨#[]⟩, false, false, false⟩
theorem Wr.new (w : World) (G : Gs) (rt : ByteArray) : Wr w.heap.size (w.alloc (.cells (wC G rt false (.pointer none) (.slice none 0 0)) 60)) w.heap.size G rt false [] (.pointer none) (.slice none 0 0) :=
  ⟨Nat.le_refl _, Or.inl rfl, heap_alloc_new w _, World.ownsRow_nil _ _ _ _⟩
theorem numT_len (z : Int) (m : List UInt8) (h0 : -9223372036854775808 ≤ z) (h1 : z ≤ 9223372036854775807) : (numT z m).length ≤ m.length + 20 := by
  unfold numT
  have := dig_len z.natAbs (by omega)
  split
  · rw [List.length_append]; omega
  · omega
theorem pT_len (bg : Bool) (ws : List ByteArray) (M : Nat) (h : ∀ s ∈ ws, s.size ≤ M) : (pT bg ws).length ≤ ws.length * (M + 1) := by
  induction ws generalizing bg with
  | nil => simp [pT]
  | cons s r ih =>
    have h1 := h s (by simp)
    have h2 := ih true (fun t ht => h t (by simp [ht]))
    have h3 : s.data.toList.length = s.size := by simp
    simp only [pT, List.length_append, List.length_cons, h3]
    have h4 : (if bg = true then [32] else [] : List UInt8).length ≤ 1 := by split <;> simp
    rw [Nat.succ_mul]
    omega
set_option maxHeartbeats 4000000 in
theorem literal34_text {n lo : Nat} {x : Ar} {va : Value} {G : Gs} {w : World} (hx : ArIn n lo w x va) (hl : x.cells.length ≤ 100000) (ht : txB x = true) (hg : ∀ i, i < x.cells.length → Good (cAt x.cells i).2.1) (hq : G.quote.size ≤ 1000000) (T : Rn.Tab w) :
    Calls Tryd.prog 34 #[va, gV G] w fun e w' => e = .returned (.string (str (litT G x))) ∧ Below w.heap.size w w' := by
  have HI := hide (fun wr (hw : Below w.heap.size w wr) => isText56 (hx.next hw))
  rw [ht] at HI
  cases n with
  | zero => exact hx.elim
  | succ n =>
  obtain ⟨a1, c1, a2, c2, rfl, R, hl', hc⟩ := hx
  have HS := hide (fun wr (hw : Below w.heap.size w wr) => signs57 (c2 := c2) (q := G.quote) ((show CellsIn n lo w x.cells a2 from hc).mono (Nat.le_refl _) hw) hl hg (T.below hw T.1))
  have hsl : (u8 (enc (gl G.quote x.cells))).length ≤ 800000 := by
    have e1 : (u8 (enc (gl G.quote x.cells))).length = (enc (gl G.quote x.cells)).length := by simp [u8]
    have e2 := (Rn.enc_len (gl G.quote x.cells)).2
    have e3 := gl_len G.quote x.cells
    omega
  have HR : Hid (litT G x = G.quote.data.toList ++ u8 (enc (gl G.quote x.cells)) ++ G.quote.data.toList) := hide (by unfold litT; rw [ht]; rfl)
  obtain ⟨S, hS⟩ : ∃ S, u8 (enc (gl G.quote x.cells)) = S := ⟨_, rfl⟩
  rw [hS] at HS HR hsl
  obtain ⟨L, hL⟩ : ∃ L, x.cells.length = L := ⟨_, rfl⟩
  obtain ⟨SL, hSL⟩ : ∃ SL, x.shape.length = SL := ⟨_, rfl⟩
  rw [hL] at HS HI
  rw [hSL] at HI
  rw [hL, hSL]
  obtain ⟨W2, hW2⟩ : ∃ W2, (w.alloc (.cells #[.slice a1 SL c1, .slice a2 L c2] 31)).alloc (.cells #[G.s1, G.s2, G.s3, .string G.outer, .string G.power, .string G.opn, .string G.cls, .string G.left, .string G.right, .string G.minus, .string G.quote, .bool G.trains, .bool G.lone, .bool G.square] 27) = W2 := ⟨_, rfl⟩
  have hb2 : Below w.heap.size w W2 := by rw [← hW2]; exact two_allocs _ _ _
  have s2 : W2.heap.size = w.heap.size + 2 := by rw [← hW2]; simp
  have hA : W2.heap[w.heap.size]? = some (.cells #[.slice a1 SL c1, .slice a2 L c2] 31 (0, 0)) := by
    rw [← hW2]; exact (Lib.alloc_old _ _ w.heap.size (by simp)).trans (heap_alloc_new w _)
  have hGb : W2.heap[w.heap.size + 1]? = some (.cells #[G.s1, G.s2, G.s3, .string G.outer, .string G.power, .string G.opn, .string G.cls, .string G.left, .string G.right, .string G.minus, .string G.quote, .bool G.trains, .bool G.lone, .bool G.square] 27 (0, 0)) := by
    have h := heap_alloc_new (w.alloc (.cells #[.slice a1 SL c1, .slice a2 L c2] 31)) (.cells #[G.s1, G.s2, G.s3, .string G.outer, .string G.power, .string G.opn, .string G.cls, .string G.left, .string G.right, .string G.minus, .string G.quote, .bool G.trains, .bool G.lone, .bool G.square] 27)
    have e : (w.alloc (.cells #[.slice a1 SL c1, .slice a2 L c2] 31)).heap.size = w.heap.size + 1 := by simp
    rw [e] at h
    rw [← hW2]; exact h
  have KS : Hid (∀ W, Below W2.heap.size W2 W → (Below W2.heap.size W2 W ∧ W.cell? ⟨w.heap.size, 0, none⟩ = some (.slice a1 SL c1) ∧ W.cell? ⟨w.heap.size, 1, none⟩ = some (.slice a2 L c2)) ∧ W.cell? ⟨w.heap.size + 1, 10, none⟩ = some (.string G.quote) ∧ W.cell? ⟨w.heap.size + 1, 9, none⟩ = some (.string G.minus)) := hide fun W h => by
    have hA2 := (h.block w.heap.size (by omega)).trans hA
    have hG2 := (h.block (w.heap.size + 1) (by omega)).trans hGb
    exact ⟨⟨h, (Lib.cell_of_heap hA2 0).trans rfl, (Lib.cell_of_heap hA2 1).trans rfl⟩, (Lib.cell_of_heap hG2 10).trans rfl, (Lib.cell_of_heap hG2 9).trans rfl⟩
  have HB2 := hide hb2
  have hlen1 : ¬ (9223372036854775807 < G.quote.size + S.length) := by omega
  have hlen2 : ¬ (9223372036854775807 < G.quote.size + S.length + G.quote.size) := by omega
  obtain ⟨⟨-, k0, k1⟩, -⟩ := KS.out W2 (Below.refl _ _)
  unfold gV
  go_enter Tryd.func34, Tryd.ntmps34
  go_upto_region 1 with fail
  try rw [hW2]
  clear hW2 hc hg T R hl' hA hGb
  go_wp2_with fail
  refine (HI.out W2 HB2.out).mono ?_
  rintro e w3 ⟨rfl, hb3⟩
  go_upto_region 2 with fail
  have HB3 := hide hb3
  have HD0 : Hid (Below W2.heap.size W2 w3.drew) := hide (hb3.drew)
  have HB23 : Hid (∀ W, Below W2.heap.size W2 W → Below w.heap.size w W) := hide fun W h => HB2.out.trans (h.mono HB2.out.size)
  clear hb2 hb3 k0 k1
  go_region_held3 (fun W => (Below W2.heap.size W2 W ∧ W.cell? ⟨w.heap.size, 0, none⟩ = some (.slice a1 SL c1) ∧ W.cell? ⟨w.heap.size, 1, none⟩ = some (.slice a2 L c2)) ∧ W.cell? ⟨w.heap.size + 1, 10, none⟩ = some (.string G.quote) ∧ W.cell? ⟨w.heap.size + 1, 9, none⟩ = some (.string G.minus)) (first | with_reducible exact KS.out _ HD0.out | with_reducible exact KS.out _ (by with_reducible assumption)) (first | (go_at_call 57; refine (HS.out _ (HB23.out _ HD0.out)).mono ?_; rintro e w6 ⟨rfl, hb6⟩; have hb7 := HD0.out.trans (hb6.mono HD0.out.size)))
  go_wp2
  go_ret
  refine ⟨?_, HB23.out _ hb7⟩
  rw [HR.out]
  have e : G.quote ++ ⟨S.toArray⟩ ++ G.quote = str (G.quote.data.toList ++ S ++ G.quote.data.toList) := by
    have e1 := cat_l G.quote S
    rw [e1]
    have e2 := str_mk G.quote
    have e3 := cat_mk (G.quote.data.toList ++ S) G.quote.data.toList
    rw [← e2] at e3
    exact e3
  rw [← e]
  rfl
theorem StrR.next {p : Nat} {w w' : World} {ad : Option Addr} {ws : List ByteArray} (h : StrR p w ad ws) (hb : Below w.heap.size w w') : StrR p w' ad ws :=
  ⟨h.1, fun j hj => by
    obtain ⟨b, off, ha, hl, hp, h5, hc⟩ := h.2 j hj
    exact ⟨b, off, ha, Nat.lt_of_lt_of_le hl hb.size, hp, by rw [hb.block b hl]; exact h5, (hb.cell (p := ⟨b, off + j, none⟩) hl).trans hc⟩⟩
theorem info9 : (Tryd.prog.info? 9).map (fun i => (i.zero, i.size, i.bytes)) = some (some (.string ⟨#[]⟩), 1, 16) := by kernel_rfl
theorem numW_snoc (m : ByteArray) {cs : List Ce} {j : Nat} (h : j < cs.length) : numW m (cs.take (j + 1)) = numW m (cs.take j) ++ [str (numT (cAt cs j).2.1 m.data.toList)] := by
  rw [List.take_succ_eq_append_getElem h]
  simp only [numW, cAt, List.getElem?_eq_getElem h, List.map_append, List.map_cons, List.map_nil, Option.getD_some]
theorem StrR.own {p : Nat} {w : World} {base : Nat} {v : Value} {ws : List ByteArray} (h : w.ownsRow base 9 1 v ws.length (ws.map Value.string)) (hp : w.heap.size ≤ p) (hl : ws.length ≤ 1000000) : ∃ ad c, v = .slice ad ws.length c ∧ StrR p w ad ws := by
  rcases h.2 with ⟨rfl, h0⟩ | ⟨g, cap, cur, rfl, hb, hg, hn, -⟩
  · exact ⟨none, 0, by rw [h0], hl, fun j hj => absurd hj (by omega)⟩
  · refine ⟨_, cap, rfl, hl, fun j hj => ⟨g, 0, rfl, lt_heap hg, by have := lt_heap hg; omega, ?_, ?_⟩⟩
    · rintro ⟨cs, fz, h⟩
      rw [hg] at h
      cases h
    · have := h.cells (g := g) rfl j (.string (ws[j]?.getD ⟨#[]⟩)) (by simp [List.getElem?_eq_getElem hj])
      rw [Lib.add_plain] at this
      exact this
set_option maxHeartbeats 8000000 in
theorem literal34_num {n lo : Nat} {x : Ar} {va : Value} {G : Gs} {w : World} (hx : ArIn n lo w x va) (hl : x.cells.length ≤ 100000) (ht : txB x = false) (hg : ∀ i, i < x.cells.length → I64 (cAt x.cells i).2.1) (hq : G.minus.size ≤ 1000000) (T : Pw w) :
    Calls Tryd.prog 34 #[va, gV G] w fun e w' => e = .returned (.string (str (litT G x))) ∧ Below w.heap.size w w' := by
  obtain ⟨i9, hi9, hz90, hz91, hz92⟩ := info_parts info9
  have HI := hide (fun wr (hw : Below w.heap.size w wr) => isText56 (hx.next hw))
  rw [ht] at HI
  cases n with
  | zero => exact hx.elim
  | succ n =>
  obtain ⟨a1, c1, a2, c2, rfl, R, hl', hc⟩ := hx
  have HCF : Hid (∀ i, i < x.cells.length → ∃ b off z0 ab nb cb, a2 = some ⟨b, off, none⟩ ∧ ∀ wr, Below w.heap.size w wr → wr.cell? ⟨b, off + i * 3, none⟩ = some (.int .i64 z0) ∧ wr.cell? ⟨b, off + i * 3 + 1, none⟩ = some (.int .i64 (cAt x.cells i).2.1) ∧ wr.cell? ⟨b, off + i * 3 + 2, none⟩ = some (.slice ab nb cb)) := hide fun i hi => by
    obtain ⟨b, off, z0, z1, ab, nb, cb, ha, hw⟩ := cells_at hc i hi
    refine ⟨b, off, z0, ab, nb, cb, ha, fun wr hwr => ?_⟩
    obtain ⟨g0, g1, g2, g3⟩ := hw wr hwr
    obtain ⟨-, e1, -⟩ := g3
    injection e1 with _ e1
    rw [e1] at g1
    exact ⟨g0, g1, g2⟩
  have HR : Hid (litT G x = pT false (numW G.minus x.cells)) := hide (by unfold litT; rw [ht]; rfl)
  have HSN := hide (fun j (hj : j < x.cells.length) => numW_snoc G.minus hj)
  have HTL := hide (fun (h : numW G.minus (x.cells.take x.cells.length) = numW G.minus x.cells) => h)
  have HTK : Hid (numW G.minus (x.cells.take x.cells.length) = numW G.minus x.cells) := hide (by rw [List.take_length])
  have HNL : Hid (∀ k, k ≤ x.cells.length → (numW G.minus (x.cells.take k)).length = k) := hide (fun k hk => by simp [numW]; omega)
  have HPL : Hid ((pT false (numW G.minus x.cells)).length ≤ 100000 * 1000021) := hide (by
    have h := pT_len false (numW G.minus x.cells) 1000020 (fun s hs => by
      obtain ⟨c, hc1, rfl⟩ := List.mem_map.1 hs
      obtain ⟨i, hi, rfl⟩ := List.mem_iff_getElem.1 hc1
      have h1 := hg i hi
      have e : cAt x.cells i = x.cells[i] := by simp [cAt, List.getElem?_eq_getElem hi]
      rw [e] at h1
      have h2 := numT_len _ G.minus.data.toList h1.1 h1.2
      have h3 : G.minus.data.toList.length = G.minus.size := by simp
      show (str _).data.size ≤ _
      simp only [str, List.size_toArray]
      omega)
    have e : (numW G.minus x.cells).length = x.cells.length := by simp [numW]
    rw [e] at h
    exact Nat.le_trans h (Nat.mul_le_mul hl (Nat.le_refl _)))
  have HG := hide hg
  have HT := hide T
  have HMS := hide hq
  obtain ⟨CS, hCS⟩ : ∃ CS, x.cells = CS := ⟨_, rfl⟩
  rw [hCS] at HCF HSN HTK HNL HPL HG hl HR HI
  rw [hCS]
  obtain ⟨L, hL⟩ : ∃ L, CS.length = L := ⟨_, rfl⟩
  obtain ⟨SL, hSL⟩ : ∃ SL, x.shape.length = SL := ⟨_, rfl⟩
  rw [hL] at HCF HSN HTK HNL HG hl HI
  rw [hSL] at HI
  rw [hL, hSL]
  obtain ⟨W2, hW2⟩ : ∃ W2, (w.alloc (.cells #[.slice a1 SL c1, .slice a2 L c2] 31)).alloc (.cells #[G.s1, G.s2, G.s3, .string G.outer, .string G.power, .string G.opn, .string G.cls, .string G.left, .string G.right, .string G.minus, .string G.quote, .bool G.trains, .bool G.lone, .bool G.square] 27) = W2 := ⟨_, rfl⟩
  have hb2 : Below w.heap.size w W2 := by rw [← hW2]; exact two_allocs _ _ _
  have s2 : W2.heap.size = w.heap.size + 2 := by rw [← hW2]; simp
  have hA : W2.heap[w.heap.size]? = some (.cells #[.slice a1 SL c1, .slice a2 L c2] 31 (0, 0)) := by
    rw [← hW2]; exact (Lib.alloc_old _ _ w.heap.size (by simp)).trans (heap_alloc_new w _)
  have hGb : W2.heap[w.heap.size + 1]? = some (.cells #[G.s1, G.s2, G.s3, .string G.outer, .string G.power, .string G.opn, .string G.cls, .string G.left, .string G.right, .string G.minus, .string G.quote, .bool G.trains, .bool G.lone, .bool G.square] 27 (0, 0)) := by
    have h := heap_alloc_new (w.alloc (.cells #[.slice a1 SL c1, .slice a2 L c2] 31)) (.cells #[G.s1, G.s2, G.s3, .string G.outer, .string G.power, .string G.opn, .string G.cls, .string G.left, .string G.right, .string G.minus, .string G.quote, .bool G.trains, .bool G.lone, .bool G.square] 27)
    have e : (w.alloc (.cells #[.slice a1 SL c1, .slice a2 L c2] 31)).heap.size = w.heap.size + 1 := by simp
    rw [e] at h
    rw [← hW2]; exact h
  have KS : Hid (∀ W, Below W2.heap.size W2 W → (Below W2.heap.size W2 W ∧ W.cell? ⟨w.heap.size, 0, none⟩ = some (.slice a1 SL c1) ∧ W.cell? ⟨w.heap.size, 1, none⟩ = some (.slice a2 L c2)) ∧ W.cell? ⟨w.heap.size + 1, 10, none⟩ = some (.string G.quote) ∧ W.cell? ⟨w.heap.size + 1, 9, none⟩ = some (.string G.minus)) := hide fun W h => by
    have hA2 := (h.block w.heap.size (by omega)).trans hA
    have hG2 := (h.block (w.heap.size + 1) (by omega)).trans hGb
    exact ⟨⟨h, (Lib.cell_of_heap hA2 0).trans rfl, (Lib.cell_of_heap hA2 1).trans rfl⟩, (Lib.cell_of_heap hG2 10).trans rfl, (Lib.cell_of_heap hG2 9).trans rfl⟩
  have HB2 := hide hb2
  obtain ⟨⟨-, k0, k1⟩, -, k9⟩ := KS.out W2 (Below.refl _ _)
  have HB23 : Hid (∀ W, Below W2.heap.size W2 W → Below w.heap.size w W) := hide fun W h => HB2.out.trans (h.mono HB2.out.size)
  unfold gV
  clear HTL hCS hL hSL hq
  go_enter Tryd.func34, Tryd.ntmps34
  go_upto_region 1 with fail
  try rw [hW2]
  clear hW2 hc hg T R hl' hA hGb
  go_wp2_with fail
  refine (HI.out W2 HB2.out).mono ?_
  rintro e w3 ⟨rfl, hb3⟩
  obtain ⟨⟨-, k30, k31⟩, -, k39⟩ := KS.out w3 hb3
  have HB3 := hide hb3
  have h23 := hb3.size
  clear k0 k1 k9 HI hb2
  go_wp2_with (at_make; refine wpList_make_own _ rfl _ _ 25 rfl w3.heap.size 9 i9 (.string ⟨#[]⟩) 1 Tryd.underlying25 hi9 hz90 hz91 .i64 .i64 _ L rfl rfl rfl (by rw [hz92]; omega) (by unfold maxLen; omega) (Nat.le_refl _) ?_; intro w4 hown4 hgrow4; have hb4 : Below w3.heap.size w3 w4 := (Below.refl _ _).grown hgrow4 (Nat.le_refl _) (fun q hq => by cases hq); obtain ⟨⟨-, k40, k41⟩, -, k49⟩ := KS.out w4 (HB3.out.trans (hb4.mono h23)))
  clear k30 k31 k39 k40 k41 k49 hgrow4 hb3
  go_loopg [5, 29] L (fun g v i wq => ∃ k : Nat, g + k = L ∧ i = .int .i64 (k : Int) ∧ Below w3.heap.size w3 wq ∧ wq.ownsRow w3.heap.size 9 1 v k ((numW G.minus (CS.take k)).map Value.string))
  case atStart => exact ⟨0, rfl, rfl, hb4, by simpa [numW] using hown4⟩
  case round =>
    obtain ⟨k, hgk, rfl, hnx, hown⟩ := hrel
    clear hb4 hown4
    have hnx2 : Below W2.heap.size W2 wr := HB3.out.trans (hnx.mono h23)
    by_cases hlk : k < L
    · obtain ⟨b, off, z0, ab, nb, cb, rfl, hw⟩ := HCF.out k hlk
      obtain ⟨d0, d1, d2⟩ := hw wr (HB23.out _ hnx2)
      have hst := HSN.out k hlk
      have h64 := HG.out k hlk
      obtain ⟨z, hz⟩ : ∃ z, (cAt CS k).2.1 = z := ⟨_, rfl⟩
      rw [hz] at d1 hst h64
      have hbx : Below W2.heap.size W2 (wr.alloc (.cells #[.int .i64 z0, .int .i64 z, .slice ab nb cb] 72)) := hnx2.alloc hnx2.size _
      obtain ⟨-, -, k9⟩ := KS.out _ hbx
      have hms : G.minus.size ≤ 140737488355328 := by have := HMS.out; omega
      have hpw : Pw (wr.alloc (.cells #[.int .i64 z0, .int .i64 z, .slice ab nb cb] 72)) :=
        Lib.tabBelow_of_tabIs HT.out _ (HB23.out _ hbx)
      have HN := hide (num5 z G.minus hms h64.1 h64.2 _ hpw)
      have OW1 := hown.alloc (.cells #[.int .i64 z0, .int .i64 z, .slice ab nb cb] 72)
      have hn3 : Below w3.heap.size w3 (wr.alloc (.cells #[.int .i64 z0, .int .i64 z, .slice ab nb cb] 72)) := hnx.alloc hnx.size _
      have HN3 := hide hn3
      have HO1 := hide OW1
      have HST := hide hst
      clear hw hz hst hown hnx hnx2 hbx hms hpw h64 HCF HSN HG hn3 OW1
      go_wp2_with fail
      refine HN.out.mono ?_
      rintro e w5 ⟨rfl, hb5⟩
      have hb35 : Below w3.heap.size w3 w5 := HN3.out.trans (hb5.mono HN3.out.size)
      have OW5 := HO1.out.kept (row := none) ⟨hb5.os, hb5.tape, hb5.output, hb5.size, fun q hq _ => hb5.block q hq⟩ (by cases hv : (_ : Value).ownBlock <;> simp)
      have OW2 := OW5.alloc (.cells #[.string (str (numT z G.minus.data.toList))] 9)
      have hb2 := hb35.alloc hb35.size (.cells #[.string (str (numT z G.minus.data.toList))] 9)
      have HBB := hide hb2
      have HSZ : Hid (w3.heap.size ≤ (w5.alloc (.cells #[.string (str (numT z G.minus.data.toList))] 9)).heap.size) := hb2.size
      clear hb2 OW5 hb35 hb5 HN HO1 HN3
      change Hid (w3.heap.size ≤ (w5.alloc (.cells #[.string ⟨(numT z G.minus.data.toList).toArray⟩] 9)).heap.size) at HSZ
      go_wp2_with (at_builtin; refine wpList_append_own _ rfl _ _ 25 rfl w3.heap.size 9 i9 (.string ⟨#[]⟩) 1 16 Tryd.underlying25 hi9 hz90 hz91 hz92 rfl (by decide) _ _ _ rfl OW2 ⟨w5.heap.size, 0, none⟩ 1 1 [.string (str (numT z G.minus.data.toList))] rfl rfl ?c1 ?c2 ?c3 ?c4 ?c5 ?_)
      case c1 =>
        intro j u hj
        match j, hj with
        | 0, hj => simp at hj; subst hj; simp [Addr.add, str]
      case c2 => intro u hu; simp at hu; subst hu; rfl
      case c3 => unfold maxLen; omega
      case c4 => omega
      case c5 => exact HSZ.out
      intro v' w7 hown7 hgrow7 _
      have HB7 : Hid (Below w3.heap.size w3 w7) := hide (HBB.out.grown hgrow7 HSZ.out (fun q hq => (OW2.lt q hq).1))
      have HO7 : Hid (w7.ownsRow w3.heap.size 9 1 v' (k + 1) ((numW G.minus (CS.take (k + 1))).map Value.string)) := hide (by rw [HST.out, List.map_append]; exact hown7)
      clear hown7 hgrow7 OW2 HBB HSZ d0 d1 d2 k9
      go_wp2
      go_roundg (L - (k + 1))
      case rel => exact ⟨k + 1, by omega, by go_num, HB7.out, HO7.out⟩
      case measure => omega
    · have hke : k = L := by omega
      subst hke
      have hlen := HNL.out k (Nat.le_refl _)
      rw [HTK.out] at hown hlen
      obtain ⟨ad, c, rfl, hst⟩ := StrR.own (p := wr.heap.size) (by rw [hlen]; exact hown) (Nat.le_refl _) (by rw [hlen]; omega)
      rw [hlen]
      have HNX := hide (HB23.out _ hnx2)
      have HW0 := hide (Wr.new wr G0 ⟨#[]⟩)
      have HP := hide (put58 (Wr.new wr G0 ⟨#[]⟩) c (hst.next (alloc_one wr (.cells (wC G0 ⟨#[]⟩ false (.pointer none) (.slice none 0 0)) 60))) (by show 0 + (pT false (numW G.minus CS)).length ≤ _; have := HPL.out; omega))
      rw [hlen] at HP
      have HA := hide (alloc_one wr (.cells (wC G0 ⟨#[]⟩ false (.pointer none) (.slice none 0 0)) 60))
      clear hown hst hnx hnx2 HCF HSN HG
      go_wp2_with fail
      refine HP.out.mono ?_
      rintro e w9 ⟨rfl, ⟨a9, v9, h9⟩, k9⟩
      have HS := hide (string26 h9)
      have HK := hide (HNX.out.trans ((HA.out.trans k9.bel).mono HNX.out.size))
      have hle : wr.heap.size ≤ w9.heap.size := Nat.le_of_lt h9.lt
      clear h9 k9 HP
      go_wp2_with fail
      refine HS.out.mono ?_
      rintro e w10 ⟨rfl, hb10⟩
      have HF := hide (HK.out.trans (hb10.mono (HNX.out.size)))
      clear hb10 HS
      go_wp2
      go_ret
      refine ⟨?_, HF.out⟩
      rw [HR.out]
      rfl
theorem literal34 {n lo : Nat} {x : Ar} {va : Value} {G : Gs} {w : World} (hx : ArIn n lo w x va) (hl : x.cells.length ≤ 100000) (hg : txB x = true → ∀ i, i < x.cells.length → Good (cAt x.cells i).2.1) (h64 : ∀ i, i < x.cells.length → I64 (cAt x.cells i).2.1) (hm : G.minus.size ≤ 1000000) (hq : G.quote.size ≤ 1000000) (T : Rn.Tab w) (P : Pw w) :
    Calls Tryd.prog 34 #[va, gV G] w fun e w' => e = .returned (.string (str (litT G x))) ∧ Below w.heap.size w w' := by
  cases ht : txB x with
  | true => exact literal34_text hx hl ht (hg ht) hq T
  | false => exact literal34_num hx hl ht h64 hm P
end Go.Proofs.YtneblkdkhlgmcaaDoor
namespace Go.Proofs.YtneblkdkhlgmcaaDoor
open Go.ChangeShapes Go.WideShapes Go.ChangeAt Go.RowKit
open Rn (Good Byte enc put)
set_option maxRecDepth 100000
set_option linter.unusedVariables false
set_option linter.unusedSimpArgs false
theorem chk_good {x : Ar} (h : chkA 8 x = 0) (i : Nat) (hi : i < x.cells.length) (hk : (cAt x.cells i).1 = 1) : Good (cAt x.cells i).2.1 := by
  change chkB (chkA 7) x = 0 at h
  unfold chkB at h
  split at h
  · omega
  split at h
  · omega
  split at h
  · omega
  have h1 := firstUp_zero h (i + 1) hi
  have h2 := firstUp_zero h i (by omega)
  rw [firstUp_step h2] at h1
  unfold chkF chkC at h1
  rw [if_neg (by omega)] at h1
  split at h1
  · rename_i h3
    rcases h3.2 with h4 | h4
    · omega
    · exact h4.2
  · omega
theorem lit_good {x : Ar} (h : litB x = true) (ht : txB x = true) : ∀ i, i < x.cells.length → Good (cAt x.cells i).2.1 := by
  intro i hi
  unfold litB at h
  simp only [Bool.and_eq_true, Bool.or_eq_true, decide_eq_true_eq] at h
  unfold txB at ht
  simp only [Bool.or_eq_true, decide_eq_true_eq] at ht
  have h0 : (cAt x.cells 0).1 = 1 := ht.resolve_left (by omega)
  have hp : allC plC x.cells = true := by
    rcases h.1.2 with h1 | h1
    · have := allC_iff.1 h1 0 (by omega)
      unfold numC at this
      rw [h0] at this
      cases this
    · exact h1
  have h2 := allC_iff.1 hp i hi
  unfold plC at h2
  simp only [Bool.and_eq_true, decide_eq_true_eq] at h2
  exact chk_good h.2 i hi h2.1
/-- What Literal tells. -/
def litE (x : Ar) : Int := if litB x then 0 else 1
def litS (G : Gs) (x : Ar) : List UInt8 := if litB x then litT G x else []
theorem lit15 {n lo : Nat} {x : Ar} {va : Value} {G : Gs} {w : World} (hx : ArIn n lo w x va) (hl : x.cells.length ≤ 100000) (h64 : ∀ i, i < x.cells.length → I64 (cAt x.cells i).2.1) (hm : G.minus.size ≤ 1000000) (hq : G.quote.size ≤ 1000000) (T : Rn.Tab w) (P : Pw w) :
    Calls Tryd.prog 15 #[va, gV G] w fun e w' => e = .returned (.tuple #[.string (str (litS G x)), .int .i64 (litE x)]) ∧ Below w.heap.size w w' := by
  have HL := hide (fun wr (hw : Below w.heap.size w wr) => lit17 x va wr (hx.next hw))
  have HT := hide (fun (h : litB x = true) wr (hw : Below w.heap.size w wr) => literal34 (hx.next hw) hl (lit_good h) h64 hm hq (T.below hw T.1) (Lib.tabBelow_of_tabIs P _ hw))
  cases n with
  | zero => exact hx.elim
  | succ n =>
  obtain ⟨a1, c1, a2, c2, rfl, -⟩ := hx
  obtain ⟨L, hL⟩ : ∃ L, x.cells.length = L := ⟨_, rfl⟩
  obtain ⟨SL, hSL⟩ : ∃ SL, x.shape.length = SL := ⟨_, rfl⟩
  rw [hL, hSL] at HL HT ⊢
  obtain ⟨W2, hW2⟩ : ∃ W2, (w.alloc (.cells #[.slice a1 SL c1, .slice a2 L c2] 31)).alloc (.cells #[G.s1, G.s2, G.s3, .string G.outer, .string G.power, .string G.opn, .string G.cls, .string G.left, .string G.right, .string G.minus, .string G.quote, .bool G.trains, .bool G.lone, .bool G.square] 27) = W2 := ⟨_, rfl⟩
  have hb2 : Below w.heap.size w W2 := by rw [← hW2]; exact two_allocs _ _ _
  have s2 : W2.heap.size = w.heap.size + 2 := by rw [← hW2]; simp
  have hA : W2.heap[w.heap.size]? = some (.cells #[.slice a1 SL c1, .slice a2 L c2] 31 (0, 0)) := by
    rw [← hW2]; exact (Lib.alloc_old _ _ w.heap.size (by simp)).trans (heap_alloc_new w _)
  have hGb : W2.heap[w.heap.size + 1]? = some (.cells #[G.s1, G.s2, G.s3, .string G.outer, .string G.power, .string G.opn, .string G.cls, .string G.left, .string G.right, .string G.minus, .string G.quote, .bool G.trains, .bool G.lone, .bool G.square] 27 (0, 0)) := by
    have h := heap_alloc_new (w.alloc (.cells #[.slice a1 SL c1, .slice a2 L c2] 31)) (.cells #[G.s1, G.s2, G.s3, .string G.outer, .string G.power, .string G.opn, .string G.cls, .string G.left, .string G.right, .string G.minus, .string G.quote, .bool G.trains, .bool G.lone, .bool G.square] 27)
    have e : (w.alloc (.cells #[.slice a1 SL c1, .slice a2 L c2] 31)).heap.size = w.heap.size + 1 := by simp
    rw [e] at h
    rw [← hW2]; exact h
  have HB2 := hide hb2
  have HA := hide hA
  have HGB := hide hGb
  have a0 : W2.cell? ⟨w.heap.size, 0, none⟩ = some (.slice a1 SL c1) := (Lib.cell_of_heap hA 0).trans rfl
  have a1' : W2.cell? ⟨w.heap.size, 1, none⟩ = some (.slice a2 L c2) := (Lib.cell_of_heap hA 1).trans rfl
  have HZ : Hid ((litB x = true → litE x = 0 ∧ litS G x = litT G x) ∧ (litB x = false → litE x = 1 ∧ litS G x = [])) := hide (by
    unfold litE litS
    constructor <;> intro h <;> rw [h] <;> exact ⟨rfl, rfl⟩)
  obtain ⟨Z, hZ⟩ : ∃ Z, litB x = Z := ⟨_, rfl⟩
  rw [hZ] at HL HT HZ
  obtain ⟨LE, hLE⟩ : ∃ LE, litE x = LE := ⟨_, rfl⟩
  obtain ⟨LS, hLS⟩ : ∃ LS, litS G x = LS := ⟨_, rfl⟩
  rw [hLE, hLS] at HZ ⊢
  clear hLE hLS hZ
  unfold gV at *
  go_enter Tryd.func15, Tryd.ntmps15
  go_upto_region 1 with fail
  try rw [hW2]
  clear hW2 hA hGb hb2
  go_wp2_with fail
  refine (HL.out W2 HB2.out).mono ?_
  rintro e w3 ⟨rfl, hb3⟩
  have HB3 := hide (HB2.out.trans (hb3.mono HB2.out.size))
  have b0 : w3.heap[w.heap.size]? = _ := (hb3.block w.heap.size (by omega)).trans HA.out
  have b1 : w3.heap[w.heap.size + 1]? = _ := (hb3.block (w.heap.size + 1) (by omega)).trans HGB.out
  cases Z with
  | false =>
    obtain ⟨rfl, rfl⟩ := HZ.out.2 rfl
    clear a0 a1' hb3 HL HT b0 b1
    go_wp2
    go_ret2
    exact ⟨rfl, HB3.out⟩
  | true =>
    obtain ⟨rfl, rfl⟩ := HZ.out.1 rfl
    have k0 : w3.cell? ⟨w.heap.size, 0, none⟩ = some (.slice a1 SL c1) := (Lib.cell_of_heap b0 0).trans rfl
    have k1 : w3.cell? ⟨w.heap.size, 1, none⟩ = some (.slice a2 L c2) := (Lib.cell_of_heap b0 1).trans rfl
    have gc : ∀ k v, (#[G.s1, G.s2, G.s3, .string G.outer, .string G.power, .string G.opn, .string G.cls, .string G.left, .string G.right, .string G.minus, .string G.quote, .bool G.trains, .bool G.lone, .bool G.square] : Array Value)[k]? = some v → w3.cell? ⟨w.heap.size + 1, k, none⟩ = some v := fun k v hk => (Lib.cell_of_heap b1 k).trans hk
    have g0 := gc 0 _ rfl
    have g1 := gc 1 _ rfl
    have g2 := gc 2 _ rfl
    have g3 := gc 3 _ rfl
    have g4 := gc 4 _ rfl
    have g5 := gc 5 _ rfl
    have g6 := gc 6 _ rfl
    have g7 := gc 7 _ rfl
    have g8 := gc 8 _ rfl
    have g9 := gc 9 _ rfl
    have g10 := gc 10 _ rfl
    have g11 := gc 11 _ rfl
    have g12 := gc 12 _ rfl
    have g13 := gc 13 _ rfl
    have HC := hide (HT.out rfl w3 HB3.out)
    clear a0 a1' hb3 HL HT b0 b1 gc
    go_wp2_with fail
    refine HC.out.mono ?_
    rintro e w4 ⟨rfl, hb4⟩
    go_wp2
    go_ret2
    exact ⟨rfl, HB3.out.trans (hb4.mono HB3.out.size)⟩
end Go.Proofs.YtneblkdkhlgmcaaDoor
namespace Go.Proofs.YtneblkdkhlgmcaaDoor.Rn
open Go.ChangeShapes Go.WideShapes Go.ChangeAt Go.RowKit
set_option linter.unusedVariables false
set_option linter.unusedSimpArgs false
set_option maxRecDepth 100000
theorem made (v : Value) (k : Nat) : madeCells #[v] k = Array.replicate k v := by
  apply Array.ext
  · simp [madeCells]
  · intro i h1 h2
    simp [madeCells, Nat.mod_one]
theorem make_run (k : Nat) (hk : k ≤ 4) (w : World) : (Instr.makeSlice 44 (.int .i64 (k : Int)) (.int .i64 (k : Int))).run Tryd.prog w = .ok (.slice (some ⟨w.heap.size, 0, none⟩) k k) (w.alloc (.cells (Array.replicate k (.int .u8 0)) 5)) := by
  obtain ⟨i0, hi, hz0, hz1, hz2⟩ := info_parts info5
  have := run_make (P := Tryd.prog) w 44 5 i0 (.int .u8 0) Tryd.underlying44 hi hz0 .i64 .i64 k k (by omega) (Int.le_refl _) (by rw [hz2]; omega) (by omega)
  rw [this, hz1, show (Value.int .u8 0).cells = #[Value.int .u8 0] from rfl, made]
  simp
theorem make1 (w : World) : (Instr.makeSlice 44 (.int .i64 1) (.int .i64 1)).run Tryd.prog w = .ok (.slice (some ⟨w.heap.size, 0, none⟩) 1 1) (w.alloc (.cells #[.int .u8 0] 5)) := make_run 1 (by omega) w
theorem make2 (w : World) : (Instr.makeSlice 44 (.int .i64 2) (.int .i64 2)).run Tryd.prog w = .ok (.slice (some ⟨w.heap.size, 0, none⟩) 2 2) (w.alloc (.cells #[.int .u8 0, .int .u8 0] 5)) := make_run 2 (by omega) w
theorem make3 (w : World) : (Instr.makeSlice 44 (.int .i64 3) (.int .i64 3)).run Tryd.prog w = .ok (.slice (some ⟨w.heap.size, 0, none⟩) 3 3) (w.alloc (.cells #[.int .u8 0, .int .u8 0, .int .u8 0] 5)) := make_run 3 (by omega) w
theorem make4 (w : World) : (Instr.makeSlice 44 (.int .i64 4) (.int .i64 4)).run Tryd.prog w = .ok (.slice (some ⟨w.heap.size, 0, none⟩) 4 4) (w.alloc (.cells #[.int .u8 0, .int .u8 0, .int .u8 0, .int .u8 0] 5)) := make_run 4 (by omega) w
set_option maxHeartbeats 2000000 in
theorem put1 (n : Int) (w : World) (hn0 : 0 ≤ n) (hn : n < 128) :
    Calls Tryd.prog 81 #[.int .i64 n] w fun e w' => e = .returned (.slice (some ⟨w.heap.size, 0, none⟩) 1 1) ∧ w' = w.alloc (.cells #[.int .u8 (n)] 5) := by
  have hw : wid n = 1 := by unfold wid; rw [if_pos hn]
  have mk := make1
  have dt : n < 128 := by omega
  go_enter Tryd.func81, Tryd.ntmps81
  go_wp2_with (go_at_call 92; refine (wid_any _ _).mono ?_; rintro e w' ⟨rfl, hw'⟩; rw [hw'])
  go_loopw [0, 5] (fun m i wr => (i = .int .i64 0 ∧ m = .int .i64 (n) ∧ wr = w.alloc (.cells #[.int .u8 0] 5))) (fun _ i _ => (intOf i).toNat)
  case atStart => exact ⟨rfl, rfl, rfl⟩
  case round =>
    obtain ⟨rfl, rfl, rfl⟩ := hrel
    go_wp2
    go_ret
    exact ⟨rfl, rfl⟩
set_option maxHeartbeats 2000000 in
theorem put2 (n : Int) (w : World) (hn0 : 128 ≤ n) (hn : n < 2048) :
    Calls Tryd.prog 81 #[.int .i64 n] w fun e w' => e = .returned (.slice (some ⟨w.heap.size, 0, none⟩) 2 2) ∧ w' = w.alloc (.cells #[.int .u8 (192 + n / 64), .int .u8 (128 + n % 64)] 5) := by
  have hw : wid n = 2 := by unfold wid; rw [if_neg (by omega), if_pos hn]
  have mk := make2
  have d1 : 0 ≤ n / 64 := by omega
  have dt : n / 64 < 64 := by omega
  go_enter Tryd.func81, Tryd.ntmps81
  go_wp2_with (go_at_call 92; refine (wid_any _ _).mono ?_; rintro e w' ⟨rfl, hw'⟩; rw [hw'])
  go_loopw [0, 5] (fun m i wr => (i = .int .i64 1 ∧ m = .int .i64 (n) ∧ wr = w.alloc (.cells #[.int .u8 0, .int .u8 0] 5)) ∨ (i = .int .i64 0 ∧ m = .int .i64 (n / 64) ∧ wr = w.alloc (.cells #[.int .u8 0, .int .u8 (128 + n % 64)] 5))) (fun _ i _ => (intOf i).toNat)
  case atStart => exact Or.inl ⟨rfl, rfl, rfl⟩
  case round =>
    rcases hrel with ⟨rfl, rfl, rfl⟩ | ⟨rfl, rfl, rfl⟩
    · go_wp2
      go_roundw
      case rel => exact Or.inr (⟨rfl, rfl, trivial⟩)
      case measure => simp [intOf]
    · go_wp2
      go_ret
      exact ⟨rfl, rfl⟩
set_option maxHeartbeats 2000000 in
theorem put3 (n : Int) (w : World) (hn0 : 2048 ≤ n) (hn : n < 65536) :
    Calls Tryd.prog 81 #[.int .i64 n] w fun e w' => e = .returned (.slice (some ⟨w.heap.size, 0, none⟩) 3 3) ∧ w' = w.alloc (.cells #[.int .u8 (224 + n / 64 / 64), .int .u8 (128 + n / 64 % 64), .int .u8 (128 + n % 64)] 5) := by
  have hw : wid n = 3 := by unfold wid; rw [if_neg (by omega), if_neg (by omega), if_pos hn]
  have mk := make3
  have d1 : 0 ≤ n / 64 := by omega
  have d2 : 0 ≤ n / 64 / 64 := by omega
  have dt : n / 64 / 64 < 32 := by omega
  go_enter Tryd.func81, Tryd.ntmps81
  go_wp2_with (go_at_call 92; refine (wid_any _ _).mono ?_; rintro e w' ⟨rfl, hw'⟩; rw [hw'])
  go_loopw [0, 5] (fun m i wr => (i = .int .i64 2 ∧ m = .int .i64 (n) ∧ wr = w.alloc (.cells #[.int .u8 0, .int .u8 0, .int .u8 0] 5)) ∨ (i = .int .i64 1 ∧ m = .int .i64 (n / 64) ∧ wr = w.alloc (.cells #[.int .u8 0, .int .u8 0, .int .u8 (128 + n % 64)] 5)) ∨ (i = .int .i64 0 ∧ m = .int .i64 (n / 64 / 64) ∧ wr = w.alloc (.cells #[.int .u8 0, .int .u8 (128 + n / 64 % 64), .int .u8 (128 + n % 64)] 5))) (fun _ i _ => (intOf i).toNat)
  case atStart => exact Or.inl ⟨rfl, rfl, rfl⟩
  case round =>
    rcases hrel with ⟨rfl, rfl, rfl⟩ | ⟨rfl, rfl, rfl⟩ | ⟨rfl, rfl, rfl⟩
    · go_wp2
      go_roundw
      case rel => exact Or.inr (Or.inl ⟨rfl, rfl, trivial⟩)
      case measure => simp [intOf]
    · go_wp2
      go_roundw
      case rel => exact Or.inr (Or.inr (⟨rfl, rfl, trivial⟩))
      case measure => simp [intOf]
    · go_wp2
      go_ret
      exact ⟨rfl, rfl⟩
set_option maxHeartbeats 2000000 in
theorem put4 (n : Int) (w : World) (hn0 : 65536 ≤ n) (hn : n < 1114112) :
    Calls Tryd.prog 81 #[.int .i64 n] w fun e w' => e = .returned (.slice (some ⟨w.heap.size, 0, none⟩) 4 4) ∧ w' = w.alloc (.cells #[.int .u8 (240 + n / 64 / 64 / 64), .int .u8 (128 + n / 64 / 64 % 64), .int .u8 (128 + n / 64 % 64), .int .u8 (128 + n % 64)] 5) := by
  have hw : wid n = 4 := by unfold wid; rw [if_neg (by omega), if_neg (by omega), if_neg (by omega)]
  have mk := make4
  have d1 : 0 ≤ n / 64 := by omega
  have d2 : 0 ≤ n / 64 / 64 := by omega
  have d3 : 0 ≤ n / 64 / 64 / 64 := by omega
  have dt : n / 64 / 64 / 64 < 16 := by omega
  go_enter Tryd.func81, Tryd.ntmps81
  go_wp2_with (go_at_call 92; refine (wid_any _ _).mono ?_; rintro e w' ⟨rfl, hw'⟩; rw [hw'])
  go_loopw [0, 5] (fun m i wr => (i = .int .i64 3 ∧ m = .int .i64 (n) ∧ wr = w.alloc (.cells #[.int .u8 0, .int .u8 0, .int .u8 0, .int .u8 0] 5)) ∨ (i = .int .i64 2 ∧ m = .int .i64 (n / 64) ∧ wr = w.alloc (.cells #[.int .u8 0, .int .u8 0, .int .u8 0, .int .u8 (128 + n % 64)] 5)) ∨ (i = .int .i64 1 ∧ m = .int .i64 (n / 64 / 64) ∧ wr = w.alloc (.cells #[.int .u8 0, .int .u8 0, .int .u8 (128 + n / 64 % 64), .int .u8 (128 + n % 64)] 5)) ∨ (i = .int .i64 0 ∧ m = .int .i64 (n / 64 / 64 / 64) ∧ wr = w.alloc (.cells #[.int .u8 0, .int .u8 (128 + n / 64 / 64 % 64), .int .u8 (128 + n / 64 % 64), .int .u8 (128 + n % 64)] 5))) (fun _ i _ => (intOf i).toNat)
  case atStart => exact Or.inl ⟨rfl, rfl, rfl⟩
  case round =>
    rcases hrel with ⟨rfl, rfl, rfl⟩ | ⟨rfl, rfl, rfl⟩ | ⟨rfl, rfl, rfl⟩ | ⟨rfl, rfl, rfl⟩
    · go_wp2
      go_roundw
      case rel => exact Or.inr (Or.inl ⟨rfl, rfl, trivial⟩)
      case measure => simp [intOf]
    · go_wp2
      go_roundw
      case rel => exact Or.inr (Or.inr (Or.inl ⟨rfl, rfl, trivial⟩))
      case measure => simp [intOf]
    · go_wp2
      go_roundw
      case rel => exact Or.inr (Or.inr (Or.inr (⟨rfl, rfl, trivial⟩)))
      case measure => simp [intOf]
    · go_wp2
      go_ret
      exact ⟨rfl, rfl⟩
theorem put_any (n : Int) (w : World) (hn : Good n) :
    Calls Tryd.prog 81 #[.int .i64 n] w fun e w' => e = .returned (.slice (some ⟨w.heap.size, 0, none⟩) (wid n) (wid n)) ∧ w' = w.alloc (.cells (bv (put n)).toArray 5) := by
  have hr := Rn.Good.rng hn
  unfold wid put
  by_cases h1 : n < 128
  · rw [if_pos h1, if_pos h1]; exact put1 n w hr.1 h1
  · rw [if_neg h1, if_neg h1]
    by_cases h2 : n < 2048
    · rw [if_pos h2, if_pos h2]; exact put2 n w (by omega) h2
    · rw [if_neg h2, if_neg h2]
      by_cases h3 : n < 65536
      · rw [if_pos h3, if_pos h3]
        have e1 : n / 64 / 64 = n / 4096 := by omega
        have := put3 n w (by omega) h3
        rw [e1] at this
        exact this
      · rw [if_neg h3, if_neg h3]
        have e1 : n / 64 / 64 = n / 4096 := by omega
        have e2 : n / 4096 / 64 = n / 262144 := by omega
        have := put4 n w (by omega) hr.2
        rw [e1, e2] at this
        exact this
end Go.Proofs.YtneblkdkhlgmcaaDoor.Rn
namespace Go.Proofs.YtneblkdkhlgmcaaDoor
open Go.ChangeShapes Go.WideShapes Go.ChangeAt Go.RowKit
open Rn (Good Byte enc put)
set_option maxRecDepth 100000
set_option linter.unusedVariables false
set_option linter.unusedSimpArgs false
theorem cat3 (T N : List UInt8) : (⟨T.toArray⟩ : ByteArray) ++ ⟨#[32]⟩ ++ ⟨N.toArray⟩ = ⟨(T ++ ([32] ++ N)).toArray⟩ := by
  have e : (⟨#[32]⟩ : ByteArray) = ⟨[32].toArray⟩ := rfl
  rw [e, cat_mk, cat_mk, List.append_assoc]
theorem lit_num {x : Ar} (h : litB x = true) (ht : txB x = false) : 0 < x.cells.length ∧ (cAt x.cells 0).1 = 0 := by
  unfold txB at ht
  simp only [Bool.or_eq_false_iff, decide_eq_false_iff_not] at ht
  have hp : 0 < x.cells.length := by omega
  refine ⟨hp, ?_⟩
  unfold litB at h
  simp only [Bool.and_eq_true, Bool.or_eq_true] at h
  rcases h.1.2 with h1 | h1
  · have := allC_iff.1 h1 0 hp
    unfold numC at this
    simpa using this
  · have := allC_iff.1 h1 0 hp
    unfold plC at this
    simp only [Bool.and_eq_true, decide_eq_true_eq] at this
    exact absurd this.1 ht.2
theorem rlit66_no {n lo : Nat} {x : Ar} {va : Value} {G : Gs} {w : World} (hx : ArIn n lo w x va) (hB : litB x = false) :
    Calls Tryd.prog 66 #[va, gV G] w fun e w' => e = .returned (.tuple #[.string ⟨#[]⟩, .int .i64 1]) ∧ Below w.heap.size w w' := by
  have HLB := hide (fun wr (hw : Below w.heap.size w wr) => rlit18 x va wr (hx.next hw))
  cases n with
  | zero => exact hx.elim
  | succ n =>
  obtain ⟨a1, c1, a2, c2, rfl, R, hl', hc⟩ := hx
  have HCF : Hid (∀ i, i < x.cells.length → ∃ b off ab nb cb, a2 = some ⟨b, off, none⟩ ∧ ∀ wr, Below w.heap.size w wr → wr.cell? ⟨b, off + i * 3, none⟩ = some (.int .i64 (cAt x.cells i).1) ∧ wr.cell? ⟨b, off + i * 3 + 1, none⟩ = some (.int .i64 (cAt x.cells i).2.1) ∧ wr.cell? ⟨b, off + i * 3 + 2, none⟩ = some (.slice ab nb cb)) := hide fun i hi => by
    obtain ⟨b, off, z0, z1, ab, nb, cb, ha, hw⟩ := cells_at hc i hi
    refine ⟨b, off, ab, nb, cb, ha, fun wr hwr => ?_⟩
    obtain ⟨g0, g1, g2, g3⟩ := hw wr hwr
    obtain ⟨e0, e1, -⟩ := g3
    injection e0 with _ e0
    injection e1 with _ e1
    rw [e0] at g0
    rw [e1] at g1
    exact ⟨g0, g1, g2⟩
  rw [hB] at HLB
  obtain ⟨L, hL⟩ : ∃ L, x.cells.length = L := ⟨_, rfl⟩
  obtain ⟨SL, hSL⟩ : ∃ SL, x.shape.length = SL := ⟨_, rfl⟩
  rw [hL, hSL] at HLB
  rw [hL, hSL]
  obtain ⟨W2, hW2⟩ : ∃ W2, (w.alloc (.cells #[.slice a1 SL c1, .slice a2 L c2] 31)).alloc (.cells #[G.s1, G.s2, G.s3, .string G.outer, .string G.power, .string G.opn, .string G.cls, .string G.left, .string G.right, .string G.minus, .string G.quote, .bool G.trains, .bool G.lone, .bool G.square] 27) = W2 := ⟨_, rfl⟩
  have hb2 : Below w.heap.size w W2 := by rw [← hW2]; exact two_allocs _ _ _
  have s2 : W2.heap.size = w.heap.size + 2 := by rw [← hW2]; simp
  have hA : W2.heap[w.heap.size]? = some (.cells #[.slice a1 SL c1, .slice a2 L c2] 31 (0, 0)) := by
    rw [← hW2]; exact (Lib.alloc_old _ _ w.heap.size (by simp)).trans (heap_alloc_new w _)
  have hGb : W2.heap[w.heap.size + 1]? = some (.cells #[G.s1, G.s2, G.s3, .string G.outer, .string G.power, .string G.opn, .string G.cls, .string G.left, .string G.right, .string G.minus, .string G.quote, .bool G.trains, .bool G.lone, .bool G.square] 27 (0, 0)) := by
    have h := heap_alloc_new (w.alloc (.cells #[.slice a1 SL c1, .slice a2 L c2] 31)) (.cells #[G.s1, G.s2, G.s3, .string G.outer, .string G.power, .string G.opn, .string G.cls, .string G.left, .string G.right, .string G.minus, .string G.quote, .bool G.trains, .bool G.lone, .bool G.square] 27)
    have e : (w.alloc (.cells #[.slice a1 SL c1, .slice a2 L c2] 31)).heap.size = w.heap.size + 1 := by simp
    rw [e] at h
    rw [← hW2]; exact h
  have KS : Hid (∀ W, Below W2.heap.size W2 W → (Below W2.heap.size W2 W ∧ W.cell? ⟨w.heap.size, 0, none⟩ = some (.slice a1 SL c1) ∧ W.cell? ⟨w.heap.size, 1, none⟩ = some (.slice a2 L c2)) ∧ W.cell? ⟨w.heap.size + 1, 10, none⟩ = some (.string G.quote) ∧ W.cell? ⟨w.heap.size + 1, 9, none⟩ = some (.string G.minus)) := hide fun W h => by
    have hA2 := (h.block w.heap.size (by omega)).trans hA
    have hG2 := (h.block (w.heap.size + 1) (by omega)).trans hGb
    exact ⟨⟨h, (Lib.cell_of_heap hA2 0).trans rfl, (Lib.cell_of_heap hA2 1).trans rfl⟩, (Lib.cell_of_heap hG2 10).trans rfl, (Lib.cell_of_heap hG2 9).trans rfl⟩
  have HB2 := hide hb2
  obtain ⟨⟨-, k0, k1⟩, k10, k9⟩ := KS.out W2 (Below.refl _ _)
  have HB23 : Hid (∀ W, Below W2.heap.size W2 W → Below w.heap.size w W) := hide fun W h => HB2.out.trans (h.mono HB2.out.size)
  unfold gV
  go_enter Tryd.func66, Tryd.ntmps66
  go_upto_region 1 with fail
  try rw [hW2]
  clear hW2 hc R hl' hA hGb
  go_wp2_with fail
  refine (HLB.out W2 HB2.out).mono ?_
  rintro e w3 ⟨rfl, hb3⟩
  have HF := hide (HB23.out _ hb3)
  clear hb3 hb2 k0 k1 k9 k10
  go_wp2
  go_ret2
  exact ⟨rfl, HF.out⟩
set_option maxHeartbeats 4000000 in
theorem rlit66_num {n lo : Nat} {x : Ar} {va : Value} {G : Gs} {w : World} (hx : ArIn n lo w x va) (hl : x.cells.length ≤ 100000) (hB : litB x = true) (ht : txB x = false) (hg : ∀ i, i < x.cells.length → I64 (cAt x.cells i).2.1) (hm : G.minus.size ≤ 1000000) :
    Calls Tryd.prog 66 #[va, gV G] w fun e w' => e = .returned (.tuple #[.string (str (litT G x)), .int .i64 0]) ∧ Below w.heap.size w w' := by
  have HLB := hide (fun wr (hw : Below w.heap.size w wr) => rlit18 x va wr (hx.next hw))
  cases n with
  | zero => exact hx.elim
  | succ n =>
  obtain ⟨a1, c1, a2, c2, rfl, R, hl', hc⟩ := hx
  have HCF : Hid (∀ i, i < x.cells.length → ∃ b off ab nb cb, a2 = some ⟨b, off, none⟩ ∧ ∀ wr, Below w.heap.size w wr → wr.cell? ⟨b, off + i * 3, none⟩ = some (.int .i64 (cAt x.cells i).1) ∧ wr.cell? ⟨b, off + i * 3 + 1, none⟩ = some (.int .i64 (cAt x.cells i).2.1) ∧ wr.cell? ⟨b, off + i * 3 + 2, none⟩ = some (.slice ab nb cb)) := hide fun i hi => by
    obtain ⟨b, off, z0, z1, ab, nb, cb, ha, hw⟩ := cells_at hc i hi
    refine ⟨b, off, ab, nb, cb, ha, fun wr hwr => ?_⟩
    obtain ⟨g0, g1, g2, g3⟩ := hw wr hwr
    obtain ⟨e0, e1, -⟩ := g3
    injection e0 with _ e0
    injection e1 with _ e1
    rw [e0] at g0
    rw [e1] at g1
    exact ⟨g0, g1, g2⟩
  rw [hB] at HLB
  obtain ⟨hp, hk0⟩ := lit_num hB ht
  have HR : Hid (litT G x = pT false (numW G.minus x.cells)) := hide (by unfold litT; rw [ht]; rfl)
  have HSN : Hid (∀ j, j < x.cells.length → pT false (numW G.minus (x.cells.take (j + 1))) = pT false (numW G.minus (x.cells.take j)) ++ ((if j = 0 then [] else [32]) ++ numT (cAt x.cells j).2.1 G.minus.data.toList)) := hide (fun j hj => by
    rw [numW_snoc G.minus hj, pT_snoc]
    have e : (numW G.minus (x.cells.take j)).length = j := by simp [numW]; omega
    cases j with
    | zero => simp [numW, str]
    | succ j =>
      have h0 : (numW G.minus (x.cells.take (j + 1))).isEmpty = false := by
        cases hh : numW G.minus (x.cells.take (j + 1)) with
        | nil => rw [hh] at e; cases e
        | cons a r => rfl
      rw [h0]
      simp [str])
  have HTK : Hid (numW G.minus (x.cells.take x.cells.length) = numW G.minus x.cells) := hide (by rw [List.take_length])
  have HPL : Hid (∀ k, (pT false (numW G.minus (x.cells.take k))).length ≤ 100000 * 1000021) := hide (fun k => by
    have h := pT_len false (numW G.minus (x.cells.take k)) 1000020 (fun s hs => by
      obtain ⟨c, hc1, rfl⟩ := List.mem_map.1 hs
      obtain ⟨i, hi, rfl⟩ := List.mem_iff_getElem.1 (List.mem_of_mem_take hc1)
      have h1 := hg i hi
      have e : cAt x.cells i = x.cells[i] := by simp [cAt, List.getElem?_eq_getElem hi]
      rw [e] at h1
      have h2 := numT_len _ G.minus.data.toList h1.1 h1.2
      have h3 : G.minus.data.toList.length = G.minus.size := by simp
      show (str _).data.size ≤ _
      simp only [str, List.size_toArray]
      omega)
    have e : (numW G.minus (x.cells.take k)).length ≤ x.cells.length := by simp [numW]; omega
    exact Nat.le_trans h (Nat.mul_le_mul (Nat.le_trans e hl) (Nat.le_refl _)))
  have HG := hide hg
  have HMS := hide hm
  have HK0 := hide hk0
  obtain ⟨CS, hCS⟩ : ∃ CS, x.cells = CS := ⟨_, rfl⟩
  rw [hCS] at HCF HSN HTK HPL HG hl HR HLB HK0 hp
  rw [hCS]
  obtain ⟨L, hL⟩ : ∃ L, CS.length = L := ⟨_, rfl⟩
  obtain ⟨SL, hSL⟩ : ∃ SL, x.shape.length = SL := ⟨_, rfl⟩
  rw [hL] at HCF HSN HTK HG hl HLB hp
  rw [hSL] at HLB
  rw [hL, hSL]
  obtain ⟨W2, hW2⟩ : ∃ W2, (w.alloc (.cells #[.slice a1 SL c1, .slice a2 L c2] 31)).alloc (.cells #[G.s1, G.s2, G.s3, .string G.outer, .string G.power, .string G.opn, .string G.cls, .string G.left, .string G.right, .string G.minus, .string G.quote, .bool G.trains, .bool G.lone, .bool G.square] 27) = W2 := ⟨_, rfl⟩
  have hb2 : Below w.heap.size w W2 := by rw [← hW2]; exact two_allocs _ _ _
  have s2 : W2.heap.size = w.heap.size + 2 := by rw [← hW2]; simp
  have hA : W2.heap[w.heap.size]? = some (.cells #[.slice a1 SL c1, .slice a2 L c2] 31 (0, 0)) := by
    rw [← hW2]; exact (Lib.alloc_old _ _ w.heap.size (by simp)).trans (heap_alloc_new w _)
  have hGb : W2.heap[w.heap.size + 1]? = some (.cells #[G.s1, G.s2, G.s3, .string G.outer, .string G.power, .string G.opn, .string G.cls, .string G.left, .string G.right, .string G.minus, .string G.quote, .bool G.trains, .bool G.lone, .bool G.square] 27 (0, 0)) := by
    have h := heap_alloc_new (w.alloc (.cells #[.slice a1 SL c1, .slice a2 L c2] 31)) (.cells #[G.s1, G.s2, G.s3, .string G.outer, .string G.power, .string G.opn, .string G.cls, .string G.left, .string G.right, .string G.minus, .string G.quote, .bool G.trains, .bool G.lone, .bool G.square] 27)
    have e : (w.alloc (.cells #[.slice a1 SL c1, .slice a2 L c2] 31)).heap.size = w.heap.size + 1 := by simp
    rw [e] at h
    rw [← hW2]; exact h
  have KS : Hid (∀ W, Below W2.heap.size W2 W → (Below W2.heap.size W2 W ∧ W.cell? ⟨w.heap.size, 0, none⟩ = some (.slice a1 SL c1) ∧ W.cell? ⟨w.heap.size, 1, none⟩ = some (.slice a2 L c2)) ∧ W.cell? ⟨w.heap.size + 1, 10, none⟩ = some (.string G.quote) ∧ W.cell? ⟨w.heap.size + 1, 9, none⟩ = some (.string G.minus)) := hide fun W h => by
    have hA2 := (h.block w.heap.size (by omega)).trans hA
    have hG2 := (h.block (w.heap.size + 1) (by omega)).trans hGb
    exact ⟨⟨h, (Lib.cell_of_heap hA2 0).trans rfl, (Lib.cell_of_heap hA2 1).trans rfl⟩, (Lib.cell_of_heap hG2 10).trans rfl, (Lib.cell_of_heap hG2 9).trans rfl⟩
  have HB2 := hide hb2
  obtain ⟨⟨-, k0, k1⟩, k10, k9⟩ := KS.out W2 (Below.refl _ _)
  have HB23 : Hid (∀ W, Below W2.heap.size W2 W → Below w.heap.size w W) := hide fun W h => HB2.out.trans (h.mono HB2.out.size)
  unfold gV
  clear hCS hL hSL hm hB hk0
  go_enter Tryd.func66, Tryd.ntmps66
  go_upto_region 1 with fail
  try rw [hW2]
  clear hW2 hc R hl' hA hGb hg ht
  go_wp2_with fail
  refine (HLB.out W2 HB2.out).mono ?_
  rintro e w3 ⟨rfl, hb3⟩
  obtain ⟨⟨-, k30, k31⟩, -, -⟩ := KS.out w3 hb3
  obtain ⟨b, off, ab, nb, cb, rfl, hw⟩ := HCF.out 0 hp
  obtain ⟨d0, -, -⟩ := hw w3 (HB23.out _ hb3)
  rw [HK0.out, Nat.zero_mul, Nat.add_zero] at d0
  have hLp : decide ((0 : Int) < (L : Int)) = true := decide_eq_true (by omega)
  have HB3 := hide hb3
  clear hb3 hb2 k0 k1 k9 k10 HLB hw
  go_wp2
  clear d0 k30 k31 hLp
  go_loopw [6, 7] (fun v i wr => ∃ k : Nat, k ≤ L ∧ v = .string (str (pT false (numW G.minus (CS.take k)))) ∧ i = .int .i64 (k : Int) ∧ Below W2.heap.size W2 wr) (fun v i _ => L - (match i with | .int _ z => z.toNat | _ => 0))
  case atStart => exact ⟨0, Nat.zero_le _, rfl, rfl, HB3.out⟩
  case round =>
    obtain ⟨k, hk, rfl, rfl, hnx⟩ := hrel
    obtain ⟨⟨-, k30, k31⟩, -, -⟩ := KS.out wr hnx
    by_cases hlk : k < L
    · obtain ⟨b', off', ab', nb', cb', e1, hw⟩ := HCF.out k hlk
      cases e1
      have hst := HSN.out k hlk
      have h64 := HG.out k hlk
      have hpl := HPL.out k
      obtain ⟨z, hz⟩ : ∃ z, (cAt CS k).2.1 = z := ⟨_, rfl⟩
      obtain ⟨T, hT⟩ : ∃ T, pT false (numW G.minus (CS.take k)) = T := ⟨_, rfl⟩
      rw [hT] at hst hpl ⊢
      have HKD : Hid (∀ W, Below W2.heap.size W2 W → (Below W2.heap.size W2 W ∧ W.cell? ⟨w.heap.size, 1, none⟩ = some (.slice (some ⟨b, off, none⟩) L c2)) ∧ W.cell? ⟨w.heap.size + 1, 9, none⟩ = some (.string G.minus) ∧ W.cell? ⟨b, off + k * 3 + 1, none⟩ = some (.int .i64 z)) := hide fun W h => by
        obtain ⟨⟨-, -, q1⟩, -, q9⟩ := KS.out W h
        obtain ⟨-, q2, -⟩ := hw W (HB23.out _ h)
        rw [hz] at q2
        exact ⟨⟨h, q1⟩, q9, q2⟩
      rw [hz] at hst h64
      have HST := hide hst
      have HNX := hide hnx
      have hms : G.minus.size ≤ 140737488355328 := by have := HMS.out; omega
      have HN := hide (fun W => rnum6 z G.minus hms h64.1 h64.2 W)
      have hnl : (numT z G.minus.data.toList).length ≤ 1000020 := by
        have h2 := numT_len z G.minus.data.toList h64.1 h64.2
        have h3 : G.minus.data.toList.length = G.minus.size := by simp
        have := HMS.out
        omega
      have hlen0 : ¬ (9223372036854775807 < T.length + 1) := by omega
      have hlen1 : ¬ (9223372036854775807 < T.length + (numT z G.minus.data.toList).length) := by omega
      have hlen2 : ¬ (9223372036854775807 < T.length + 1 + (numT z G.minus.data.toList).length) := by omega
      obtain ⟨N, hN⟩ : ∃ N, numT z G.minus.data.toList = N := ⟨_, rfl⟩
      rw [hN] at HN HST hlen1 hlen2
      have HD0 : Hid (Below W2.heap.size W2 wr.drew) := hide (hnx.drew)
      clear hw hst hnx h64 hms hnl hN hz HG HSN HPL hT
      have HSH := HST.out
      unfold str
      by_cases h0 : k = 0
      · have hd : decide (0 < k) = false := decide_eq_false (by omega)
        rw [if_pos h0] at HSH
        have HS2 := hide HSH
        clear HSH HST h0
        go_wp2_with fail
        go_region_held3 (fun W => (Below W2.heap.size W2 W ∧ W.cell? ⟨w.heap.size, 1, none⟩ = some (.slice (some ⟨b, off, none⟩) L c2)) ∧ W.cell? ⟨w.heap.size + 1, 9, none⟩ = some (.string G.minus) ∧ W.cell? ⟨b, off + k * 3 + 1, none⟩ = some (.int .i64 z)) (first | with_reducible exact HKD.out _ HD0.out | with_reducible exact HKD.out _ (by with_reducible assumption)) (first | (go_at_call 6; refine (HN.out _).mono ?_; rintro e w6 ⟨rfl, hb6⟩; have hb7 := HD0.out.trans (hb6.mono HD0.out.size)))
        go_wp2
        go_roundw
        case rel => exact ⟨k + 1, hlk, by rw [HS2.out]; exact congrArg Value.string (cat_mk T N), by go_num, hb7⟩
        case measure => simp; omega
      · have hd : decide (0 < k) = true := decide_eq_true (by omega)
        rw [if_neg h0] at HSH
        have HS2 := hide HSH
        clear HSH HST h0
        go_wp2_with fail
        go_region_held3 (fun W => (Below W2.heap.size W2 W ∧ W.cell? ⟨w.heap.size, 1, none⟩ = some (.slice (some ⟨b, off, none⟩) L c2)) ∧ W.cell? ⟨w.heap.size + 1, 9, none⟩ = some (.string G.minus) ∧ W.cell? ⟨b, off + k * 3 + 1, none⟩ = some (.int .i64 z)) (first | with_reducible exact HKD.out _ HD0.out | with_reducible exact HKD.out _ (by with_reducible assumption)) (first | (go_at_call 6; refine (HN.out _).mono ?_; rintro e w6 ⟨rfl, hb6⟩; have hb7 := HD0.out.trans (hb6.mono HD0.out.size)))
        go_wp2
        go_roundw
        case rel => exact ⟨k + 1, hlk, by rw [HS2.out]; exact congrArg Value.string (cat3 T N), by go_num, hb7⟩
        case measure => simp; omega
    · have hke : k = L := by omega
      subst hke
      have HF := hide (HB23.out _ hnx)
      rw [HTK.out, ← HR.out]
      clear hnx HCF HSN HG
      go_wp2
      go_ret2
      exact ⟨rfl, HF.out⟩
theorem row_newB (w : World) (l : List Int) (hl : l.length ≤ 4) : Rn.Row .u8 (w.alloc (.cells (Rn.bv l).toArray 5)) (some ⟨w.heap.size, 0, none⟩) l := by
  refine ⟨by omega, Or.inr ⟨w.heap.size, 0, rfl, by simp, fun i hi => ?_⟩⟩
  refine cell_new0 w _ 5 (0 + i) _ ?_
  simp [List.getElem?_eq_getElem hi, hi]
theorem wid_le (z : Int) : Rn.wid z ≤ 4 := by
  unfold Rn.wid
  repeat' split
  all_goals omega
/-- What Put answers, as a string. -/
theorem rput81 (z : Int) (w : World) (h : Good z) : Calls Tryd.prog 81 #[.int .i64 z] w fun e w' => (∃ v, e = .returned v ∧ (convert 44 9 v).run Tryd.prog w' = .ok (.string ⟨(u8 (put z)).toArray⟩) w') ∧ Below w.heap.size w w' := by
  refine (Rn.put_any z w h).mono ?_
  rintro e w' ⟨rfl, rfl⟩
  refine ⟨⟨_, rfl, ?_⟩, alloc_one w _⟩
  have hl := Rn.put_length z
  have h4 := wid_le z
  have e := conv_row (row_newB w (put z) (by omega)) (by
    have := Rn.enc_bytes (l := [z]) (fun y hy => by rw [List.mem_singleton] at hy; rw [hy]; exact h)
    simpa [enc] using this) (Rn.wid z)
  rw [hl] at e
  exact e
theorem u8_app (a b : List Int) : u8 (a ++ b) = u8 a ++ u8 b := by simp [u8]
theorem enc1 (z : Int) : enc [z] = put z := by simp [enc]
theorem str3 (q : ByteArray) (S : List UInt8) : q ++ ⟨S.toArray⟩ ++ q = str (q.data.toList ++ S ++ q.data.toList) := by
  have e1 := cat_l q S
  rw [e1]
  have e2 := str_mk q
  have e3 := cat_mk (q.data.toList ++ S) q.data.toList
  rw [← e2] at e3
  exact e3
theorem cat4 (T N : List UInt8) (c : UInt8) : (⟨T.toArray⟩ : ByteArray) ++ ⟨#[c]⟩ ++ ⟨N.toArray⟩ = ⟨(T ++ (c :: N)).toArray⟩ := by
  have e : (⟨#[c]⟩ : ByteArray) = ⟨[c].toArray⟩ := rfl
  rw [e, cat_mk, cat_mk, List.append_assoc]
  rfl
set_option maxHeartbeats 4000000 in
theorem rlit66_text {n lo : Nat} {x : Ar} {va : Value} {G : Gs} {w : World} (hx : ArIn n lo w x va) (hl : x.cells.length ≤ 100000) (hB : litB x = true) (ht : txB x = true) (hg : ∀ i, i < x.cells.length → Good (cAt x.cells i).2.1) (hq : G.quote.size ≤ 1000000) :
    Calls Tryd.prog 66 #[va, gV G] w fun e w' => e = .returned (.tuple #[.string (str (litT G x)), .int .i64 0]) ∧ Below w.heap.size w w' := by
  have HLB := hide (fun wr (hw : Below w.heap.size w wr) => rlit18 x va wr (hx.next hw))
  cases n with
  | zero => exact hx.elim
  | succ n =>
  obtain ⟨a1, c1, a2, c2, rfl, R, hl', hc⟩ := hx
  have HCF : Hid (∀ i, i < x.cells.length → ∃ b off ab nb cb, a2 = some ⟨b, off, none⟩ ∧ ∀ wr, Below w.heap.size w wr → wr.cell? ⟨b, off + i * 3, none⟩ = some (.int .i64 (cAt x.cells i).1) ∧ wr.cell? ⟨b, off + i * 3 + 1, none⟩ = some (.int .i64 (cAt x.cells i).2.1) ∧ wr.cell? ⟨b, off + i * 3 + 2, none⟩ = some (.slice ab nb cb)) := hide fun i hi => by
    obtain ⟨b, off, z0, z1, ab, nb, cb, ha, hw⟩ := cells_at hc i hi
    refine ⟨b, off, ab, nb, cb, ha, fun wr hwr => ?_⟩
    obtain ⟨g0, g1, g2, g3⟩ := hw wr hwr
    obtain ⟨e0, e1, -⟩ := g3
    injection e0 with _ e0
    injection e1 with _ e1
    rw [e0] at g0
    rw [e1] at g1
    exact ⟨g0, g1, g2⟩
  rw [hB] at HLB
  have HK0 : Hid (0 < x.cells.length → (cAt x.cells 0).1 = 1) := hide (fun h => by
    unfold txB at ht
    simp only [Bool.or_eq_true, decide_eq_true_eq] at ht
    exact ht.resolve_left (by omega))
  have HR : Hid (litT G x = G.quote.data.toList ++ u8 (enc (gl G.quote x.cells)) ++ G.quote.data.toList) := hide (by unfold litT; rw [ht]; rfl)
  have HSN : Hid (∀ j, j < x.cells.length → u8 (enc (gl G.quote (x.cells.take (j + 1)))) = u8 (enc (gl G.quote (x.cells.take j))) ++ u8 (enc (g1 G.quote (cAt x.cells j).2.1))) := hide (fun j hj => by rw [gl_snoc G.quote hj, Rn.enc_append, u8_app])
  have HTK : Hid (x.cells.take x.cells.length = x.cells) := hide List.take_length
  have HPL : Hid (∀ k, (u8 (enc (gl G.quote (x.cells.take k)))).length ≤ 800000) := hide (fun k => by
    have e1 : (u8 (enc (gl G.quote (x.cells.take k)))).length = (enc (gl G.quote (x.cells.take k))).length := by simp [u8]
    have e2 := (Rn.enc_len (gl G.quote (x.cells.take k))).2
    have e3 := gl_len G.quote (x.cells.take k)
    have e4 : (x.cells.take k).length ≤ x.cells.length := by rw [List.length_take]; omega
    omega)
  have HG := hide hg
  have HQS := hide hq
  obtain ⟨CS, hCS⟩ : ∃ CS, x.cells = CS := ⟨_, rfl⟩
  rw [hCS] at HCF HSN HTK HPL HG hl HR HLB HK0
  rw [hCS]
  obtain ⟨L, hL⟩ : ∃ L, CS.length = L := ⟨_, rfl⟩
  obtain ⟨SL, hSL⟩ : ∃ SL, x.shape.length = SL := ⟨_, rfl⟩
  rw [hL] at HCF HSN HTK HG hl HLB HK0
  rw [hSL] at HLB
  rw [hL, hSL]
  obtain ⟨W2, hW2⟩ : ∃ W2, (w.alloc (.cells #[.slice a1 SL c1, .slice a2 L c2] 31)).alloc (.cells #[G.s1, G.s2, G.s3, .string G.outer, .string G.power, .string G.opn, .string G.cls, .string G.left, .string G.right, .string G.minus, .string G.quote, .bool G.trains, .bool G.lone, .bool G.square] 27) = W2 := ⟨_, rfl⟩
  have hb2 : Below w.heap.size w W2 := by rw [← hW2]; exact two_allocs _ _ _
  have s2 : W2.heap.size = w.heap.size + 2 := by rw [← hW2]; simp
  have hA : W2.heap[w.heap.size]? = some (.cells #[.slice a1 SL c1, .slice a2 L c2] 31 (0, 0)) := by
    rw [← hW2]; exact (Lib.alloc_old _ _ w.heap.size (by simp)).trans (heap_alloc_new w _)
  have hGb : W2.heap[w.heap.size + 1]? = some (.cells #[G.s1, G.s2, G.s3, .string G.outer, .string G.power, .string G.opn, .string G.cls, .string G.left, .string G.right, .string G.minus, .string G.quote, .bool G.trains, .bool G.lone, .bool G.square] 27 (0, 0)) := by
    have h := heap_alloc_new (w.alloc (.cells #[.slice a1 SL c1, .slice a2 L c2] 31)) (.cells #[G.s1, G.s2, G.s3, .string G.outer, .string G.power, .string G.opn, .string G.cls, .string G.left, .string G.right, .string G.minus, .string G.quote, .bool G.trains, .bool G.lone, .bool G.square] 27)
    have e : (w.alloc (.cells #[.slice a1 SL c1, .slice a2 L c2] 31)).heap.size = w.heap.size + 1 := by simp
    rw [e] at h
    rw [← hW2]; exact h
  have KS : Hid (∀ W, Below W2.heap.size W2 W → (Below W2.heap.size W2 W ∧ W.cell? ⟨w.heap.size, 0, none⟩ = some (.slice a1 SL c1) ∧ W.cell? ⟨w.heap.size, 1, none⟩ = some (.slice a2 L c2)) ∧ W.cell? ⟨w.heap.size + 1, 10, none⟩ = some (.string G.quote) ∧ W.cell? ⟨w.heap.size + 1, 9, none⟩ = some (.string G.minus)) := hide fun W h => by
    have hA2 := (h.block w.heap.size (by omega)).trans hA
    have hG2 := (h.block (w.heap.size + 1) (by omega)).trans hGb
    exact ⟨⟨h, (Lib.cell_of_heap hA2 0).trans rfl, (Lib.cell_of_heap hA2 1).trans rfl⟩, (Lib.cell_of_heap hG2 10).trans rfl, (Lib.cell_of_heap hG2 9).trans rfl⟩
  have HB2 := hide hb2
  obtain ⟨⟨-, k0, k1⟩, k10, k9⟩ := KS.out W2 (Below.refl _ _)
  have HB23 : Hid (∀ W, Below W2.heap.size W2 W → Below w.heap.size w W) := hide fun W h => HB2.out.trans (h.mono HB2.out.size)
  unfold gV
  clear hCS hL hSL hB
  have HFIN : Hid (∀ S : List UInt8, S.length ≤ 800000 → ¬ (9223372036854775807 < G.quote.size + S.length) ∧ ¬ (9223372036854775807 < G.quote.size + S.length + G.quote.size)) := hide (fun S hS => by have := HQS.out; constructor <;> omega)
  go_enter Tryd.func66, Tryd.ntmps66
  go_upto_region 1 with fail
  try rw [hW2]
  clear hW2 hc R hl' hA hGb hg ht hq
  go_wp2_with fail
  refine (HLB.out W2 HB2.out).mono ?_
  rintro e w3 ⟨rfl, hb3⟩
  obtain ⟨⟨-, k30, k31⟩, k310, -⟩ := KS.out w3 hb3
  by_cases hp : 0 < L
  · obtain ⟨b, off, ab, nb, cb, rfl, hw⟩ := HCF.out 0 hp
    obtain ⟨d0, -, -⟩ := hw w3 (HB23.out _ hb3)
    rw [HK0.out hp, Nat.zero_mul, Nat.add_zero] at d0
    have HB3 := hide hb3
    clear hb3 hb2 k0 k1 k9 k10 HLB hw k310
    go_wp2
    clear d0 k30 k31
    go_loopw [6, 8] (fun v i wr => ∃ k : Nat, k ≤ L ∧ v = .string (str (u8 (enc (gl G.quote (CS.take k))))) ∧ i = .int .i64 (k : Int) ∧ Below W2.heap.size W2 wr) (fun v i _ => L - (match i with | .int _ z => z.toNat | _ => 0))
    case atStart => exact ⟨0, Nat.zero_le _, rfl, rfl, HB3.out⟩
    case round =>
      obtain ⟨k, hk, rfl, rfl, hnx⟩ := hrel
      obtain ⟨⟨-, k30, k31⟩, k310, -⟩ := KS.out wr hnx
      by_cases hlk : k < L
      · obtain ⟨b', off', ab', nb', cb', e1, hw⟩ := HCF.out k hlk
        cases e1
        obtain ⟨-, d1, -⟩ := hw wr (HB23.out _ hnx)
        have hst := HSN.out k hlk
        have hgd := HG.out k hlk
        have hpl := HPL.out k
        obtain ⟨z, hz⟩ : ∃ z, (cAt CS k).2.1 = z := ⟨_, rfl⟩
        obtain ⟨T, hT⟩ : ∃ T, u8 (enc (gl G.quote (CS.take k))) = T := ⟨_, rfl⟩
        rw [hT] at hst hpl ⊢
        rw [hz] at hst hgd d1
        have HST0 := hide hst
        have HNX := hide hnx
        have HP := hide (fun W => rput81 z W hgd)
        have hnl : (u8 (put z)).length ≤ 4 := by
          have e1 : (u8 (put z)).length = (put z).length := by simp [u8]
          have := wid_le z
          rw [e1, Rn.put_length]; exact this
        obtain ⟨N, hN⟩ : ∃ N, u8 (put z) = N := ⟨_, rfl⟩
        rw [hN] at HP hnl
        have hlen0 : ¬ (9223372036854775807 < T.length + 1) := by omega
        have hlen1 : ¬ (9223372036854775807 < T.length + N.length) := by omega
        have hlen2 : ¬ (9223372036854775807 < T.length + 1 + N.length) := by omega
        have HN := hide hN
        clear hw hst hnx hgd hz HG HSN HPL hT hnl hpl hN HCF
        unfold str
        by_cases hq : G.quote.toList = [39]
        · have hq2 : (G.quote.toList == [39]) = true := by rw [hq]; rfl
          have HQ := hide hq
          clear hq
          by_cases h39 : z = 39
          · subst h39
            have HST : Hid (u8 (enc (gl G.quote (CS.take (k + 1)))) = T ++ (39 :: N)) := hide (by
              rw [HST0.out, ← HN.out, ← enc1 39]
              unfold g1 gd
              rw [if_pos HQ.out, if_pos rfl, if_neg (by decide)]
              rfl)
            clear HST0 HN
            go_wp2_with fail
            refine (HP.out _).mono ?_
            rintro e w6 ⟨⟨v6, rfl, hcv⟩, hb6⟩
            have HB6 := hide (HNX.out.trans (hb6.mono HNX.out.size))
            have HCV := hide hcv
            clear hb6
            go_wp2
            go_roundw
            case rel => exact ⟨k + 1, hlk, by rw [HST.out]; exact congrArg Value.string (cat4 T N 39), by go_num, HB6.out⟩
            case measure => simp; omega
          · have h1 : (z == 39) = false := beq_eq_false_iff_ne.2 h39
            have HST : Hid (u8 (enc (gl G.quote (CS.take (k + 1)))) = T ++ N) := hide (by
              rw [HST0.out, ← HN.out, ← enc1 z]
              unfold g1 gd
              rw [if_pos HQ.out, if_neg h39, if_pos rfl])
            clear HST0 HN h39
            go_wp2_with fail
            refine (HP.out _).mono ?_
            rintro e w6 ⟨⟨v6, rfl, hcv⟩, hb6⟩
            have HB6 := hide (HNX.out.trans (hb6.mono HNX.out.size))
            have HCV := hide hcv
            clear hb6
            go_wp2
            go_roundw
            case rel => exact ⟨k + 1, hlk, by rw [HST.out]; exact congrArg Value.string (cat_mk T N), by go_num, HB6.out⟩
            case measure => simp; omega
        · have hq2 : (G.quote.toList == [39]) = false := beq_eq_false_iff_ne.2 hq
          have HQ := hide hq
          clear hq
          by_cases h34 : z = 34
          · subst h34
            have HST : Hid (u8 (enc (gl G.quote (CS.take (k + 1)))) = T ++ (92 :: N)) := hide (by
              rw [HST0.out, ← HN.out, ← enc1 34]
              unfold g1 gd
              rw [if_neg HQ.out, if_pos (Or.inl rfl), if_neg (by decide)]
              rfl)
            clear HST0 HN
            go_wp2_with fail
            refine (HP.out _).mono ?_
            rintro e w6 ⟨⟨v6, rfl, hcv⟩, hb6⟩
            have HB6 := hide (HNX.out.trans (hb6.mono HNX.out.size))
            have HCV := hide hcv
            clear hb6
            go_wp2
            go_roundw
            case rel => exact ⟨k + 1, hlk, by rw [HST.out]; exact congrArg Value.string (cat4 T N 92), by go_num, HB6.out⟩
            case measure => simp; omega
          · by_cases h92 : z = 92
            · subst h92
              have HST : Hid (u8 (enc (gl G.quote (CS.take (k + 1)))) = T ++ (92 :: N)) := hide (by
                rw [HST0.out, ← HN.out, ← enc1 92]
                unfold g1 gd
                rw [if_neg HQ.out, if_pos (Or.inr rfl), if_neg (by decide)]
                rfl)
              clear HST0 HN h34
              go_wp2_with fail
              refine (HP.out _).mono ?_
              rintro e w6 ⟨⟨v6, rfl, hcv⟩, hb6⟩
              have HB6 := hide (HNX.out.trans (hb6.mono HNX.out.size))
              have HCV := hide hcv
              clear hb6
              go_wp2
              go_roundw
              case rel => exact ⟨k + 1, hlk, by rw [HST.out]; exact congrArg Value.string (cat4 T N 92), by go_num, HB6.out⟩
              case measure => simp; omega
            · have h3 : (z == 34) = false := beq_eq_false_iff_ne.2 h34
              have h4 : (z == 92) = false := beq_eq_false_iff_ne.2 h92
              have HST : Hid (u8 (enc (gl G.quote (CS.take (k + 1)))) = T ++ N) := hide (by
                rw [HST0.out, ← HN.out, ← enc1 z]
                unfold g1 gd
                have e34 : ¬ (z = 34 ∨ z = 92) := by omega
                rw [if_neg HQ.out, if_neg e34, if_pos rfl])
              clear HST0 HN h34 h92
              go_wp2_with fail
              refine (HP.out _).mono ?_
              rintro e w6 ⟨⟨v6, rfl, hcv⟩, hb6⟩
              have HB6 := hide (HNX.out.trans (hb6.mono HNX.out.size))
              have HCV := hide hcv
              clear hb6
              go_wp2
              go_roundw
              case rel => exact ⟨k + 1, hlk, by rw [HST.out]; exact congrArg Value.string (cat_mk T N), by go_num, HB6.out⟩
              case measure => simp; omega
      · have hke : k = L := by omega
        subst hke
        have HF := hide (HB23.out _ hnx)
        have hpl := HPL.out k
        obtain ⟨S, hS⟩ : ∃ S, u8 (enc (gl G.quote (CS.take k))) = S := ⟨_, rfl⟩
        rw [hS] at hpl ⊢
        rw [HTK.out] at hS
        have HR2 : Hid (litT G x = G.quote.data.toList ++ S ++ G.quote.data.toList) := hide (by rw [HR.out, hS])
        obtain ⟨hl1, hl2⟩ := HFIN.out S hpl
        clear hnx HCF HSN HG hS HR
        unfold str
        go_wp2
        go_ret2
        refine ⟨?_, HF.out⟩
        rw [HR2.out, ← str3 G.quote S]
        rfl
  · have hL0 : L = 0 := by omega
    subst hL0
    have HF := hide (HB23.out _ hb3)
    have HS0 : Hid (G.quote.data.toList ++ u8 (enc (gl G.quote CS)) ++ G.quote.data.toList = G.quote.data.toList ++ [] ++ G.quote.data.toList) := hide (by rw [← HTK.out]; rfl)
    have HR2 : Hid (litT G x = G.quote.data.toList ++ [] ++ G.quote.data.toList) := hide (by rw [HR.out, HS0.out])
    obtain ⟨hl1, hl2⟩ := HFIN.out [] (Nat.zero_le _)
    clear hb2 k0 k1 k9 k10 HLB HR HS0
    go_wp2
    go_loopw [6, 8] (fun v i wr => v = .string ⟨#[]⟩ ∧ i = .int .i64 0 ∧ wr = w3) (fun v i _ => 0)
    case atStart => exact ⟨rfl, rfl, rfl⟩
    case round =>
      obtain ⟨rfl, rfl, rfl⟩ := hrel
      go_wp2
      go_ret2
      refine ⟨?_, HF.out⟩
      rw [HR2.out, ← str3 G.quote []]
      rfl
theorem rlit66 {n lo : Nat} {x : Ar} {va : Value} {G : Gs} {w : World} (hx : ArIn n lo w x va) (hl : x.cells.length ≤ 100000) (h64 : ∀ i, i < x.cells.length → I64 (cAt x.cells i).2.1) (hm : G.minus.size ≤ 1000000) (hq : G.quote.size ≤ 1000000) :
    Calls Tryd.prog 66 #[va, gV G] w fun e w' => e = .returned (.tuple #[.string (str (litS G x)), .int .i64 (litE x)]) ∧ Below w.heap.size w w' := by
  unfold litS litE
  cases hB : litB x with
  | false => exact rlit66_no hx hB
  | true =>
    cases ht : txB x with
    | false => exact rlit66_num hx hl hB ht h64 hm
    | true => exact rlit66_text hx hl hB ht (lit_good hB ht) hq
end Go.Proofs.YtneblkdkhlgmcaaDoor
