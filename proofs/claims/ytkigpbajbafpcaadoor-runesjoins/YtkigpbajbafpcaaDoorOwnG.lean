/-
  The contract of Read of layer 2: for all bytes the signs that they are, in memory of its own; or at which byte the first ones begin that are no sign's, and ErrUtf8.
-/
import Derived.Test.YtkigpbajbafpcaaDoorOwnF
namespace Go.Proofs.YtkigpbajbafpcaaDoor
open Go.ChangeShapes Go.WideShapes Go.ChangeAt Go.RowKit
theorem getD_cons {c0 : Int} {t : List Int} (i : Nat) : (c0 :: t)[1 + i]?.getD 0 = t.getD i 0 := by
  rw [Nat.add_comm, List.getElem?_cons_succ, List.getD_eq_getElem?_getD]
theorem one_part (bs : List Int) (n : Nat) (hn : bs.length = n) (h0 : 0 < n) (b off cap : Nat) (w : World) (T : Tab w) (hB : ∀ z ∈ bs, Byte z) (hl : n ≤ 140737488355328)
    (hc : ∀ i, i < n → w.cell? ⟨b, off + i, none⟩ = some (.int .u8 (bs[i]?.getD 0))) :
    Calls Tryd.prog 15 #[.slice (some ⟨b, off, none⟩) n cap] w fun e w' => (∃ n k : Int, e = .returned (.tuple #[.int .i64 n, .int .i64 k]) ∧ IsOne bs n k) ∧ w' = w := by
  subst hn
  cases bs with
  | nil => simp at h0
  | cons c0 t =>
    have b0 := hB c0 (by simp)
    refine one_walk c0 t b off cap w T b0.1 b0.2 (fun z hz => hB z (by simp [hz])) (by simp at hl; omega) ?_ ?_
    · have := hc 0 (by simp); simpa using this
    · intro i hi
      have := hc (1 + i) (by simp; omega)
      rw [this, getD_cons]
theorem one_some (bs : List Int) (m : Int) (rest : List Int) (hm : Good m) (he : bs = put m ++ rest) (n : Nat) (hn : bs.length = n) (b off cap : Nat) (w : World) (T : Tab w) (hB : ∀ z ∈ bs, Byte z) (hl : n ≤ 140737488355328)
    (hc : ∀ i, i < n → w.cell? ⟨b, off + i, none⟩ = some (.int .u8 (bs[i]?.getD 0))) :
    Calls Tryd.prog 15 #[.slice (some ⟨b, off, none⟩) n cap] w fun e w' => e = .returned (.tuple #[.int .i64 m, .int .i64 (wid m)]) ∧ w' = w := by
  have h0 : 0 < n := by
    rw [← hn, he, List.length_append, put_length]
    have := wid_pos m
    omega
  refine (one_part bs n hn h0 b off cap w T hB hl hc).mono ?_
  rintro e w' ⟨⟨x, k, rfl, hx⟩, rfl⟩
  rcases hx with ⟨_, _, h⟩ | ⟨r, hg, hr, hk⟩
  · exact absurd he (h m rest hm)
  · obtain ⟨rfl, _⟩ := put_inj hg hm (hr.symm.trans he)
    exact ⟨by rw [hk], rfl⟩
theorem one_zero (bs : List Int) (hns : NoSign bs) (n : Nat) (hn : bs.length = n) (h0 : 0 < n) (b off cap : Nat) (w : World) (T : Tab w) (hB : ∀ z ∈ bs, Byte z) (hl : n ≤ 140737488355328)
    (hc : ∀ i, i < n → w.cell? ⟨b, off + i, none⟩ = some (.int .u8 (bs[i]?.getD 0))) :
    Calls Tryd.prog 15 #[.slice (some ⟨b, off, none⟩) n cap] w fun e w' => e = .returned (.tuple #[.int .i64 0, .int .i64 0]) ∧ w' = w := by
  refine (one_part bs n hn h0 b off cap w T hB hl hc).mono ?_
  rintro e w' ⟨⟨x, k, rfl, hx⟩, rfl⟩
  rcases hx with ⟨rfl, rfl, h⟩ | ⟨r, hg, hr, hk⟩
  · exact ⟨rfl, rfl⟩
  · exact absurd hr (hns x r hg)
theorem one_empty (a : Option Addr) (cap : Nat) (w : World) :
    Calls Tryd.prog 15 #[.slice a 0 cap] w fun e w' => e = .returned (.tuple #[.int .i64 0, .int .i64 0]) ∧ w' = w := by
  go_enter Tryd.func15, Tryd.ntmps15
  go_wp2
  go_ret2
  exact ⟨rfl, rfl⟩
theorem drop_at (b : List Int) (k i : Nat) : (b.drop k)[i]?.getD 0 = b[k + i]?.getD 0 := by rw [List.getElem?_drop]
theorem iv_append (l m : List Int) : iv (l ++ m) = iv l ++ iv m := List.map_append
/-- What Read tells. -/
def ReadTold (l r : List Int) (w : World) (e : Ending) (w' : World) : Prop :=
  (r = [] → ∃ a, e = .returned (.tuple #[.slice a l.length l.length, .int .i64 0, .int .i64 0]) ∧ Row .i64 w' a l ∧ ∀ x, a = some x → w.heap.size ≤ x.block) ∧
  (r ≠ [] → e = .returned (.tuple #[.slice none 0 0, .int .i64 (enc l).length, .int .i64 3])) ∧ Below w.heap.size w w'
set_option maxHeartbeats 4000000 in
theorem read_any (b l r : List Int) (P : Parse b l r) (a : Option Addr) (cap : Nat) (w : World) (R : Row .u8 w a b) (T : Tab w) (hB : ∀ z ∈ b, Byte z) (hcap : (b.length : Int) ≤ cap) (hl : l.length * 8 ≤ 140737488355328) :
    Calls Tryd.prog 13 #[.slice a b.length cap] w fun e w' => ReadTold l r w e w' := by
  obtain ⟨i0, hi, hz0, hz1, hz2⟩ := info_parts info2
  have hbl := R.1
  have hrow := @row_at _ _ _ _ R
  have hP : Hid _ := parse_len P
  have HP : Hid (Parse b l r) := P
  go_enter Tryd.func13, Tryd.ntmps13
  go_wp2
  go_loopw [5, 6] (fun v i wr => ∃ j : Nat, j ≤ l.length ∧ i = .int .i64 ((enc (l.take j)).length : Nat) ∧ wr.ownsRow w.heap.size 2 1 v j (iv (l.take j)) ∧ Below w.heap.size w wr) (fun _ i _ => b.length - (intOf i).toNat)
  case atStart => exact ⟨0, Nat.zero_le _, rfl, World.ownsRow_nil _ _ _ _, Below.refl _ _⟩
  case round =>
    obtain ⟨j, hj, rfl, hown, hnx⟩ := hrel
    have T' := T.below hnx T.1
    have hd := parse_at HP.out j
    have hE := enc_len (l.take j)
    by_cases hlt : j < l.length
    · have hz := enc_drop l j hlt
      rw [hz, List.append_assoc] at hd
      have hg : Good l[j] := HP.out.1 _ (List.getElem_mem hlt)
      have hs := enc_take_succ l j hlt
      have hle : (enc (l.take j)).length + wid l[j] ≤ b.length := by
        have h1 := congrArg List.length hd
        rw [List.length_drop, List.length_append, put_length] at h1
        have := wid_pos l[j]
        omega
      have et : l.take (j + 1) = l.take j ++ [l[j]] := List.take_succ_eq_append_getElem hlt
      have hwp := wid_pos l[j]
      obtain ⟨z, hze⟩ : ∃ z, l[j] = z := ⟨_, rfl⟩
      rw [hze] at hd hg hs hle et hwp
      obtain ⟨rest, hre⟩ : ∃ rest, enc (l.drop (j + 1)) ++ r = rest := ⟨_, rfl⟩
      rw [hre] at hd
      have HS : Hid ((enc (l.take (j + 1))).length = (enc (l.take j)).length + wid z) := hs
      have HT : Hid (l.take (j + 1) = l.take j ++ [z]) := et
      have HG : Hid (Good z) := hg
      have HD : Hid (b.drop (enc (l.take j)).length = put z ++ rest) := hd
      clear hs et hg hd hre hze hz
      obtain ⟨blk, off, ha, hb, _⟩ := hrow (j := 0) (by omega)
      have hcs : ∀ i, i < b.length → w.cell? ⟨blk, off + i, none⟩ = some (.int .u8 (b[i]?.getD 0)) := by
        intro i hi
        obtain ⟨b2, o2, h2, _, h3⟩ := hrow hi
        rw [ha] at h2
        cases h2
        exact h3
      have HC : Hid (∀ i, i < b.length → wr.cell? ⟨blk, off + i, none⟩ = some (.int .u8 (b[i]?.getD 0))) := fun i hi => (hnx.cell (p := ⟨blk, off + i, none⟩) hb).trans (hcs i hi)
      subst ha
      clear hrow hcs
      obtain ⟨p, hp⟩ : ∃ p, (enc (l.take j)).length = p := ⟨_, rfl⟩
      rw [hp] at HD hE hle HS ⊢
      clear hp
      have C := one_some (b.drop p) z rest HG.out HD.out (b.length - p) (by rw [List.length_drop]) blk (off + p) (b.length - p) wr T' (fun x hx => hB x (List.mem_of_mem_drop hx)) (by omega)
        (fun i hi => by rw [drop_at, Nat.add_assoc]; exact HC.out (p + i) (by omega))
      have HB : Hid (∀ z ∈ b, Byte z) := hB
      clear hB HD HG
      have hs0 : ((wid z : Int) == 0) = false := beq_eq_false_iff_ne.2 (by omega)
      obtain ⟨s, hs⟩ : ∃ s, wid z = s := ⟨_, rfl⟩
      rw [hs] at C hs0 hwp hle HS
      clear hs
      go_wp2_with (first | (go_at_call 15; refine C.mono ?_; rintro e w' ⟨rfl, hw⟩; rw [hw]) | (at_builtin; refine wpList_append_own _ rfl _ _ 22 rfl w.heap.size 2 i0 (.int .i64 0) 1 8 Tryd.underlying22 hi hz0 hz1 hz2 rfl (by decide) _ _ _ rfl (hown.alloc _) ⟨wr.heap.size, 0, none⟩ 1 1 [.int .i64 z] rfl rfl ?c1 ?c2 ?c3 ?c4 ?c5 ?_))
      case c1 =>
        intro j u hj
        match j, hj with
        | 0, hj => simp at hj; subst hj; simp [Addr.add]
      case c2 => intro u hu; simp at hu; subst hu; rfl
      case c3 => unfold maxLen; omega
      case c4 => omega
      case c5 => have := hnx.size; simp; omega
      · intro v' w1 hown' hgrow _
        have hown2 : w1.ownsRow w.heap.size 2 1 v' (j + 1) (iv (l.take (j + 1))) := by
          rw [HT.out, iv_append]; rw [← List.map_take] at hown'; exact hown'
        have hbel : Below w.heap.size w w1 := (hnx.alloc hnx.size _).grown hgrow (by have := hnx.size; simp; omega) (fun q hq => (hown.lt q hq).1)
        clear hown' hgrow hown hnx C
        go_wp2
        go_roundw
        case rel => exact ⟨j + 1, by omega, by rw [HS.out]; go_num, hown2, hbel⟩
        case measure => simp [intOf]; omega
    · have hje : j = l.length := by omega
      subst hje
      rw [List.take_length] at hown
      have hp := hP.out
      clear hE
      by_cases hr : r = []
      · subst hr
        rw [List.take_length]
        rw [List.length_nil, Nat.add_zero] at hp
        rw [← hp]
        obtain ⟨a', c', hv, R', hx, hcap', hnil⟩ := row_owned hown (by omega)
        subst hv
        clear hown hrow hd
        go_wp2
        refine bodyPost_ret (v := .tuple #[.slice a' l.length l.length, .int .i64 0, .int .i64 0]) (by simp [results, Tryd.results13, go_sem]) rfl ?_
        exact ⟨fun _ => ⟨a', rfl, R', hx⟩, fun h => absurd rfl h, hnx⟩
      · have hrl : 0 < r.length := List.length_pos_iff.2 hr
        have hns : NoSign r := HP.out.2.2
        rw [List.take_length] at hd ⊢
        rw [List.drop_length, enc_nil, List.nil_append] at hd
        obtain ⟨p, hpp⟩ : ∃ p, (enc l).length = p := ⟨_, rfl⟩
        rw [hpp] at hd hp ⊢
        obtain ⟨blk, off, ha, hb, _⟩ := hrow (j := 0) (by omega)
        have hcs : ∀ i, i < b.length → w.cell? ⟨blk, off + i, none⟩ = some (.int .u8 (b[i]?.getD 0)) := by
          intro i hi
          obtain ⟨b2, o2, h2, _, h3⟩ := hrow hi
          rw [ha] at h2
          cases h2
          exact h3
        have HC : Hid (∀ i, i < b.length → wr.cell? ⟨blk, off + i, none⟩ = some (.int .u8 (b[i]?.getD 0))) := fun i hi => (hnx.cell (p := ⟨blk, off + i, none⟩) hb).trans (hcs i hi)
        subst ha
        clear hrow hcs
        have C := one_zero (b.drop p) (by rw [hd]; exact hns) (b.length - p) (by rw [List.length_drop]) (by omega) blk (off + p) (b.length - p) wr T' (fun x hx => hB x (List.mem_of_mem_drop hx)) (by omega)
          (fun i hi => by rw [drop_at, Nat.add_assoc]; exact HC.out (p + i) (by omega))
        have HB : Hid (∀ z ∈ b, Byte z) := hB
        have hplt : p < b.length := by omega
        have HPP : Hid ((enc l).length = p) := hpp
        clear hB hp hd hpp
        go_wp2_with (first | (go_at_call 15; refine C.mono ?_; rintro e w' ⟨rfl, hw⟩; rw [hw]))
        refine bodyPost_ret (v := .tuple #[.slice none 0 0, .int .i64 p, .int .i64 3]) (by simp [results, Tryd.results13, go_sem]) rfl ?_
        exact ⟨fun h => absurd h hr, fun _ => by rw [HPP.out], hnx⟩
end Go.Proofs.YtkigpbajbafpcaaDoor
