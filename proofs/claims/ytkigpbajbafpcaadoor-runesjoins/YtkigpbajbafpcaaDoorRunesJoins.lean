/-
  For all two lists of bytes the statement RunesJoins holds: two texts of signs, one behind the other, are both one's signs, and where the first one is none stays the place; no condition (the given row speaks of slices that a machine of 64 bits can hold, and of the table of layer 2 as its text lays it).
-/
import Derived.Test.YtkigpbajbafpcaaDoorOwnI
import Derived.Test.YtkigpbajbafpcaaDoorOwnO
namespace Go.Proofs.YtkigpbajbafpcaaDoor.runesJoins
open Go.ChangeShapes Go.WideShapes Go.ChangeAt Go.RowKit
set_option linter.unusedVariables false
set_option maxHeartbeats 2000000 in
theorem walk0 (a b : Option Addr) (la lb ca cb : Nat) (w : World) (T : Tab w) (hla : la ≤ 140737488355328) (hlb : lb ≤ 140737488355328) (h : 65536 < la ∨ 65536 < lb) :
    Calls Tryd.prog 7 #[.slice a la ca, .slice b lb cb] w fun e w' => e = .returned (.bool true) ∧ Below w.heap.size w w' := by
  by_cases h1 : 65536 < la
  · clear h
    go_enter Tryd.func7, Tryd.ntmps7
    go_wp2_with (go_at_call 12; refine (works_any _ T).mono ?_; rintro e w1 ⟨rfl, hb1⟩)
    go_ret
    exact ⟨rfl, hb1⟩
  · have h2 : 65536 < lb := by omega
    clear h
    go_enter Tryd.func7, Tryd.ntmps7
    go_wp2_with (go_at_call 12; refine (works_any _ T).mono ?_; rintro e w1 ⟨rfl, hb1⟩)
    go_ret
    exact ⟨rfl, hb1⟩
theorem row_drop {k : IntKind} {w : World} {b off : Nat} {x : List Int} (R : Row k w (some ⟨b, off, none⟩) x) (p : Nat) : Row k w (some ⟨b, off + p, none⟩) (x.drop p) := by
  refine ⟨by have := R.1; rw [List.length_drop]; omega, ?_⟩
  rcases R.2 with h | ⟨b', o', ha, hb, hc⟩
  · left; rw [h]; simp
  · cases ha
    right
    refine ⟨b, off + p, rfl, hb, fun i hi => ?_⟩
    rw [List.length_drop] at hi
    rw [drop_at, Nat.add_assoc]
    exact hc (p + i) (by omega)
theorem row_nil {k : IntKind} {w : World} {a : Option Addr} {len cap : Nat} {zs : List Int} (h : IsRow k w a len cap zs) : a = none → cap = 0 := by
  rcases h with ⟨_, _, hc, _⟩ | ⟨x, hx, _⟩
  · exact fun _ => hc
  · intro h0; rw [hx] at h0; cases h0
set_option maxHeartbeats 4000000 in
theorem walkA1 (x l r y s : List Int) (m : Int) (P : Parse x l r) (hr : r ≠ []) (hm : Good m) (hms : r ++ y = put m ++ s) (blk off : Nat) (b : Option Addr) (ca cb : Nat) (w : World) (T : Tab w) (R : Row .u8 w (some ⟨blk, off, none⟩) x) (S : Row .u8 w b y) (hx : ∀ z ∈ x, Byte z) (hy : ∀ z ∈ y, Byte z)
    (hxc : x.length ≤ ca) (hyc : y.length ≤ cb) (hyn : b = none → cb = 0) (hxl : x.length ≤ 65536) (hyl : y.length ≤ 65536) :
    Calls Tryd.prog 7 #[.slice (some ⟨blk, off, none⟩) x.length ca, .slice b y.length cb] w fun e w' => e = .returned (.bool true) ∧ Below w.heap.size w w' := by
  obtain ⟨i0, hi, hz0, hz1, hz2⟩ := info_parts info5
  have hbig := join_big hr P.2.2 hm hms
  have HMS : Hid (r ++ y = put m ++ s) := hms
  have HMG : Hid (Good m) := hm
  have hwm := wid_pos m
  clear hms hm
  have hp := parse_len P
  have he := enc_len l
  have hrl : 0 < r.length := List.length_pos_iff.2 hr
  have hl8 : l.length * 8 ≤ 140737488355328 := by omega
  have hat : (enc l).length < x.length := by omega
  have hd : x.drop (enc l).length = r := by
    conv => lhs; rw [P.2.1]
    rw [List.drop_left]
  clear hp he hrl
  obtain ⟨p, hpp⟩ : ∃ p, (enc l).length = p := ⟨_, rfl⟩
  have HPP : Hid ((enc l).length = p) := hpp
  rw [hpp] at hat hd
  have HD : Hid (x.drop p = r) := hd
  clear hpp hd
  go_enter Tryd.func7, Tryd.ntmps7
  go_wp2_with fail
  refine (read_at x l r P x.length rfl _ _ _ R T hx hxc hl8).mono ?_
  rintro e w1 ⟨_, h1, B1⟩
  have e1 := h1 hr
  rw [HPP.out] at e1
  subst e1
  clear h1
  clear P hr
  have E1 := made_empty w1 w.heap.size 5 B1.size
  have A1 : Below w.heap.size w (w1.alloc (.cells #[] 5)) := B1.alloc B1.size _
  have R1 := R.next A1
  go_wp2_with (at_builtin; refine wpList_append_row (by rfl) _ _ 23 rfl w.heap.size 5 i0 (.int .u8 0) 1 Tryd.underlying23 hi hz0 hz1 hz2 rfl _ _ _ rfl E1 .u8 (some ⟨blk, off, none⟩) x.length ca x rfl rfl R1 (fun h => by cases h) ?c3 ?c4 A1.size ?_)
  case c3 => unfold maxLen; omega
  case c4 => omega
  intro v2 w2 o2 b2
  have B2 : Below w.heap.size w w2 := A1.trans b2
  have S2 := S.next B2
  clear E1 A1 b2 R1
  go_wp2_with (at_builtin; refine wpList_append_row (by rfl) _ _ 23 rfl w.heap.size 5 i0 (.int .u8 0) 1 Tryd.underlying23 hi hz0 hz1 hz2 rfl _ _ _ rfl o2 .u8 b y.length cb y rfl rfl S2 hyn ?c3 ?c4 B2.size ?_)
  case c3 => unfold maxLen; omega
  case c4 => omega
  intro v3 w3 o3 b3
  have B3 : Below w.heap.size w w3 := B2.trans b3
  clear b3 S2 o2 B2
  have q3 : w3.ownsRow w.heap.size 5 1 v3 (x ++ y).length (bv (x ++ y)) := by
    rw [List.length_append, bv_append]
    simpa using o3
  obtain ⟨a3, c3, hv, R3, _, hc3, _⟩ := row_owned q3 (by rw [List.length_append]; omega)
  subst hv
  rw [List.length_append] at hc3
  have T3 := T.below B3 T.1
  clear o3 q3
  have hxy : ∀ z ∈ x ++ y, Byte z := fun z hz => (List.mem_append.1 hz).elim (hx z) (hy z)
  go_wp2_with fail
  refine (read_loose (x ++ y) (x.length + y.length) List.length_append _ _ _ R3 T3 hxy (by omega) (by omega)).mono ?_
  rintro e w4 ⟨⟨q0, q1, q2, rfl⟩, b4⟩
  have B4 : Below w.heap.size w w4 := B3.trans (b4.mono B3.size)
  clear R3 T3 hxy b4 B3 hc3 B1
  have E4 := made_empty w4 w.heap.size 5 B4.size
  have A4 : Below w.heap.size w (w4.alloc (.cells #[] 5)) := B4.alloc B4.size _
  have R4 := (row_drop R p).next A4
  go_wp2_with (at_builtin; refine wpList_append_row (by rfl) _ _ 23 rfl w.heap.size 5 i0 (.int .u8 0) 1 Tryd.underlying23 hi hz0 hz1 hz2 rfl _ _ _ rfl E4 .u8 (some ⟨blk, off + p, none⟩) (x.length - p) (ca - p) (x.drop p) rfl (List.length_drop ..) R4 (fun h => by cases h) ?c3 ?c4 A4.size ?_)
  case c3 => unfold maxLen; omega
  case c4 => omega
  intro v5 w5 o5 b5
  have B5 : Below w.heap.size w w5 := A4.trans b5
  have S5 := S.next B5
  clear E4 A4 b5 R4
  go_wp2_with (at_builtin; refine wpList_append_row (by rfl) _ _ 23 rfl w.heap.size 5 i0 (.int .u8 0) 1 Tryd.underlying23 hi hz0 hz1 hz2 rfl _ _ _ rfl o5 .u8 b y.length cb y rfl rfl S5 hyn ?c3 ?c4 B5.size ?_)
  case c3 => unfold maxLen; omega
  case c4 => omega
  intro v6 w6 o6 b6
  have B6 : Below w.heap.size w w6 := B5.trans b6
  clear b6 S5 o5 B5
  have q6 : w6.ownsRow w.heap.size 5 1 v6 (x.drop p ++ y).length (bv (x.drop p ++ y)) := by
    rw [List.length_append, List.length_drop, bv_append]
    simpa [List.map_drop] using o6
  obtain ⟨a6, c6, hv, R6, _, hc6, _⟩ := row_owned q6 (by rw [List.length_append, List.length_drop]; omega)
  subst hv
  rw [List.length_append, List.length_drop] at hc6
  have hry : ∀ z ∈ x.drop p ++ y, Byte z := fun z hz => (List.mem_append.1 hz).elim (fun h => hx z (List.mem_of_mem_drop h)) (hy z)
  have hlen6 : (x.drop p ++ y).length = x.length - p + y.length := by rw [List.length_append, List.length_drop]
  have T6 := T.below B6 T.1
  clear o6 q6
  obtain ⟨blk6, off6, h6, hlt6, hcell6⟩ : ∃ blk6 off6, a6 = some ⟨blk6, off6, none⟩ ∧ blk6 < w6.heap.size ∧ ∀ i, i < x.length - p + y.length → w6.cell? ⟨blk6, off6 + i, none⟩ = some (.int .u8 ((x.drop p ++ y)[i]?.getD 0)) := by
    rcases R6.2 with h | ⟨b6, o6, ha, hb, hc⟩
    · exfalso
      rw [h] at hlen6
      simp at hlen6
      omega
    · exact ⟨b6, o6, ha, hb, fun i hi => hc i (by rw [hlen6]; exact hi)⟩
  subst h6
  have C := oneR_some (x.drop p ++ y) m s HMG.out (by rw [HD.out]; exact HMS.out) (x.length - p + y.length) hlen6 blk6 off6 c6 w6 hry (by omega) hlt6 (by omega) hcell6
  have HL6 : Hid _ := hlen6
  clear hlen6 hcell6 R6 hry
  go_wp2_with fail
  refine C.mono ?_
  rintro e w7 ⟨rfl, b7⟩
  have B7 : Below w.heap.size w w7 := B6.trans (b7.mono B6.size)
  have T7 := T6.below b7 T6.1
  clear C b7 B6 B4 T6
  go_wp2_with (go_at_call 12; refine (works_any _ T7).mono ?_; rintro e w8 ⟨rfl, b8⟩)
  go_ret
  exact ⟨rfl, B7.trans (b8.mono B7.size)⟩
set_option maxHeartbeats 4000000 in
theorem walkA2 (x l r y : List Int) (P : Parse x l r) (hr : r ≠ []) (hns : NoSign (r ++ y)) (blk off : Nat) (b : Option Addr) (ca cb : Nat) (w : World) (T : Tab w) (R : Row .u8 w (some ⟨blk, off, none⟩) x) (S : Row .u8 w b y) (hx : ∀ z ∈ x, Byte z) (hy : ∀ z ∈ y, Byte z)
    (hxc : x.length ≤ ca) (hyc : y.length ≤ cb) (hyn : b = none → cb = 0) (hxl : x.length ≤ 65536) (hyl : y.length ≤ 65536) :
    Calls Tryd.prog 7 #[.slice (some ⟨blk, off, none⟩) x.length ca, .slice b y.length cb] w fun e w' => e = .returned (.bool true) ∧ Below w.heap.size w w' := by
  obtain ⟨i0, hi, hz0, hz1, hz2⟩ := info_parts info5
  have P2 := parse_more P hns
  have hry0 : r ++ y ≠ [] := by
    intro h
    exact hr (List.append_eq_nil_iff.1 h).1
  have hp := parse_len P
  have he := enc_len l
  have hrl : 0 < r.length := List.length_pos_iff.2 hr
  have hl8 : l.length * 8 ≤ 140737488355328 := by omega
  have hat : (enc l).length < x.length := by omega
  have hd : x.drop (enc l).length = r := by
    conv => lhs; rw [P.2.1]
    rw [List.drop_left]
  clear hp he hrl
  obtain ⟨p, hpp⟩ : ∃ p, (enc l).length = p := ⟨_, rfl⟩
  have HPP : Hid ((enc l).length = p) := hpp
  rw [hpp] at hat hd
  have HD : Hid (x.drop p = r) := hd
  clear hpp hd
  go_enter Tryd.func7, Tryd.ntmps7
  go_wp2_with fail
  refine (read_at x l r P x.length rfl _ _ _ R T hx hxc hl8).mono ?_
  rintro e w1 ⟨_, h1, B1⟩
  have e1 := h1 hr
  rw [HPP.out] at e1
  subst e1
  clear h1
  clear P hr
  have E1 := made_empty w1 w.heap.size 5 B1.size
  have A1 : Below w.heap.size w (w1.alloc (.cells #[] 5)) := B1.alloc B1.size _
  have R1 := R.next A1
  go_wp2_with (at_builtin; refine wpList_append_row (by rfl) _ _ 23 rfl w.heap.size 5 i0 (.int .u8 0) 1 Tryd.underlying23 hi hz0 hz1 hz2 rfl _ _ _ rfl E1 .u8 (some ⟨blk, off, none⟩) x.length ca x rfl rfl R1 (fun h => by cases h) ?c3 ?c4 A1.size ?_)
  case c3 => unfold maxLen; omega
  case c4 => omega
  intro v2 w2 o2 b2
  have B2 : Below w.heap.size w w2 := A1.trans b2
  have S2 := S.next B2
  clear E1 A1 b2 R1
  go_wp2_with (at_builtin; refine wpList_append_row (by rfl) _ _ 23 rfl w.heap.size 5 i0 (.int .u8 0) 1 Tryd.underlying23 hi hz0 hz1 hz2 rfl _ _ _ rfl o2 .u8 b y.length cb y rfl rfl S2 hyn ?c3 ?c4 B2.size ?_)
  case c3 => unfold maxLen; omega
  case c4 => omega
  intro v3 w3 o3 b3
  have B3 : Below w.heap.size w w3 := B2.trans b3
  clear b3 S2 o2 B2
  have q3 : w3.ownsRow w.heap.size 5 1 v3 (x ++ y).length (bv (x ++ y)) := by
    rw [List.length_append, bv_append]
    simpa using o3
  obtain ⟨a3, c3, hv, R3, _, hc3, _⟩ := row_owned q3 (by rw [List.length_append]; omega)
  subst hv
  rw [List.length_append] at hc3
  have T3 := T.below B3 T.1
  clear o3 q3
  have hxy : ∀ z ∈ x ++ y, Byte z := fun z hz => (List.mem_append.1 hz).elim (hx z) (hy z)
  go_wp2_with fail
  refine (read_at (x ++ y) l (r ++ y) P2 (x.length + y.length) List.length_append _ _ _ R3 T3 hxy (by omega) hl8).mono ?_
  rintro e w4 ⟨_, h4, b4⟩
  have e4 := h4 hry0
  rw [HPP.out] at e4
  subst e4
  have B4 : Below w.heap.size w w4 := B3.trans (b4.mono B3.size)
  clear R3 T3 hxy b4 B3 hc3 B1 h4 P2 hry0
  have E4 := made_empty w4 w.heap.size 5 B4.size
  have A4 : Below w.heap.size w (w4.alloc (.cells #[] 5)) := B4.alloc B4.size _
  have R4 := (row_drop R p).next A4
  go_wp2_with (at_builtin; refine wpList_append_row (by rfl) _ _ 23 rfl w.heap.size 5 i0 (.int .u8 0) 1 Tryd.underlying23 hi hz0 hz1 hz2 rfl _ _ _ rfl E4 .u8 (some ⟨blk, off + p, none⟩) (x.length - p) (ca - p) (x.drop p) rfl (List.length_drop ..) R4 (fun h => by cases h) ?c3 ?c4 A4.size ?_)
  case c3 => unfold maxLen; omega
  case c4 => omega
  intro v5 w5 o5 b5
  have B5 : Below w.heap.size w w5 := A4.trans b5
  have S5 := S.next B5
  clear E4 A4 b5 R4
  go_wp2_with (at_builtin; refine wpList_append_row (by rfl) _ _ 23 rfl w.heap.size 5 i0 (.int .u8 0) 1 Tryd.underlying23 hi hz0 hz1 hz2 rfl _ _ _ rfl o5 .u8 b y.length cb y rfl rfl S5 hyn ?c3 ?c4 B5.size ?_)
  case c3 => unfold maxLen; omega
  case c4 => omega
  intro v6 w6 o6 b6
  have B6 : Below w.heap.size w w6 := B5.trans b6
  clear b6 S5 o5 B5
  have q6 : w6.ownsRow w.heap.size 5 1 v6 (x.drop p ++ y).length (bv (x.drop p ++ y)) := by
    rw [List.length_append, List.length_drop, bv_append]
    simpa [List.map_drop] using o6
  obtain ⟨a6, c6, hv, R6, _, hc6, _⟩ := row_owned q6 (by rw [List.length_append, List.length_drop]; omega)
  subst hv
  rw [List.length_append, List.length_drop] at hc6
  have hry : ∀ z ∈ x.drop p ++ y, Byte z := fun z hz => (List.mem_append.1 hz).elim (fun h => hx z (List.mem_of_mem_drop h)) (hy z)
  have hlen6 : (x.drop p ++ y).length = x.length - p + y.length := by rw [List.length_append, List.length_drop]
  have T6 := T.below B6 T.1
  clear o6 q6
  obtain ⟨blk6, off6, h6, hlt6, hcell6⟩ : ∃ blk6 off6, a6 = some ⟨blk6, off6, none⟩ ∧ blk6 < w6.heap.size ∧ ∀ i, i < x.length - p + y.length → w6.cell? ⟨blk6, off6 + i, none⟩ = some (.int .u8 ((x.drop p ++ y)[i]?.getD 0)) := by
    rcases R6.2 with h | ⟨b6, o6, ha, hb, hc⟩
    · exfalso
      rw [h] at hlen6
      simp at hlen6
      omega
    · exact ⟨b6, o6, ha, hb, fun i hi => hc i (by rw [hlen6]; exact hi)⟩
  subst h6
  have C := oneR_zero (x.drop p ++ y) (by rw [HD.out]; exact hns) (x.length - p + y.length) hlen6 blk6 off6 c6 w6 hry (by omega) hlt6 (by omega) hcell6
  have HL6 : Hid _ := hlen6
  clear hlen6 hcell6 R6 hry hns
  go_wp2_with fail
  refine C.mono ?_
  rintro e w7 ⟨rfl, b7⟩
  have B7 : Below w.heap.size w w7 := B6.trans (b7.mono B6.size)
  have T7 := T6.below b7 T6.1
  clear C b7 B6 B4 T6
  go_wp2_with (go_at_call 12; refine (works_any _ T7).mono ?_; rintro e w8 ⟨rfl, b8⟩)
  go_ret
  exact ⟨rfl, B7.trans (b8.mono B7.size)⟩
set_option maxHeartbeats 4000000 in
theorem walkB1 (x l y k t : List Int) (P : Parse x l []) (P2 : Parse y k t) (ht : t ≠ []) (a b : Option Addr) (ca cb : Nat) (w : World) (T : Tab w) (R : Row .u8 w a x) (S : Row .u8 w b y) (hx : ∀ z ∈ x, Byte z) (hy : ∀ z ∈ y, Byte z)
    (hxc : x.length ≤ ca) (hyc : y.length ≤ cb) (hxn : a = none → ca = 0) (hyn : b = none → cb = 0) (hxl : x.length ≤ 65536) (hyl : y.length ≤ 65536) :
    Calls Tryd.prog 7 #[.slice a x.length ca, .slice b y.length cb] w fun e w' => e = .returned (.bool true) ∧ Below w.heap.size w w' := by
  obtain ⟨i0, hi, hz0, hz1, hz2⟩ := info_parts info5
  have hpx := parse_len P
  have hpy := parse_len P2
  have he := enc_len l
  have he2 := enc_len k
  have hl8 : l.length * 8 ≤ 140737488355328 := by omega
  have hk8 : k.length * 8 ≤ 140737488355328 := by omega
  have hlk8 : (l ++ k).length * 8 ≤ 140737488355328 := by rw [List.length_append]; omega
  have hl6 : l.length ≤ 65536 := by omega
  have hk6 : k.length ≤ 65536 := by omega
  have P3 := parse_join P P2
  clear hpx hpy he he2
  go_enter Tryd.func7, Tryd.ntmps7
  go_wp2_with fail
  refine (read_at x l [] P x.length rfl _ _ _ R T hx hxc hl8).mono ?_
  rintro e w1 ⟨h1, _, B1⟩
  obtain ⟨a1, rfl, Q1, _⟩ := h1 rfl
  clear h1
  have E1 := made_empty w1 w.heap.size 5 B1.size
  have A1 : Below w.heap.size w (w1.alloc (.cells #[] 5)) := B1.alloc B1.size _
  have R1 := R.next A1
  go_wp2_with (at_builtin; refine wpList_append_row (by rfl) _ _ 23 rfl w.heap.size 5 i0 (.int .u8 0) 1 Tryd.underlying23 hi hz0 hz1 hz2 rfl _ _ _ rfl E1 .u8 a x.length ca x rfl rfl R1 hxn ?c3 ?c4 A1.size ?_)
  case c3 => unfold maxLen; omega
  case c4 => omega
  intro v2 w2 o2 b2
  have B2 : Below w.heap.size w w2 := A1.trans b2
  have S2 := S.next B2
  clear E1 A1 b2 R1
  go_wp2_with (at_builtin; refine wpList_append_row (by rfl) _ _ 23 rfl w.heap.size 5 i0 (.int .u8 0) 1 Tryd.underlying23 hi hz0 hz1 hz2 rfl _ _ _ rfl o2 .u8 b y.length cb y rfl rfl S2 hyn ?c3 ?c4 B2.size ?_)
  case c3 => unfold maxLen; omega
  case c4 => omega
  intro v3 w3 o3 b3
  have B3 : Below w.heap.size w w3 := B2.trans b3
  clear b3 S2 o2 B2
  have q3 : w3.ownsRow w.heap.size 5 1 v3 (x ++ y).length (bv (x ++ y)) := by
    rw [List.length_append, bv_append]
    simpa using o3
  obtain ⟨a3, c3, hv, R3, _, hc3, _⟩ := row_owned q3 (by rw [List.length_append]; omega)
  subst hv
  rw [List.length_append] at hc3
  have T3 := T.below B3 T.1
  clear o3 q3
  have hxy : ∀ z ∈ x ++ y, Byte z := fun z hz => (List.mem_append.1 hz).elim (hx z) (hy z)
  go_wp2_with fail
  refine (read_at (x ++ y) (l ++ k) t P3 (x.length + y.length) List.length_append _ _ _ R3 T3 hxy (by omega) hlk8).mono ?_
  rintro e w4 ⟨_, h4, b4⟩
  have e4 := h4 ht
  subst e4
  have B4 : Below w.heap.size w w4 := B3.trans (b4.mono B3.size)
  have S4 := S.next B4
  have T4 := T.below B4 T.1
  clear R3 T3 hxy b4 B3 hc3 B1 h4 P3 Q1
  go_wp2_with fail
  refine (read_at y k t P2 y.length rfl _ _ _ S4 T4 hy hyc hk8).mono ?_
  rintro e w5 ⟨_, h5, b5⟩
  have e5 := h5 ht
  subst e5
  have B5 : Below w.heap.size w w5 := B4.trans (b5.mono B4.size)
  have T5 := T4.below b5 T4.1
  clear S4 T4 b5 B4 h5 P2 P
  go_wp2_with (go_at_call 12; refine (works_any _ T5).mono ?_; rintro e w8 ⟨rfl, b8⟩)
  go_ret
  exact ⟨rfl, B5.trans (b8.mono B5.size)⟩
theorem row_none {k : IntKind} {w : World} {a : Option Addr} {zs : List Int} (R : Row k w a zs) (h : a = none) : zs.length = 0 := by
  subst h
  rcases R.2 with h0 | ⟨b, off, ha, _⟩
  · rw [h0]; rfl
  · cases ha
theorem same_at (l : List Int) (n : Nat) (hn : l.length = n) (a a' : Option Addr) (c c' : Nat) (w : World) (R : Row .i64 w a l) (R' : Row .i64 w a' l) :
    Calls Tryd.prog 17 #[.slice a n c, .slice a' n c'] w fun e w' => e = .returned (.bool true) ∧ Below w.heap.size w w' := by
  subst hn
  exact same_any l a a' c c' w R R'
set_option maxHeartbeats 4000000 in
theorem walkB2 (x l y k : List Int) (P : Parse x l []) (P2 : Parse y k []) (a b : Option Addr) (ca cb : Nat) (w : World) (T : Tab w) (R : Row .u8 w a x) (S : Row .u8 w b y) (hx : ∀ z ∈ x, Byte z) (hy : ∀ z ∈ y, Byte z)
    (hxc : x.length ≤ ca) (hyc : y.length ≤ cb) (hxn : a = none → ca = 0) (hyn : b = none → cb = 0) (hxl : x.length ≤ 65536) (hyl : y.length ≤ 65536) :
    Calls Tryd.prog 7 #[.slice a x.length ca, .slice b y.length cb] w fun e w' => e = .returned (.bool true) ∧ Below w.heap.size w w' := by
  obtain ⟨i0, hi, hz0, hz1, hz2⟩ := info_parts info5
  obtain ⟨j0, hj, hy0, hy1, hy2⟩ := info_parts info2
  have hpx := parse_len P
  have hpy := parse_len P2
  have he := enc_len l
  have he2 := enc_len k
  have hl8 : l.length * 8 ≤ 140737488355328 := by omega
  have hk8 : k.length * 8 ≤ 140737488355328 := by omega
  have hlk8 : (l ++ k).length * 8 ≤ 140737488355328 := by rw [List.length_append]; omega
  have hl6 : l.length ≤ 65536 := by omega
  have hk6 : k.length ≤ 65536 := by omega
  have P3 := parse_join P P2
  clear hpx hpy he he2
  go_enter Tryd.func7, Tryd.ntmps7
  go_wp2_with fail
  refine (read_at x l [] P x.length rfl _ _ _ R T hx hxc hl8).mono ?_
  rintro e w1 ⟨h1, _, B1⟩
  obtain ⟨a1, rfl, Q1, _⟩ := h1 rfl
  clear h1
  have S1 := S.next B1
  have R1 := R.next B1
  have T1 := T.below B1 T.1
  clear S R T
  have D2 : Below w1.heap.size w1 (w1.alloc (.cells #[] 5)) := (Below.refl _ _).alloc (Nat.le_refl _) _
  have E2 := made_empty w1 w1.heap.size 5 (Nat.le_refl _)
  have R2 := R1.next D2
  go_wp2_with (at_builtin; refine wpList_append_row (by rfl) _ _ 23 rfl w1.heap.size 5 i0 (.int .u8 0) 1 Tryd.underlying23 hi hz0 hz1 hz2 rfl _ _ _ rfl E2 .u8 a x.length ca x rfl rfl R2 hxn ?c3 ?c4 D2.size ?_)
  case c3 => unfold maxLen; omega
  case c4 => omega
  intro v3 w3 o3 b3
  have D3 : Below w1.heap.size w1 w3 := D2.trans b3
  have S3 := S1.next D3
  clear E2 D2 R2 b3
  go_wp2_with (at_builtin; refine wpList_append_row (by rfl) _ _ 23 rfl w1.heap.size 5 i0 (.int .u8 0) 1 Tryd.underlying23 hi hz0 hz1 hz2 rfl _ _ _ rfl o3 .u8 b y.length cb y rfl rfl S3 hyn ?c3 ?c4 D3.size ?_)
  case c3 => unfold maxLen; omega
  case c4 => omega
  intro v4 w4 o4 b4
  have D4 : Below w1.heap.size w1 w4 := D3.trans b4
  have q4 : w4.ownsRow w1.heap.size 5 1 v4 (x ++ y).length (bv (x ++ y)) := by
    rw [List.length_append, bv_append]
    simpa using o4
  obtain ⟨a4, c4, hv, R4, _, hc4, _⟩ := row_owned q4 (by rw [List.length_append]; omega)
  subst hv
  rw [List.length_append] at hc4
  have T4 := T1.below D4 T1.1
  have hxy : ∀ z ∈ x ++ y, Byte z := fun z hz => (List.mem_append.1 hz).elim (hx z) (hy z)
  clear o3 o4 q4 b4 D3 S3 R1
  go_wp2_with fail
  refine (read_at (x ++ y) (l ++ k) [] P3 (x.length + y.length) List.length_append _ _ _ R4 T4 hxy (by omega) hlk8).mono ?_
  rintro e w5 ⟨h5, _, b5⟩
  obtain ⟨a5, rfl, Q5, _⟩ := h5 rfl
  have D5 : Below w1.heap.size w1 w5 := D4.trans (b5.mono D4.size)
  have S5 := S1.next D5
  have T5 := T4.below b5 T4.1
  have X5 := Q1.next D5
  clear h5 b5 D4 R4 T4 hxy P3 S1 T1 Q1 hc4
  go_wp2_with fail
  refine (read_at y k [] P2 y.length rfl _ _ _ S5 T5 hy hyc hk8).mono ?_
  rintro e w6 ⟨h6, _, b6⟩
  obtain ⟨a6, rfl, Q6, _⟩ := h6 rfl
  have D6 : Below w1.heap.size w1 w6 := D5.trans (b6.mono D5.size)
  have T6 := T5.below b6 T5.1
  have X6 := X5.next b6
  have Z6 := Q5.next b6
  clear h6 b6 D5 S5 T5 X5 Q5 P2 P
  have F7 : Below w6.heap.size w6 (w6.alloc (.cells #[] 2)) := (Below.refl _ _).alloc (Nat.le_refl _) _
  have E7 := made_empty w6 w6.heap.size 2 (Nat.le_refl _)
  have X7 := X6.next F7
  have n7 := row_none X6
  go_wp2_with (at_builtin; refine wpList_append_row (by rfl) _ _ 22 rfl w6.heap.size 2 j0 (.int .i64 0) 8 Tryd.underlying22 hj hy0 hy1 hy2 rfl _ _ _ rfl E7 .i64 a1 l.length l.length l rfl rfl X7 n7 ?c3 ?c4 F7.size ?_)
  case c3 => unfold maxLen; omega
  case c4 => omega
  intro v8 w8 o8 b8
  have F8 : Below w6.heap.size w6 w8 := F7.trans b8
  have Y8 := Q6.next F8
  have n8 := row_none Y8
  clear E7 F7 X7 n7 b8 X6
  go_wp2_with (at_builtin; refine wpList_append_row (by rfl) _ _ 22 rfl w6.heap.size 2 j0 (.int .i64 0) 8 Tryd.underlying22 hj hy0 hy1 hy2 rfl _ _ _ rfl o8 .i64 a6 k.length k.length k rfl rfl Y8 n8 ?c3 ?c4 F8.size ?_)
  case c3 => unfold maxLen; omega
  case c4 => omega
  intro v9 w9 o9 b9
  have F9 : Below w6.heap.size w6 w9 := F8.trans b9
  have q9 : w9.ownsRow w6.heap.size 2 1 v9 (l ++ k).length (iv (l ++ k)) := by
    rw [List.length_append, iv_append]
    simpa using o9
  obtain ⟨a9, c9, hv, R9, _, hc9, _⟩ := row_owned q9 (by rw [List.length_append]; omega)
  subst hv
  have Z9 := Z6.next F9
  have T9 := T6.below F9 T6.1
  have B9 : Below w.heap.size w w9 := B1.trans ((D6.trans (F9.mono D6.size)).mono B1.size)
  clear o8 o9 q9 b9 F8 Y8 n8 Q6 Z6 T6 F9 D6 B1
  go_wp2_with fail
  refine (same_at (l ++ k) (l.length + k.length) List.length_append _ _ _ _ _ Z9 R9).mono ?_
  rintro e w10 ⟨rfl, b10⟩
  have T10 := T9.below b10 T9.1
  have B10 : Below w.heap.size w w10 := B9.trans (b10.mono B9.size)
  clear b10 B9 T9 Z9 R9
  go_wp2_with (go_at_call 12; refine (works_any _ T10).mono ?_; rintro e w11 ⟨rfl, b11⟩)
  go_ret
  exact ⟨rfl, B10.trans (b11.mono B10.size)⟩
theorem walk (a0 : Option Addr) (len0 cap0 : Nat) (z0 : List Int) (a1 : Option Addr) (len1 cap1 : Nat) (z1 : List Int) (w : World) (T : Tab w) (h0 : IsRow .u8 w a0 len0 cap0 z0) (hr0 : len0 * 1 ≤ 140737488351232) (h1 : IsRow .u8 w a1 len1 cap1 z1) (hr1 : len1 * 1 ≤ 140737488351232) :
    Calls Tryd.prog 7 #[.slice a0 len0 cap0, .slice a1 len1 cap1] w fun e w' => e = .returned (.bool true) ∧ Below w.heap.size w w' := by
  by_cases hbig : 65536 < len0 ∨ 65536 < len1
  · exact walk0 a0 a1 len0 len1 cap0 cap1 w T (by omega) (by omega) hbig
  · have R := row_of h0 (by omega)
    have S := row_of h1 (by omega)
    have hx := row_bytes h0
    have hy := row_bytes h1
    have hxc := row_cap h0
    have hyc := row_cap h1
    have hxn := row_nil h0
    have hyn := row_nil h1
    have hl0 := row_len h0
    have hl1 := row_len h1
    clear h0 h1
    generalize z0.take len0 = x at R hx hl0
    generalize z1.take len1 = y at S hy hl1
    subst hl0
    subst hl1
    obtain ⟨l, r, P⟩ := parse_exists x
    by_cases hr : r = []
    · subst hr
      obtain ⟨k, t, P2⟩ := parse_exists y
      by_cases ht : t = []
      · subst ht
        exact walkB2 x l y k P P2 a0 a1 cap0 cap1 w T R S hx hy hxc hyc hxn hyn (by omega) (by omega)
      · exact walkB1 x l y k t P P2 ht a0 a1 cap0 cap1 w T R S hx hy hxc hyc hxn hyn (by omega) (by omega)
    · have hne : x ≠ [] := by
        intro h
        have := P.2.1
        rw [h] at this
        exact hr (List.append_eq_nil_iff.1 this.symm).2
      rcases R.2 with h | ⟨blk, off, rfl, hb, hc⟩
      · exact absurd h hne
      · by_cases hns : NoSign (r ++ y)
        · exact walkA2 x l r y P hr hns blk off a1 cap0 cap1 w T R S hx hy hxc hyc hyn (by omega) (by omega)
        · simp only [NoSign, Classical.not_forall, Decidable.not_not] at hns
          obtain ⟨m, s, hm, hms⟩ := hns
          exact walkA1 x l r y s m P hr hm hms blk off a1 cap0 cap1 w T R S hx hy hxc hyc hyn (by omega) (by omega)
theorem laid_met (os : Os) : laidMet Tryd.prog Rows.runesJoinsRow.laid ((laidWorld os).forCall (fun _ _ => 0) ⟨#[], #[.slice none 0 0, .slice none 0 0], []⟩).memory :=
  laidMet_of_run' 8 (by kernel_rfl) (by kernel_rfl)
theorem reads (os : Os) {H : Type} (enc : TypeId × Value → H) : ∃ places, DataW.whole enc Tryd.prog ((laidWorld os).forCall (fun _ _ => 0) ⟨#[], #[.slice none 0 0, .slice none 0 0], []⟩).memory Tryd.f7.params.toList Rows.runesJoinsSpec.vars false #[Value.slice none 0 0, Value.slice none 0 0].toList 8 = some ([.nil, .nil], [], places) :=
  ⟨[], by kernel_rfl⟩
set_option maxRecDepth 100000 in
theorem lifted (os : Os) (started : os.Started) (H : Type) (enc : TypeId × Value → H) (F : Stop.Interp) :
    ReturnsInHanded {} Tryd.checked os 7 .any ((OpenSpec.ofChange Rows.runesJoinsSpec).preRow enc Tryd.prog Tryd.f7 Rows.runesJoinsRow.domain false Rows.runesJoinsRow.laid) (((OpenSpec.ofChange Rows.runesJoinsSpec).at F).post enc Tryd.prog Tryd.f7 false true false false) := by
  obtain ⟨places, hx⟩ := reads os enc
  refine returnsInHanded_of_row (C := Tryd.checked) (s := OpenSpec.ofChange Rows.runesJoinsSpec) own started (by kernel_rfl) Tryd.func7
    (witness_row_at (enc := enc) (C := Tryd.checked) false (laidWorld os) #[.slice none 0 0, .slice none 0 0] rfl (by kernel_rfl) (by kernel_rfl) (by kernel_rfl)
      (OpenSpec.preRow_of_cond 8 hx (by kernel_rfl) (fun k hk => by cases hk) (by kernel_rfl) (laid_met os))) ?_
  intro W base args ds gs before hval0 hW _ hcond hsz0 hL _ _
  have hsz : (DataW.weightsEach Tryd.prog (Tryd.f7.params.toList ++ Rows.runesJoinsSpec.plain.varTypes Tryd.prog) (ds ++ gs)).all (· ≤ reachBytes) = true := hsz0
  clear hsz0
  have hval : ∀ (j : Nat) t v, Tryd.f7.params[j]? = some t → args[j]? = some v → Value.okWide Tryd.prog W .any base t v := hval0
  have hW' := hW
  obtain ⟨p, q, hA0, hV, rfl, hfz, hnd⟩ := hW
  have hA : DataW.TrodAll enc Tryd.prog W 0 (fun _ => true) true Tryd.f7.params.toList args.toList ds p := hA0
  rw [Tryd.params7] at hA hval hsz
  obtain ⟨v0, vs0, d0, ds0, p0, q0, hargs, rfl, rfl, h0, r0⟩ := trodAll_cons hA
  obtain ⟨v1, vs1, d1, ds1, p1, q1, rfl, rfl, rfl, h1, r1⟩ := trodAll_cons r0
  obtain ⟨rfl, rfl, rfl⟩ := trodAll_nil r1
  obtain rfl : args = #[v0, v1] := by cases args; simp_all
  obtain ⟨rfl, rfl⟩ := trodVars_none hV
  obtain ⟨a0, len0, cap0, rfl⟩ := okWide_slice Tryd.underlying23 (hval 0 23 v0 rfl rfl)
  have k0 := h0
  have lt0 : ∀ x ∈ p0, x.block < W.heap.size := by obtain ⟨m, hm⟩ := k0; exact DataW.trod_lt m _ _ _ hm
  obtain ⟨z0, w0, b0⟩ : ∃ zs, IsRow .u8 W a0 len0 cap0 zs ∧ len0 * 1 ≤ 140737488351232 := by
    obtain ⟨fuel, hf⟩ := h0
    rcases open_ints Tryd.underlying23 Tryd.underlying5 (by kernel_rfl) hf with ⟨hcs, hx⟩ | ⟨x, l, c, zs, hcs, _, hl, hm, hz, hx, hcell, hwz⟩
    · simp [Value.cells] at hcs
      obtain ⟨rfl, rfl, rfl⟩ := hcs
      exact ⟨[], .inl ⟨rfl, rfl, rfl, rfl⟩, by omega⟩
    · simp [Value.cells] at hcs
      obtain ⟨rfl, rfl, rfl⟩ := hcs
      have hd := (Prod.mk.inj hx).1
      have hz' : zs.length = cap0 := by simpa using hz
      rw [hd] at hsz
      have hs := sized_slice hsz (j := 0) (t := 23) (e := 5) rfl rfl Tryd.underlying23
      rw [bytes5] at hs
      simp only [lits, List.length_map, List.length_take, List.length_drop, reachBytes] at hs
      exact ⟨zs, .inr ⟨_, rfl, hl, hm, hz', hcell, hwz⟩, by omega⟩
  obtain ⟨a1, len1, cap1, rfl⟩ := okWide_slice Tryd.underlying23 (hval 1 23 v1 rfl rfl)
  have k1 := h1
  have lt1 : ∀ x ∈ p1, x.block < W.heap.size := by obtain ⟨m, hm⟩ := k1; exact DataW.trod_lt m _ _ _ hm
  obtain ⟨z1, w1, b1⟩ : ∃ zs, IsRow .u8 W a1 len1 cap1 zs ∧ len1 * 1 ≤ 140737488351232 := by
    obtain ⟨fuel, hf⟩ := h1
    rcases open_ints Tryd.underlying23 Tryd.underlying5 (by kernel_rfl) hf with ⟨hcs, hx⟩ | ⟨x, l, c, zs, hcs, _, hl, hm, hz, hx, hcell, hwz⟩
    · simp [Value.cells] at hcs
      obtain ⟨rfl, rfl, rfl⟩ := hcs
      exact ⟨[], .inl ⟨rfl, rfl, rfl, rfl⟩, by omega⟩
    · simp [Value.cells] at hcs
      obtain ⟨rfl, rfl, rfl⟩ := hcs
      have hd := (Prod.mk.inj hx).1
      have hz' : zs.length = cap1 := by simpa using hz
      rw [hd] at hsz
      have hs := sized_slice hsz (j := 1) (t := 23) (e := 5) rfl rfl Tryd.underlying23
      rw [bytes5] at hs
      simp only [lits, List.length_map, List.length_take, List.length_drop, reachBytes] at hs
      exact ⟨zs, .inr ⟨_, rfl, hl, hm, hz', hcell, hwz⟩, by omega⟩
  clear hA0 hval0
  refine (walk a0 len0 cap0 z0 a1 len1 cap1 z1 W (tab_of hL) w0 b0 w1 b1).mono fun e W' ⟨he, bel⟩ => ?_
  subst he
  exact ⟨_, rfl, _, _, _, [], _, [], hW', trodAll_mk1 (shut_bool Tryd.underlying4 _), (trodAll_cons_mk (Below.trod laidOut (by kernel_rfl) (of_decide_eq_true (by kernel_rfl)) k0 bel lt0) (trodAll_cons_mk (Below.trod laidOut (by kernel_rfl) (of_decide_eq_true (by kernel_rfl)) k1 bel lt1) trodAll_mk0)), rfl, bel.frame _, fun h => by cases h⟩
theorem said : Rows.RunesJoinsSaid :=
  OpenClaim.holds_of_cond 7 Tryd.f7 rfl rfl rfl rfl rfl rfl rfl ⟨rfl, rfl, rfl, rfl, rfl⟩ rfl rfl rfl rfl rfl (by kernel_rfl) Tryd.func7 (by kernel_rfl)
    (of_decide_eq_true (by kernel_rfl)) (by unfold Func.isWrapper; first | (rw [if_pos (by decide +kernel)]; kernel_rfl) | (rw [if_neg (by decide +kernel)]; exact ⟨rfl, rfl⟩))
    (fun os started H enc _ F => by rw [OpenClaim.pre_eq_preRow]; exact lifted os started H enc F)
theorem plain (f : FuncId) (fn : Func) (hf : Tryd.pinned.checked.prog.funcNamed "triglyph/triglyphlaw02.RunesJoins" = some f) (hfn : Tryd.pinned.checked.prog.funcs[f]? = some fn) :
    false = Tryd.pinned.checked.prog.looks [] ∧ ∀ (j : Nat) t, fn.params[j]? = some t → Tryd.pinned.checked.prog.wantsStandIn t = false := by
  obtain rfl : f = 7 := Option.some.inj ((show Tryd.prog.funcNamed "triglyph/triglyphlaw02.RunesJoins" = some 7 by kernel_rfl).symm.trans hf) |>.symm
  obtain rfl : fn = Tryd.f7 := (Option.some.inj (Tryd.func7.symm.trans hfn)).symm
  refine ⟨by kernel_rfl, fun j t ht => ?_⟩
  rw [Tryd.params7] at ht
  obtain rfl : t = 23 := by simpa using Array.mem_of_getElem? ht
  exact (show Tryd.prog.wantsStandIn 23 = false by kernel_rfl)
theorem proved : Rows.RunesJoinsCardSaid :=
  Claim7.holds_tied_plain_at .later [] _ _ _ _ said (fun _ h => by cases h) (by kernel_rfl) (fun _ h => by cases h) runesJoins_row_tie rfl ⟨rfl, rfl⟩ (by kernel_rfl) rfl plain (by kernel_rfl)
end Go.Proofs.YtkigpbajbafpcaaDoor.runesJoins
namespace Go.Proofs.YtkigpbajbafpcaaDoor
theorem runesJoins_holds : Rows.RunesJoinsCardSaid := runesJoins.proved
#print axioms runesJoins_holds
end Go.Proofs.YtkigpbajbafpcaaDoor
