/-
  The closed example of layer 4's statements (works) is true, the table of layer 4 in its place.
-/
import Derived.Test.YtkigfmfegldhcaaDoorAtI
import Derived.Test.YtkigfmfegldhcaaDoorOwnY
import Derived.Deep.Cut
namespace Go.Proofs.YtkigfmfegldhcaaDoor
open Go.ChangeShapes Go.WideShapes Go.ChangeAt Go.RowKit
open Num (resV resE In64 sgnI absI)
set_option linter.unusedVariables false
theorem i64_small {z : Int} (h1 : -1000000 ≤ z) (h2 : z ≤ 1000000) : I64 z := ⟨by omega, by omega⟩
theorem i64_zero : I64 0 := ⟨by decide, by decide⟩
theorem snd_nums (l : List Int) (h : ∀ z ∈ l, I64 z) (hl : l.length ≤ 16384) : Snd (numsA l) :=
  Snd.of (fun z hz => by simp only [List.mem_cons, List.not_mem_nil, or_false] at hz; subst hz; exact i64_small (by omega) (by omega)) fun c hc => by
    obtain ⟨z, hz, rfl⟩ := List.mem_map.1 hc
    exact ⟨i64_zero, h z hz, by simp⟩
theorem snd_atom (z : Int) (h : I64 z) : Snd (atomA z) :=
  Snd.of (by simp) fun c hc => by
    obtain ⟨y, hy, rfl⟩ := List.mem_map.1 hc
    simp only [List.mem_cons, List.not_mem_nil, or_false] at hy
    subst hy
    exact ⟨i64_zero, h, by simp⟩
theorem wk_dy1 : dyE 21 (numsA [1, 2, 3]) (atomA 5) = 0 ∧ dyA 21 (numsA [1, 2, 3]) (atomA 5) = .mk [3] (numCs 0 [6, 7, 8]) := by
  have h1 := chk_nums [1, 2, 3] (by decide)
  have h2 := chk_atom 5
  have e : dyE 21 (numsA [1, 2, 3]) (atomA 5) = 0 := by
    rw [dy_do h1 h2 (by decide) (by decide) (by decide)]
    decide
  refine ⟨e, ?_⟩
  unfold dyA
  rw [if_pos e]
  have : dyL 21 (numsA [1, 2, 3]) (atomA 5) = [6, 7, 8] := by decide
  rw [this]
  rfl
theorem wk_mo : moE 1 (numsA [1, 2, 3]) = 0 ∧ moA 1 (numsA [1, 2, 3]) = .mk [3] (numCs 0 [-1, -2, -3]) := by
  have h1 := chk_nums [1, 2, 3] (by decide)
  have e : moE 1 (numsA [1, 2, 3]) = 0 := by
    rw [moE_do h1 (by decide)]
    decide
  refine ⟨e, ?_⟩
  unfold moA
  rw [if_pos e]
  have : (numsA [1, 2, 3]).cells.map (c1V 1) = [-1, -2, -3] := by decide
  rw [this]
  rfl
theorem wk_dy2 : dyE 21 (numsA [1, 2, 3]) (numsA [1, 2]) = 7 := by
  have h1 := chk_nums [1, 2, 3] (by decide)
  have h2 := chk_nums [1, 2] (by decide)
  rw [(dy_agr h1 h2 (by decide) (by decide) (by decide)).1]
  decide
theorem lt_of_alloc {W w2 : World} {o : Obj} (h : Below (W.alloc o).heap.size (W.alloc o) w2) : W.heap.size < w2.heap.size := Nat.lt_of_lt_of_le (by simp) h.size
theorem lt_of_allocd {W w2 : World} {o : Obj} (h : Below (W.alloc o).drew.heap.size (W.alloc o).drew w2) : W.heap.size < w2.heap.size := Nat.lt_of_lt_of_le (by simp) h.size
theorem lt2_of_allocd {W w2 : World} {o o' : Obj} (h : Below ((W.alloc o).alloc o').drew.heap.size ((W.alloc o).alloc o').drew w2) : W.heap.size + 1 < w2.heap.size := Nat.lt_of_lt_of_le (by simp) h.size
theorem size_alloc1 (W : World) (o : Obj) : (W.alloc o).heap.size = W.heap.size + 1 := by simp
theorem size_drew1 (W : World) : W.drew.heap.size = W.heap.size := rfl
theorem rnums_at (n : Nat) (l : List Int) (k : Nat) (hk : l.length = k) {lo : Nat} (a : Option Addr) (cap : Nat) (w : World) (R : Row lo w a l) (hl : l.length ≤ 16384) :
    Calls Tryd.prog 25 #[.slice a k cap] w fun e w' => (∃ a1 c1 a2 c2, e = .returned (.agg #[.slice a1 1 c1, .slice a2 k c2]) ∧ ArIn (n + 1) w.heap.size w' (numsA l) (.agg #[.slice a1 1 c1, .slice a2 k c2])) ∧ Below w.heap.size w w' := by
  subst hk
  refine (rnums_any n l a cap w R hl).mono ?_
  rintro e w' ⟨⟨v, rfl, hv⟩, hb⟩
  have hv' := hv
  obtain ⟨a1, c1, a2, c2, rfl⟩ := hv'.form
  have e1 : (numsA l).shape.length = 1 := rfl
  have e2 : (numsA l).cells.length = l.length := numCs_len 0 l
  rw [e1, e2] at hv ⊢
  exact ⟨⟨a1, c1, a2, c2, rfl, hv⟩, hb⟩
/-- The cells of an array of numbers, as they are read. -/
theorem num_cells {n lo : Nat} {w : World} {s l : List Int} {a1 a2 : Option Addr} {k1 c1 k2 c2 : Nat} (h : ArIn (n + 1) lo w (.mk s (numCs 0 l)) (.agg #[.slice a1 k1 c1, .slice a2 k2 c2])) (h0 : 0 < l.length) : k2 = l.length ∧ ∃ b off, a2 = some ⟨b, off, none⟩ ∧ lo ≤ b ∧ b < w.heap.size ∧ ∀ i, i < l.length → w.cell? ⟨b, off + i * 3 + 1, none⟩ = some (.int .i64 (l[i]?.getD 0)) := by
  obtain ⟨-, hk2, -, -, hc⟩ := cells_of h
  have e : (Ar.mk s (numCs 0 l)).cells = numCs 0 l := rfl
  rw [e] at hk2 hc
  refine ⟨by rw [hk2, numCs_len], ?_⟩
  rcases hc with hc | ⟨b, off, ha, hlo, hbb, hcc⟩
  · have : (numCs 0 l).length = 0 := by rw [hc]; rfl
    rw [numCs_len] at this; omega
  · refine ⟨b, off, ha, hlo, hbb, fun i hi => ?_⟩
    obtain ⟨v0, v1, v2, -, g1, -, hce⟩ := hcc i (by rw [numCs_len]; exact hi)
    rw [g1, hce.2.1, numCs_at 0 l i hi]
/-- A variable that holds an array of so many cells, one of which has a number. -/
def Held (W1 : World) (s : Value) (len o : Nat) (z : Int) (wx : World) : Prop :=
  ∃ B b off n3, s = .pointer (some ⟨B, 0, none⟩) ∧ Below W1.heap.size W1 wx ∧ B < wx.heap.size ∧ b < wx.heap.size ∧ wx.cell? ⟨B, 1, none⟩ = some (.slice (some ⟨b, off, none⟩) len n3) ∧ wx.cell? ⟨b, off + o, none⟩ = some (.int .i64 z)
theorem held_new {W1 w3 : World} {b off o len n3 : Nat} {z : Int} {u : Value} (J : Below W1.heap.size W1 w3) (hb : b < w3.heap.size) (h : w3.cell? ⟨b, off + o, none⟩ = some (.int .i64 z)) : Held W1 (.pointer (some ⟨w3.heap.size, 0, none⟩)) len o z (w3.alloc (.cells #[u, .slice (some ⟨b, off, none⟩) len n3] 25)) :=
  ⟨w3.heap.size, b, off, n3, rfl, J.alloc J.size _, by simp, by simp; omega, cell_new0 w3 _ 25 1 _ rfl, ((one_alloc _ _).cell (p := ⟨b, off + o, none⟩) hb).trans h⟩
theorem held_set {W1 w3 : World} {B b off o len n3 : Nat} {z : Int} {u y0 y1 : Value} (J : Below W1.heap.size W1 w3) (hB : W1.heap.size ≤ B) (hBs : B < w3.heap.size) (hne : b ≠ B) (hb : b < w3.heap.size) (g0 : w3.cell? ⟨B, 0, none⟩ = some y0) (g1 : w3.cell? ⟨B, 1, none⟩ = some y1) (h : w3.cell? ⟨b, off + o, none⟩ = some (.int .i64 z)) :
    Held W1 (.pointer (some ⟨B, 0, none⟩)) len o z ((w3.setCell ⟨B, 0, none⟩ u).setCell ⟨B, 1, none⟩ (.slice (some ⟨b, off, none⟩) len n3)) :=
  ⟨B, b, off, n3, rfl, below_set2 J hB, by simpa using hBs, by simpa using hb, (set_two g0 g1 u _).2, cell_apart (p := ⟨b, off + o, none⟩) (q := ⟨B, 1, none⟩) hne _ (cell_apart (p := ⟨b, off + o, none⟩) (q := ⟨B, 0, none⟩) hne _ h)⟩
theorem nil_after {W w3 : World} (h : Below (W.alloc (.cells #[.slice none 0 0, .slice none 0 0] 25)).heap.size (W.alloc (.cells #[.slice none 0 0, .slice none 0 0] 25)) w3) : w3.cell? ⟨W.heap.size, 0, none⟩ = some (.slice none 0 0) ∧ w3.cell? ⟨W.heap.size, 1, none⟩ = some (.slice none 0 0) ∧ W.heap.size < w3.heap.size :=
  ⟨(h.cell (p := ⟨W.heap.size, 0, none⟩) (by simp)).trans (cell_new0 W _ 25 0 _ rfl), (h.cell (p := ⟨W.heap.size, 1, none⟩) (by simp)).trans (cell_new0 W _ 25 1 _ rfl), lt_of_alloc h⟩
theorem nil_afterd {W w3 : World} (h : Below (W.alloc (.cells #[.slice none 0 0, .slice none 0 0] 25)).drew.heap.size (W.alloc (.cells #[.slice none 0 0, .slice none 0 0] 25)).drew w3) : w3.cell? ⟨W.heap.size, 0, none⟩ = some (.slice none 0 0) ∧ w3.cell? ⟨W.heap.size, 1, none⟩ = some (.slice none 0 0) ∧ W.heap.size < w3.heap.size :=
  ⟨(h.cell (p := ⟨W.heap.size, 0, none⟩) (by simp)).trans (cell_new0 W _ 25 0 _ rfl), (h.cell (p := ⟨W.heap.size, 1, none⟩) (by simp)).trans (cell_new0 W _ 25 1 _ rfl), lt_of_allocd h⟩
set_option maxRecDepth 20000 in
set_option maxHeartbeats 8000000 in
theorem works_any (w : World) (T : Tab w) : Calls Tryd.prog 10 #[] w fun e w' => e = .returned (.bool true) ∧ Below w.heap.size w w' := by
  go_enter Tryd.func10, Tryd.ntmps10
  go_wp2_with fail
  refine (rnums_at 0 [1, 2, 3] 3 rfl _ _ _ (row_new w [1, 2, 3] 2 (0, 0) (by simp)) (by simp)).mono ?_
  rintro e w1 ⟨⟨a1, c1, a2, c2, rfl, hv⟩, hb1⟩
  have B1 : Below w.heap.size w w1 := after1 hb1
  obtain ⟨W1, e1⟩ : ∃ W1, W1 = w1.alloc (.cells #[.slice a1 1 c1, .slice a2 3 c2] 25) := ⟨_, rfl⟩
  have b1 : Below w1.heap.size w1 W1 := by rw [e1]; exact one_alloc _ _
  have q0 : W1.cell? ⟨w1.heap.size, 0, none⟩ = some (.slice a1 1 c1) := by rw [e1]; exact cell_new0 w1 _ 25 0 _ rfl
  have q1 : W1.cell? ⟨w1.heap.size, 1, none⟩ = some (.slice a2 3 c2) := by rw [e1]; exact cell_new0 w1 _ 25 1 _ rfl
  have s1 : W1.heap.size = w1.heap.size + 1 := by rw [e1]; simp
  have BW : Below w.heap.size w W1 := B1.trans (b1.mono B1.size)
  have HBW := hide (fun W (h : Below W1.heap.size W1 W) => BW.trans (h.mono BW.size))
  have HT := hide (fun W (h : Below W1.heap.size W1 W) => T.next (HBW.out W h))
  have HV := hide (fun W (h : Below W1.heap.size W1 W) => (hv.next (b1.trans (h.mono b1.size))).mono (Nat.zero_le _) (Below.refl _ _))
  have HA := hide (fun W (h : Below W1.heap.size W1 W) => And.intro ((h.cell (p := ⟨w1.heap.size, 0, none⟩) (by show w1.heap.size < _; omega)).trans q0) ((h.cell (p := ⟨w1.heap.size, 1, none⟩) (by show w1.heap.size < _; omega)).trans q1))
  have HS1 := hide s1
  clear hb1 B1 hv T q0 q1 BW b1 s1
  have S3 := snd_nums [1, 2, 3] (by simp; exact ⟨i64_small (by decide) (by decide), i64_small (by decide) (by decide), i64_small (by decide) (by decide)⟩) (by decide)
  have CA : Hid (∀ W, Below W1.heap.size W1 W → Calls Tryd.prog 26 #[.int .i64 5] W fun e w' => (∃ p1 m1 p2 m2 p3 m3, e = .returned (.agg #[.slice p1 m1 p2, .slice m2 p3 m3]) ∧ ∀ W', Below w'.heap.size w' W' → ArIn 1 0 W' (atomA 5) (.agg #[.slice p1 m1 p2, .slice m2 p3 m3])) ∧ Below W.heap.size W w' ∧ Below W1.heap.size W1 w') := by
    intro W h
    refine (ratom_any 0 5 W).mono ?_
    rintro e w' ⟨⟨v, rfl, hv⟩, hb⟩
    obtain ⟨p1, p2, p3, p4, rfl⟩ := hv.form
    exact ⟨⟨_, _, _, _, _, _, rfl, fun W' hW => hv.mono (Nat.zero_le _) hW⟩, hb, h.trans (hb.mono h.size)⟩
  have CD : Hid (∀ W p1 m1 p2 m2 p3 m3, Below W1.heap.size W1 W → ArIn 1 0 W (atomA 5) (.agg #[.slice p1 m1 p2, .slice m2 p3 m3]) → Calls Tryd.prog 18 #[.int .i64 21, .agg #[.slice a1 1 c1, .slice a2 3 c2], .agg #[.slice p1 m1 p2, .slice m2 p3 m3]] W fun e w' => (∃ t1 n1 t2 n2 n3, e = .returned (.tuple #[.agg #[.slice t1 n1 t2, .slice n2 3 n3], .int .i64 0]) ∧ ∃ b off, n2 = some ⟨b, off, none⟩ ∧ W.heap.size ≤ b ∧ b < w'.heap.size ∧ w'.cell? ⟨b, off + 7, none⟩ = some (.int .i64 8)) ∧ Below W.heap.size W w' ∧ Below W1.heap.size W1 w') := by
    intro W p1 m1 p2 m2 p3 m3 h hp
    have := dy_any 0 1 1 0 0 21 (numsA [1, 2, 3]) (atomA 5) _ _ W (HT.out W h) (HV.out W h) hp S3 (snd_atom 5 (i64_small (by decide) (by decide)))
    rw [wk_dy1.1, wk_dy1.2] at this
    refine this.mono ?_
    rintro e w' ⟨⟨v, rfl, hv⟩, hb⟩
    obtain ⟨t1, t2, n2, n3, rfl⟩ := hv.form
    obtain ⟨-, b, off, hn, hlo, hbb, hcell⟩ := num_cells hv (by decide)
    exact ⟨⟨t1, _, t2, n2, n3, rfl, b, off, hn, hlo, hbb, hcell 2 (by decide)⟩, hb, h.trans (hb.mono h.size)⟩
  have HAL : Hid (∀ W o, Below W1.heap.size W1 W → Below W1.heap.size W1 (W.alloc o)) := fun W o h => h.alloc h.size o
  have HR : Hid (Below W1.heap.size W1 W1.drew) := (Below.refl _ _).drew
  have HST : Hid (∀ (W : World) (B : Nat) (u v : Value), W1.heap.size ≤ B → (W.cell? ⟨w1.heap.size, 0, none⟩ = some (.slice a1 1 c1) ∧ W.cell? ⟨w1.heap.size, 1, none⟩ = some (.slice a2 3 c2)) → ((W.setCell ⟨B, 0, none⟩ u).setCell ⟨B, 1, none⟩ v).cell? ⟨w1.heap.size, 0, none⟩ = some (.slice a1 1 c1) ∧ ((W.setCell ⟨B, 0, none⟩ u).setCell ⟨B, 1, none⟩ v).cell? ⟨w1.heap.size, 1, none⟩ = some (.slice a2 3 c2)) := by
    rintro W B u v hB ⟨g0, g1⟩
    have hs := HS1.out
    have ap : ∀ i t, W.cell? ⟨w1.heap.size, i, none⟩ = some t → ((W.setCell ⟨B, 0, none⟩ u).setCell ⟨B, 1, none⟩ v).cell? ⟨w1.heap.size, i, none⟩ = some t := fun i t ht => cell_apart (p := ⟨w1.heap.size, i, none⟩) (q := ⟨B, 1, none⟩) (by show w1.heap.size ≠ B; omega) _ (cell_apart (p := ⟨w1.heap.size, i, none⟩) (q := ⟨B, 0, none⟩) (by show w1.heap.size ≠ B; omega) _ ht)
    exact ⟨ap _ _ g0, ap _ _ g1⟩
  go_wp2_with fail
  rw [← e1]
  clear e1
  go_cut [2, 3] from 8 (fun s2 s3 wx => s3 = .int .i64 0 ∧ Held W1 s2 3 7 8 wx)
  case first =>
    go_region_held3 (fun W => W.cell? ⟨w1.heap.size, 0, none⟩ = some (.slice a1 1 c1) ∧ W.cell? ⟨w1.heap.size, 1, none⟩ = some (.slice a2 3 c2))
      (first | exact HA.out _ HR.out | exact HA.out _ (by assumption) | exact HA.out _ (HAL.out _ _ (by assumption)) | exact HA.out _ (HAL.out _ _ HR.out) | exact HST.out _ _ _ _ (by first | exact Nat.le_refl _ | exact J2.size) (by assumption))
      (first
        | (go_at_call 26; refine (CA.out _ (by first | exact HR.out | assumption | exact HAL.out _ _ HR.out)).mono ?_; rintro e w2 ⟨⟨p1, m1, p2, m2, p3, m3, rfl, hp⟩, hb2, J2⟩; obtain ⟨hcl2, hfz2⟩ := Num.bcell hb2; try (first | (have z2 : W1.heap.size < w2.heap.size := lt_of_alloc hb2) | (have z2 : W1.heap.size < w2.heap.size := lt_of_allocd hb2)))
        | (go_at_call 18; refine (CD.out _ _ _ _ _ _ _ (by first | assumption | exact HAL.out _ _ (by assumption)) (hp _ (by first | exact Below.refl _ _ | exact one_alloc _ _))).mono ?_; rintro e w3 ⟨⟨t1, n1, t2, n2, n3, rfl, b, off, rfl, hlo, hbb, h8⟩, hb3, J3⟩; obtain ⟨hcl, hfz⟩ := Num.bcell hb3))
    · have HF := hide (held_new (len := 3) (n3 := n3) (u := .slice t1 n1 t2) J3 hbb h8)
      go_wp2
      go_meet
      case rel => exact ⟨rfl, HF.out⟩
    · obtain ⟨y0, y1, y2⟩ := nil_after hb3
      have hl := Nat.lt_of_lt_of_le (show w2.heap.size < (w2.alloc (.cells #[.slice none 0 0, .slice none 0 0] 25)).heap.size by simp) hlo
      have HF := hide (held_set (len := 3) (n3 := n3) (u := .slice t1 n1 t2) J3 J2.size y2 (by omega) hbb y0 y1 h8)
      go_wp2
      go_meet
      case rel => exact ⟨rfl, HF.out⟩
    · obtain ⟨y0, y1, y2⟩ := nil_afterd hb2
      have z0 := (hb3.cell (p := ⟨W1.heap.size, 0, none⟩) y2).trans y0
      have z1 := (hb3.cell (p := ⟨W1.heap.size, 1, none⟩) y2).trans y1
      have HF := hide (held_set (len := 3) (n3 := n3) (u := .slice t1 n1 t2) J3 (Nat.le_refl _) (Nat.lt_of_lt_of_le y2 hb3.size) (by omega) hbb z0 z1 h8)
      go_wp2
      go_meet
      case rel => exact ⟨rfl, HF.out⟩
  case rest =>
  obtain ⟨rfl, B, b, off, n3, rfl, J, hBs, hbs, q1, q2⟩ := hcut
  obtain ⟨w4, rfl⟩ : ∃ w4, w4 = wc := ⟨_, rfl⟩
  obtain ⟨k0, k1⟩ := HA.out _ J
  have CM : Hid (Calls Tryd.prog 11 #[.int .i64 1, .agg #[.slice a1 1 c1, .slice a2 3 c2]] w4 fun e w' => (∃ t1 n1 t2 n2 n3, e = .returned (.tuple #[.agg #[.slice t1 n1 t2, .slice n2 3 n3], .int .i64 0]) ∧ ∃ b off, n2 = some ⟨b, off, none⟩ ∧ w4.heap.size ≤ b ∧ b < w'.heap.size ∧ w'.cell? ⟨b, off + 1, none⟩ = some (.int .i64 (-1))) ∧ Below w4.heap.size w4 w') := by
    have := mo_any 0 1 0 1 (numsA [1, 2, 3]) _ w4 (HV.out w4 J) S3
    rw [wk_mo.1, wk_mo.2] at this
    refine this.mono ?_
    rintro e w' ⟨⟨v, rfl, hv⟩, hb⟩
    obtain ⟨t1, t2, n2, n3, rfl⟩ := hv.form
    obtain ⟨-, b, off, hn, hlo, hbb, hcell⟩ := num_cells hv (by decide)
    have hc0 := hcell 0 (by decide)
    rw [Nat.zero_mul, Nat.add_zero] at hc0
    exact ⟨⟨t1, _, t2, n2, n3, rfl, b, off, hn, hlo, hbb, hc0⟩, hb⟩
  have CD2 : Hid (∀ W p1 m1 p2 m2 p3 m3, Below W1.heap.size W1 W → ArIn 1 0 W (numsA [1, 2]) (.agg #[.slice p1 m1 p2, .slice m2 p3 m3]) → Calls Tryd.prog 18 #[.int .i64 21, .agg #[.slice a1 1 c1, .slice a2 3 c2], .agg #[.slice p1 m1 p2, .slice m2 p3 m3]] W fun e w' => (∃ t1 n1 t2 n2 t3 n3, e = .returned (.tuple #[.agg #[.slice t1 n1 t2, .slice n2 t3 n3], .int .i64 7])) ∧ Below W.heap.size W w' ∧ Below W1.heap.size W1 w') := by
    intro W p1 m1 p2 m2 p3 m3 h hp
    have := dy_any 0 1 1 0 0 21 (numsA [1, 2, 3]) (numsA [1, 2]) _ _ W (HT.out W h) (HV.out W h) hp S3 (snd_nums [1, 2] (by simp; exact ⟨i64_small (by decide) (by decide), i64_small (by decide) (by decide)⟩) (by decide))
    rw [wk_dy2] at this
    refine this.mono ?_
    rintro e w' ⟨⟨v, rfl, hv⟩, hb⟩
    obtain ⟨t1, t2, n2, n3, rfl⟩ := hv.form
    exact ⟨⟨t1, _, t2, n2, _, n3, rfl⟩, hb, h.trans (hb.mono h.size)⟩
  clear CA CD S3
  go_wp2_with fail
  refine CM.out.mono ?_
  rintro e w5 ⟨⟨t1, n1, t2, n2, m3, rfl, d, doff, rfl, hlo, hds, hd⟩, hb5⟩
  obtain ⟨W6, e6⟩ : ∃ W6, W6 = w5.alloc (.cells #[.slice t1 n1 t2, .slice (some ⟨d, doff, none⟩) 3 m3] 25) := ⟨_, rfl⟩
  have b6 : Below w5.heap.size w5 W6 := by rw [e6]; exact one_alloc _ _
  have J6 : Below W1.heap.size W1 W6 := (J.trans (hb5.mono J.size)).trans (b6.mono (J.trans (hb5.mono J.size)).size)
  have b46 : Below w4.heap.size w4 W6 := hb5.trans (b6.mono hb5.size)
  have s6 : W6.heap.size = w5.heap.size + 1 := by rw [e6]; simp
  have r1 : W6.cell? ⟨B, 1, none⟩ = some (.slice (some ⟨b, off, none⟩) 3 n3) := (b46.cell (p := ⟨B, 1, none⟩) hBs).trans q1
  have r2 : W6.cell? ⟨b, off + 7, none⟩ = some (.int .i64 8) := (b46.cell (p := ⟨b, off + 7, none⟩) hbs).trans q2
  have r3 : W6.cell? ⟨w5.heap.size, 1, none⟩ = some (.slice (some ⟨d, doff, none⟩) 3 m3) := by rw [e6]; exact cell_new0 w5 _ 25 1 _ rfl
  have r4 : W6.cell? ⟨d, doff + 1, none⟩ = some (.int .i64 (-1)) := (b6.cell (p := ⟨d, doff + 1, none⟩) hds).trans hd
  have HFIN : Hid (∀ W, Below W6.heap.size W6 W → (W.cell? ⟨B, 1, none⟩ = some (.slice (some ⟨b, off, none⟩) 3 n3) ∧ W.cell? ⟨b, off + 7, none⟩ = some (.int .i64 8) ∧ W.cell? ⟨w5.heap.size, 1, none⟩ = some (.slice (some ⟨d, doff, none⟩) 3 m3) ∧ W.cell? ⟨d, doff + 1, none⟩ = some (.int .i64 (-1))) ∧ Below w.heap.size w W) := by
    intro W h
    have hz := h.size
    have hz4 := b46.size
    exact ⟨⟨(h.cell (p := ⟨B, 1, none⟩) (by show B < _; omega)).trans r1, (h.cell (p := ⟨b, off + 7, none⟩) (by show b < _; omega)).trans r2, (h.cell (p := ⟨w5.heap.size, 1, none⟩) (by show w5.heap.size < _; omega)).trans r3, (h.cell (p := ⟨d, doff + 1, none⟩) (by show d < _; omega)).trans r4⟩, HBW.out W (J6.trans (h.mono J6.size))⟩
  have HJ := hide (fun W (h : Below W6.heap.size W6 W) => J6.trans (h.mono J6.size))
  clear k0 k1 q1 q2 r1 r2 r3 r4 hd hds hlo hb5 b6 b46 CM HBW HT HV J hBs hbs s6
  go_wp2_with fail
  rw [← e6]
  clear e6
  go_cut [6, 7] from 8 (fun s6 s7 wx => s7 = .int .i64 7 ∧ Below W6.heap.size W6 wx)
  case first =>
    have HA6 := hide (fun W (h : Below W6.heap.size W6 W) => HA.out W (HJ.out W h))
    have HR6 : Hid (Below W6.heap.size W6 W6.drew) := (Below.refl _ _).drew
    have HAL6 : Hid (∀ W o, Below W6.heap.size W6 W → Below W6.heap.size W6 (W.alloc o)) := fun W o h => h.alloc h.size o
    have HST6 : Hid (∀ (W : World) (B : Nat) (u v : Value), W6.heap.size ≤ B → (W.cell? ⟨w1.heap.size, 0, none⟩ = some (.slice a1 1 c1) ∧ W.cell? ⟨w1.heap.size, 1, none⟩ = some (.slice a2 3 c2)) → ((W.setCell ⟨B, 0, none⟩ u).setCell ⟨B, 1, none⟩ v).cell? ⟨w1.heap.size, 0, none⟩ = some (.slice a1 1 c1) ∧ ((W.setCell ⟨B, 0, none⟩ u).setCell ⟨B, 1, none⟩ v).cell? ⟨w1.heap.size, 1, none⟩ = some (.slice a2 3 c2)) := fun W B u v h hS => HST.out W B u v (Nat.le_trans J6.size h) hS
    have CN : Hid (∀ W b, Below W6.heap.size W6 W → Row 0 W (some ⟨b, 0, none⟩) [1, 2] → Calls Tryd.prog 25 #[.slice (some ⟨b, 0, none⟩) 2 2] W fun e w' => (∃ p1 p2 p3 m3, e = .returned (.agg #[.slice p1 1 p2, .slice p3 2 m3]) ∧ ∀ W', Below w'.heap.size w' W' → ArIn 1 0 W' (numsA [1, 2]) (.agg #[.slice p1 1 p2, .slice p3 2 m3])) ∧ Below W.heap.size W w' ∧ Below W6.heap.size W6 w') := by
      intro W b h R
      refine (rnums_at 0 [1, 2] 2 rfl _ _ W R (by simp)).mono ?_
      rintro e w' ⟨⟨p1, p2, p3, m3, rfl, hv⟩, hb⟩
      exact ⟨⟨p1, p2, p3, m3, rfl, fun W' hW => hv.mono (Nat.zero_le _) hW⟩, hb, h.trans (hb.mono h.size)⟩
    have CD6 : Hid (∀ W p1 m1 p2 m2 p3 m3, Below W6.heap.size W6 W → ArIn 1 0 W (numsA [1, 2]) (.agg #[.slice p1 m1 p2, .slice m2 p3 m3]) → Calls Tryd.prog 18 #[.int .i64 21, .agg #[.slice a1 1 c1, .slice a2 3 c2], .agg #[.slice p1 m1 p2, .slice m2 p3 m3]] W fun e w' => (∃ t1 n1 t2 n2 t3 n3, e = .returned (.tuple #[.agg #[.slice t1 n1 t2, .slice n2 t3 n3], .int .i64 7])) ∧ Below W.heap.size W w' ∧ Below W6.heap.size W6 w') := fun W p1 m1 p2 m2 p3 m3 h hp => (CD2.out W p1 m1 p2 m2 p3 m3 (HJ.out W h) hp).mono fun e w' ⟨h1, h2, h3⟩ => ⟨h1, h2, h.trans (h2.mono h.size)⟩
    have HROW : Hid (∀ W : World, Row 0 (W.alloc (.cells #[.int .i64 1, .int .i64 2] 2)) (some ⟨W.heap.size, 0, none⟩) [1, 2]) := fun W => (row_new W [1, 2] 2 (0, 0) (by simp)).low (Nat.zero_le _)
    have HROW2 : Hid (∀ (W : World) o, Row 0 ((W.alloc (.cells #[.int .i64 1, .int .i64 2] 2)).alloc o) (some ⟨W.heap.size, 0, none⟩) [1, 2]) := fun W o => (HROW.out W).next (one_alloc _ _)
    have HROW3 : Hid (∀ (W : World) o, Row 0 ((W.alloc o).alloc (.cells #[.int .i64 1, .int .i64 2] 2)).drew (some ⟨W.heap.size + 1, 0, none⟩) [1, 2]) := fun W o => by
      have := HROW.out (W.alloc o)
      rw [size_alloc1] at this
      exact this.next (Below.refl _ _).drew
    clear HA HR HAL HST HJ HFIN CD2
    go_region_held3 (fun W => W.cell? ⟨w1.heap.size, 0, none⟩ = some (.slice a1 1 c1) ∧ W.cell? ⟨w1.heap.size, 1, none⟩ = some (.slice a2 3 c2))
      (first | exact HA6.out _ HR6.out | exact HA6.out _ (by assumption) | exact HA6.out _ (HAL6.out _ _ (by assumption)) | exact HA6.out _ (HAL6.out _ _ HR6.out) | exact HA6.out _ (HAL6.out _ _ (HAL6.out _ _ HR6.out)) | exact HST6.out _ _ _ _ (by first | exact Nat.le_refl _ | exact J7.size | exact Nat.le_succ _) (by assumption))
      (first
        | (go_at_call 25; refine (CN.out _ _ (by first | exact HAL6.out _ _ HR6.out | exact HAL6.out _ _ (HAL6.out _ _ HR6.out)) (by first | exact HROW.out _ | exact HROW2.out _ _ | exact HROW3.out _ _)).mono ?_; rintro e w7 ⟨⟨p1, p2, p3, m4, rfl, hp⟩, hb7, J7⟩; obtain ⟨hcl7, hfz7⟩ := Num.bcell hb7; have hh7 := hb7.size; simp only [size_alloc1, size_drew1] at hh7; first | (have z8 : W6.heap.size + 1 < w7.heap.size := hh7; have z7 : W6.heap.size < w7.heap.size := Nat.lt_of_succ_lt z8) | (have z7 : W6.heap.size < w7.heap.size := hh7))
        | (go_at_call 18; refine (CD6.out _ _ _ _ _ _ _ (by first | assumption | exact HAL6.out _ _ (by assumption)) (hp _ (by first | exact Below.refl _ _ | exact one_alloc _ _))).mono ?_; rintro e w8 ⟨⟨u1, v1, u2, v2, u3, v3, rfl⟩, hb8, J8⟩; obtain ⟨hcl8, hfz8⟩ := Num.bcell hb8))
    all_goals
      have HF1 : Hid (∀ o, Below W6.heap.size W6 (w8.alloc o)) := fun o => J8.alloc J8.size o
      have HF2 : Hid (∀ B u v, W6.heap.size ≤ B → Below W6.heap.size W6 ((w8.setCell ⟨B, 0, none⟩ u).setCell ⟨B, 1, none⟩ v)) := fun B u v h => below_set2 J8 h
      have HJ7 := hide J7.size
      go_wp2
      go_meet
      case rel => first | exact ⟨rfl, HF1.out _⟩ | exact ⟨rfl, HF2.out _ _ _ HJ7.out⟩ | exact ⟨rfl, HF2.out _ _ _ (Nat.le_refl _)⟩ | exact ⟨rfl, HF2.out _ _ _ (Nat.le_succ _)⟩
  case rest =>
  obtain ⟨rfl, J⟩ := hcut
  obtain ⟨⟨r1, r2, r3, r4⟩, BF⟩ := HFIN.out wc J
  have HBF := hide BF
  clear BF HFIN HA HJ HAL HR HST CD2 J J6 HS1
  go_wp2
  go_ret
  exact ⟨rfl, HBF.out⟩
end Go.Proofs.YtkigfmfegldhcaaDoor
