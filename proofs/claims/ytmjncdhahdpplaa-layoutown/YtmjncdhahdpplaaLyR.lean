/-
  The statements' own works and light.
-/
import Derived.Test.YtmjncdhahdpplaaLyQ
import Derived.Test.YtmjncdhahdpplaaOwnV
import Derived.Test.YtmjncdhahdpplaaOwnY
namespace Go.Proofs.Ytmjncdhahdpplaa
open Go.ChangeShapes Go.WideShapes Go.ChangeAt Go.RowKit
set_option linter.unusedVariables false
set_option maxRecDepth 100000
theorem weight_any' {n lo : Nat} {x : Ar} {va : Value} {w : World} (hx : ArIn n lo w x va) : Calls Try.prog 23 #[va, .int .i64 3000] w fun e w' => (∃ r : Int, e = .returned (.int .i64 r)) ∧ Below w.heap.size w w' := by
  have C := fun w' hb => weigh_any 16 (Nat.le_refl _) n x lo va w' 3000 (hx.next hb) (by omega) (by omega)
  cases n with
  | zero => exact hx.elim
  | succ n =>
    obtain ⟨a1, c1, a2, c2, rfl, -⟩ := hx
    generalize x.shape.length = SA at *
    generalize x.cells.length = CA at *
    have C1 := C _ (one_alloc w (.cells #[.slice a1 SA c1, .slice a2 CA c2] 25))
    clear C
    go_enter Try.func23, Try.ntmps23
    go_wp2_with fail
    refine C1.mono ?_
    rintro e w1 ⟨⟨r, rfl, -, -, hr⟩, hb1⟩
    clear hr
    go_wp2
    go_ret
    exact ⟨⟨r, rfl⟩, (one_alloc _ _).trans (hb1.mono (one_alloc _ _).size)⟩
theorem light_any {n lo : Nat} {x : Ar} {va : Value} {w : World} (hx : ArIn n lo w x va) : Calls Try.prog 11 #[va] w fun e w' => (∃ r : Bool, e = .returned (.bool r)) ∧ Below w.heap.size w w' := by
  have C := fun w' hb => weight_any' (w := w') (hx.next hb)
  cases n with
  | zero => exact hx.elim
  | succ n =>
    obtain ⟨a1, c1, a2, c2, rfl, -⟩ := hx
    generalize x.shape.length = SA at *
    generalize x.cells.length = CA at *
    have C1 := C _ (one_alloc w (.cells #[.slice a1 SA c1, .slice a2 CA c2] 25))
    clear C
    go_enter Try.func11, Try.ntmps11
    go_wp2_with fail
    refine C1.mono ?_
    rintro e w1 ⟨⟨r, rfl⟩, hb1⟩
    go_wp2
    go_ret
    exact ⟨⟨_, rfl⟩, (one_alloc _ _).trans (hb1.mono (one_alloc _ _).size)⟩
def sixA : Ar := .mk [2, 3] (numCs 0 (upL 6))
theorem w_iota (n : Nat) : moR n 5 (atomA 6) = (numsA (upL 6), 0) := by
  rw [moR_ok (chk_atom 6), if_pos rfl]
  rfl
theorem chk_six : chkA 8 (numsA (upL 6)) = 0 := chk_nums _ (by decide)
theorem chk_two : chkA 8 (numsA [2, 3]) = 0 := chk_nums _ (by decide)
theorem w_resh : reshR (numsA [2, 3]) (numsA (upL 6)) = (sixA, 0) := by
  have e : reshE (numsA [2, 3]) (numsA (upL 6)) = 0 := by
    unfold reshE
    rw [chk_two, chk_six]
    decide
  unfold reshR
  rw [if_pos e]
  rfl
theorem chk_sixA : chkA 8 sixA = 0 := by
  refine chk_of (x := numsA (upL 6)) chk_six (by decide) (by decide) (by decide) fun i hi => ⟨i, hi, rfl⟩
theorem w_flip (n : Nat) : moR n 11 sixA = (flipR sixA, 0) := by
  rw [moR_ok chk_sixA]
  rfl
theorem w_zero (n : Nat) : moR n 0 (numsA (upL 6)) = (zeroA, 1) := by
  rw [moR_ok chk_six]
  rfl
theorem flip_six : (flipR sixA).shape = [3, 2] ∧ (flipR sixA).cells.length = 6 ∧ (cAt (flipR sixA).cells 1).2.1 = 3 := by
  refine ⟨rfl, rfl, ?_⟩
  decide
set_option maxHeartbeats 4000000 in
theorem works_any (w : World) : Calls Try.prog 12 #[] w fun e w' => e = .returned (.bool true) ∧ Below w.heap.size w w' := by
  go_enter Try.func12, Try.ntmps12
  go_wp2_with fail
  refine (ratom_any 0 6 w).mono ?_
  rintro e w1 ⟨⟨va, rfl, hva⟩, hb1⟩
  obtain ⟨a1, k1, a2, k2, rfl, -, -⟩ := hva.form
  have C1 := mo_any hva 5 (fun h => absurd h (by decide))
  rw [w_iota] at C1
  simp only [atomA, Ar.shape, Ar.cells, numCs, List.map_cons, List.map_nil, List.length_cons, List.length_nil, Nat.zero_add] at C1 ⊢
  have HB1 := hide hb1
  clear hva hb1
  go_wp2_with fail
  refine C1.mono ?_
  rintro e w2 ⟨⟨v, rfl, hv⟩, hb2⟩
  obtain ⟨x1, m1, x2, m2, rfl, -, -⟩ := hv.form
  have es : (numsA (upL 6)).shape.length = 1 := rfl
  have ec : (numsA (upL 6)).cells.length = 6 := rfl
  simp only [es, ec] at hv ⊢
  have B2 : Below w.heap.size w w2 := HB1.out.trans (hb2.mono HB1.out.size)
  obtain ⟨W3, e3⟩ : ∃ W3, w2.alloc (.cells #[.slice x1 1 m1, .slice x2 6 m2] 25) = W3 := ⟨_, rfl⟩
  have B3 : Below w2.heap.size w2 W3 := by rw [← e3]; exact one_alloc _ _
  have z3 : W3.heap.size = w2.heap.size + 1 := by rw [← e3]; simp
  have q0 : W3.cell? ⟨w2.heap.size, 0, none⟩ = some (.slice x1 1 m1) := by rw [← e3]; exact cell_new0 w2 _ 25 0 _ rfl
  have q1 : W3.cell? ⟨w2.heap.size, 1, none⟩ = some (.slice x2 6 m2) := by rw [← e3]; exact cell_new0 w2 _ 25 1 _ rfl
  have BW : Below w.heap.size w W3 := B2.trans (B3.mono B2.size)
  have HV : Hid (∀ W, Below W3.heap.size W3 W → ArIn 2 0 W (numsA (upL 6)) (.agg #[.slice x1 1 m1, .slice x2 6 m2])) := fun W h => (hv.next B3).mono (Nat.zero_le _) h
  have HBW := hide BW
  have hlt : w2.heap.size < W3.heap.size := by omega
  have KQ : Hid (∀ W, Below W3.heap.size W3 W → W.cell? ⟨w2.heap.size, 0, none⟩ = some (.slice x1 1 m1) ∧ W.cell? ⟨w2.heap.size, 1, none⟩ = some (.slice x2 6 m2)) := fun W h => ⟨(h.cell (p := ⟨w2.heap.size, 0, none⟩) hlt).trans q0, (h.cell (p := ⟨w2.heap.size, 1, none⟩) hlt).trans q1⟩
  have CN : Hid (∀ W b, Below W3.heap.size W3 W → Row 0 W (some ⟨b, 0, none⟩) [2, 3] → Calls Try.prog 25 #[.slice (some ⟨b, 0, none⟩) 2 2] W fun e w' => (∃ y1 n1 y2 n2, e = .returned (.agg #[.slice y1 1 n1, .slice y2 2 n2]) ∧ ArIn 1 0 w' (numsA [2, 3]) (.agg #[.slice y1 1 n1, .slice y2 2 n2])) ∧ Below W3.heap.size W3 w' ∧ Below W.heap.size W w') := by
    intro W b h hR
    refine (rnums_any 0 [2, 3] _ 2 W hR (by decide)).mono ?_
    rintro e w' ⟨⟨v, rfl, hv⟩, hb⟩
    obtain ⟨y1, n1, y2, n2, rfl, -, -⟩ := hv.form
    exact ⟨⟨_, _, _, _, rfl, hv.mono (Nat.zero_le _) (Below.refl _ _)⟩, h.trans (hb.mono h.size), hb⟩
  have CR : Hid (∀ W, Below W3.heap.size W3 W → ∀ y1 n1 y2 n2, ArIn 1 0 W (numsA [2, 3]) (.agg #[.slice y1 1 n1, .slice y2 2 n2]) → Calls Try.prog 24 #[.agg #[.slice y1 1 n1, .slice y2 2 n2], .agg #[.slice x1 1 m1, .slice x2 6 m2]] W fun e w' => (∃ z1 l1 z2 l2, e = .returned (.tuple #[.agg #[.slice z1 2 l1, .slice z2 6 l2], .int .i64 0]) ∧ ArIn 2 W.heap.size w' sixA (.agg #[.slice z1 2 l1, .slice z2 6 l2])) ∧ Below W3.heap.size W3 w' ∧ Below W.heap.size W w') := by
    intro W h y1 n1 y2 n2 hn
    have := reshape_any hn (HV.out W h) (Nat.zero_le _)
    rw [w_resh] at this
    refine this.mono ?_
    rintro e w' ⟨⟨v, rfl, hv⟩, hb⟩
    obtain ⟨z1, l1, z2, l2, rfl, -, -⟩ := hv.form
    exact ⟨⟨_, _, _, _, rfl, hv⟩, h.trans (hb.mono h.size), hb⟩
  have HA : Hid (Below W3.heap.size W3 (W3.alloc (.cells #[.int .i64 2, .int .i64 3] 2)).drew ∧ Row 0 (W3.alloc (.cells #[.int .i64 2, .int .i64 3] 2)).drew (some ⟨W3.heap.size, 0, none⟩) [2, 3]) := ⟨(one_alloc _ _).drew, (row_new W3 [2, 3] 2 (0, 0) (by simp)).low (Nat.zero_le _)⟩
  have HZ0 : Hid (∀ (X w4 : World), Below (X.alloc (.cells #[.slice none 0 0, .slice none 0 0] 25)).heap.size (X.alloc (.cells #[.slice none 0 0, .slice none 0 0] 25)) w4 → w4.cell? ⟨X.heap.size, 0, none⟩ = some (.slice none 0 0) ∧ w4.cell? ⟨X.heap.size, 1, none⟩ = some (.slice none 0 0) ∧ w4.frozen? ⟨X.heap.size, 0, none⟩ = false ∧ w4.frozen? ⟨X.heap.size, 1, none⟩ = false ∧ X.heap.size < w4.heap.size) := by
    intro X w4 h
    have hs : (X.alloc (.cells #[.slice none 0 0, .slice none 0 0] 25)).heap.size = X.heap.size + 1 := by simp
    exact ⟨(h.cell (p := ⟨X.heap.size, 0, none⟩) (by show X.heap.size < _; omega)).trans (cell_new0 X _ 25 0 _ rfl), (h.cell (p := ⟨X.heap.size, 1, none⟩) (by show X.heap.size < _; omega)).trans (cell_new0 X _ 25 1 _ rfl), (h.frozen (p := ⟨X.heap.size, 0, none⟩) (by show X.heap.size < _; omega)).trans (frozen_new X _ 25 0), (h.frozen (p := ⟨X.heap.size, 1, none⟩) (by show X.heap.size < _; omega)).trans (frozen_new X _ 25 1), by have := h.size; omega⟩
  have sL : (W3.alloc (.cells #[.int .i64 2, .int .i64 3] 2)).heap.size = W3.heap.size + 1 := by simp
  have sZ : (W3.alloc (.cells #[.slice none 0 0, .slice none 0 0] 25)).heap.size = W3.heap.size + 1 := by simp
  have HB : Hid (Below W3.heap.size W3 ((W3.alloc (.cells #[.slice none 0 0, .slice none 0 0] 25)).alloc (.cells #[.int .i64 2, .int .i64 3] 2)).drew ∧ Row 0 ((W3.alloc (.cells #[.slice none 0 0, .slice none 0 0] 25)).alloc (.cells #[.int .i64 2, .int .i64 3] 2)).drew (some ⟨W3.heap.size + 1, 0, none⟩) [2, 3]) := ⟨(two_allocs W3 _ _).drew, by
    have := (row_new (W3.alloc (.cells #[.slice none 0 0, .slice none 0 0] 25)) [2, 3] 2 (0, 0) (by simp)).low (Nat.zero_le _)
    rw [sZ] at this
    exact this⟩
  have HC : Hid (Below W3.heap.size W3 ((W3.alloc (.cells #[.int .i64 2, .int .i64 3] 2)).alloc (.cells #[.slice none 0 0, .slice none 0 0] 25)).drew ∧ Row 0 ((W3.alloc (.cells #[.int .i64 2, .int .i64 3] 2)).alloc (.cells #[.slice none 0 0, .slice none 0 0] 25)).drew (some ⟨W3.heap.size, 0, none⟩) [2, 3]) := ⟨(two_allocs W3 _ _).drew, Row.next (w := W3.alloc (.cells #[.int .i64 2, .int .i64 3] 2)) ((row_new W3 [2, 3] 2 (0, 0) (by simp)).low (Nat.zero_le _)) (one_alloc (W3.alloc (.cells #[.int .i64 2, .int .i64 3] 2)) (.cells #[.slice none 0 0, .slice none 0 0] 25)).drew⟩
  have HZB : Hid (∀ w4 : World, Below ((W3.alloc (.cells #[.slice none 0 0, .slice none 0 0] 25)).alloc (.cells #[.int .i64 2, .int .i64 3] 2)).drew.heap.size ((W3.alloc (.cells #[.slice none 0 0, .slice none 0 0] 25)).alloc (.cells #[.int .i64 2, .int .i64 3] 2)).drew w4 → w4.cell? ⟨W3.heap.size, 0, none⟩ = some (.slice none 0 0) ∧ w4.cell? ⟨W3.heap.size, 1, none⟩ = some (.slice none 0 0) ∧ w4.frozen? ⟨W3.heap.size, 0, none⟩ = false ∧ w4.frozen? ⟨W3.heap.size, 1, none⟩ = false ∧ W3.heap.size < w4.heap.size) := fun w4 h => HZ0.out W3 w4 (((one_alloc (W3.alloc (.cells #[.slice none 0 0, .slice none 0 0] 25)) (.cells #[.int .i64 2, .int .i64 3] 2)).drew).trans (h.mono (one_alloc (W3.alloc (.cells #[.slice none 0 0, .slice none 0 0] 25)) (.cells #[.int .i64 2, .int .i64 3] 2)).size))
  have HZC : Hid (∀ w4 : World, Below ((W3.alloc (.cells #[.int .i64 2, .int .i64 3] 2)).alloc (.cells #[.slice none 0 0, .slice none 0 0] 25)).drew.heap.size ((W3.alloc (.cells #[.int .i64 2, .int .i64 3] 2)).alloc (.cells #[.slice none 0 0, .slice none 0 0] 25)).drew w4 → w4.cell? ⟨W3.heap.size + 1, 0, none⟩ = some (.slice none 0 0) ∧ w4.cell? ⟨W3.heap.size + 1, 1, none⟩ = some (.slice none 0 0) ∧ w4.frozen? ⟨W3.heap.size + 1, 0, none⟩ = false ∧ w4.frozen? ⟨W3.heap.size + 1, 1, none⟩ = false ∧ W3.heap.size + 1 < w4.heap.size) := fun w4 h => by
    have := HZ0.out (W3.alloc (.cells #[.int .i64 2, .int .i64 3] 2)) w4 (((Below.refl _ _).drew).trans h)
    rw [sL] at this
    exact this
  have HUP : Hid (∀ (w4 w5 : World) (b : Nat), Below w4.heap.size w4 w5 → (w4.cell? ⟨b, 0, none⟩ = some (.slice none 0 0) ∧ w4.cell? ⟨b, 1, none⟩ = some (.slice none 0 0) ∧ w4.frozen? ⟨b, 0, none⟩ = false ∧ w4.frozen? ⟨b, 1, none⟩ = false ∧ b < w4.heap.size) → (w5.cell? ⟨b, 0, none⟩ = some (.slice none 0 0) ∧ w5.cell? ⟨b, 1, none⟩ = some (.slice none 0 0) ∧ w5.frozen? ⟨b, 0, none⟩ = false ∧ w5.frozen? ⟨b, 1, none⟩ = false ∧ b < w4.heap.size)) := fun w4 w5 b h ⟨h1, h2, h3, h4, h5⟩ => ⟨(h.cell (p := ⟨b, 0, none⟩) h5).trans h1, (h.cell (p := ⟨b, 1, none⟩) h5).trans h2, (h.frozen (p := ⟨b, 0, none⟩) h5).trans h3, (h.frozen (p := ⟨b, 1, none⟩) h5).trans h4, h5⟩
  have HZA : Hid (Below W3.heap.size W3 (W3.alloc (.cells #[.slice none 0 0, .slice none 0 0] 25)).drew) := (one_alloc _ _).drew
  have le0 : Hid (W3.heap.size ≤ W3.heap.size ∧ W3.heap.size ≤ W3.heap.size + 1) := ⟨Nat.le_refl _, Nat.le_succ _⟩
  clear sL sZ
  have KS : Hid (∀ W, Below W3.heap.size W3 W → (Below W3.heap.size W3 W ∧ W.cell? ⟨w2.heap.size, 0, none⟩ = some (.slice x1 1 m1) ∧ W.cell? ⟨w2.heap.size, 1, none⟩ = some (.slice x2 6 m2))) := fun W h => ⟨h, (KQ.out W h).1, (KQ.out W h).2⟩
  have HRR : Hid (Below W3.heap.size W3 W3.drew) := (Below.refl _ _).drew
  have HAL : Hid (∀ W o, Below W3.heap.size W3 W → Below W3.heap.size W3 (W.alloc o)) := fun W o h => h.alloc h.size o
  have HSET : Hid (∀ W b u v, Below W3.heap.size W3 W → W3.heap.size ≤ b → Below W3.heap.size W3 ((W.setCell ⟨b, 0, none⟩ u).setCell ⟨b, 1, none⟩ v)) := fun W b u v h hb => (h.setCell (p := ⟨b, 0, none⟩) hb u).setCell (p := ⟨b, 1, none⟩) hb v
  clear C1 hv hb2 B2 B3 BW hlt z3 es ec q0 q1
  go_wp2
  clear e3
  go_cut [3, 4] from 14 (fun s3 s4 wx => ∃ B z1 l1 z2 l2, s3 = .pointer (some ⟨B, 0, none⟩) ∧ s4 = .int .i64 0 ∧ Below W3.heap.size W3 wx ∧ (wx.cell? ⟨B, 0, none⟩ = some (.slice z1 2 l1) ∧ wx.cell? ⟨B, 1, none⟩ = some (.slice z2 6 l2)) ∧ ArIn 2 0 wx sixA (.agg #[.slice z1 2 l1, .slice z2 6 l2]) ∧ B < wx.heap.size)
  case first =>
    go_region_held3 (fun W => Below W3.heap.size W3 W ∧ W.cell? ⟨w2.heap.size, 0, none⟩ = some (.slice x1 1 m1) ∧ W.cell? ⟨w2.heap.size, 1, none⟩ = some (.slice x2 6 m2))
      (first | with_reducible exact KS.out _ HA.out.1 | with_reducible exact KS.out _ HB.out.1 | with_reducible exact KS.out _ HC.out.1 | with_reducible exact KS.out _ HRR.out | with_reducible exact KS.out _ HZA.out | with_reducible exact KS.out _ (by with_reducible assumption) | with_reducible exact KS.out _ (HAL.out _ _ (by with_reducible assumption)) | with_reducible exact KS.out _ (HSET.out _ _ _ _ (by with_reducible assumption) (by with_reducible assumption)) | with_reducible exact KS.out _ (HSET.out _ _ _ _ (by with_reducible assumption) le0.out.1) | with_reducible exact KS.out _ (HSET.out _ _ _ _ (by with_reducible assumption) le0.out.2))
      (first
        | (go_at_call 25; first
            | (with_reducible refine (CN.out _ _ HA.out.1 HA.out.2).mono ?_; rintro e w4 ⟨⟨y1, n1, y2, n2, rfl, hy⟩, g4, hb4⟩; have hs4 := g4.size; clear hb4; have tt : ∀ w5, Below w4.heap.size w4 w5 → True := fun _ _ => trivial)
            | (with_reducible refine (CN.out _ _ HB.out.1 HB.out.2).mono ?_; rintro e w4 ⟨⟨y1, n1, y2, n2, rfl, hy⟩, g4, hb4⟩; have tt := fun w5 h => HUP.out w4 w5 _ h (HZB.out w4 hb4); clear hb4)
            | (with_reducible refine (CN.out _ _ HC.out.1 HC.out.2).mono ?_; rintro e w4 ⟨⟨y1, n1, y2, n2, rfl, hy⟩, g4, hb4⟩; have tt := fun w5 h => HUP.out w4 w5 _ h (HZC.out w4 hb4); clear hb4))
        | (go_at_call 24; first
            | (with_reducible refine (CR.out w4 g4 y1 n1 y2 n2 hy).mono ?_; rintro e w5 ⟨⟨z1, l1, z2, l2, rfl, hz⟩, g5, hb5⟩; have t := tt w5 hb5; clear tt)
            | (with_reducible refine (CR.out (w4.alloc (.cells #[.slice none 0 0, .slice none 0 0] 25)) (g4.alloc g4.size _) y1 n1 y2 n2 (hy.next (one_alloc _ _))).mono ?_; rintro e w5 ⟨⟨z1, l1, z2, l2, rfl, hz⟩, g5, hb5⟩; have t := HZ0.out w4 w5 hb5; clear tt)))
    all_goals
      go_wp2
      go_meet
    all_goals
      case rel =>
        first
          | exact ⟨w5.heap.size, z1, l1, z2, l2, rfl, rfl, HAL.out _ _ g5, ⟨cell_new0 w5 _ 25 0 _ rfl, cell_new0 w5 _ 25 1 _ rfl⟩, (hz.next (one_alloc _ _)).mono (Nat.zero_le _) (Below.refl _ _), by simp⟩
          | (have hsz : (w4.alloc (.cells #[.slice none 0 0, .slice none 0 0] 25)).heap.size = w4.heap.size + 1 := by simp
             have st := set_two t.1 t.2.1 (.slice z1 2 l1) (.slice z2 6 l2)
             have hk : Keeps (w4.heap.size + 1) w5 ((w5.setCell ⟨w4.heap.size, 0, none⟩ (.slice z1 2 l1)).setCell ⟨w4.heap.size, 1, none⟩ (.slice z2 6 l2)) := ((Keeps.refl _ _).setCell (p := ⟨w4.heap.size, 0, none⟩) (Nat.lt_succ_self _) _).setCell (p := ⟨w4.heap.size, 1, none⟩) (Nat.lt_succ_self _) _
             rw [hsz] at hz
             exact ⟨w4.heap.size, z1, l1, z2, l2, rfl, rfl, HSET.out _ _ _ _ g5 hs4, ⟨by rw [World.cell?_setCell_other _ _ _ _ (by simp)]; exact st.1, st.2⟩, (hz.keeps hk).mono (Nat.zero_le _) (Below.refl _ _), by have := t.2.2.2.2; simpa using this⟩)
          | (have st := set_two t.1 t.2.1 (.slice z1 2 l1) (.slice z2 6 l2)
             have hk := ((Keeps.refl w4.heap.size w5).setCell (p := ⟨W3.heap.size, 0, none⟩) t.2.2.2.2 (.slice z1 2 l1)).setCell (p := ⟨W3.heap.size, 1, none⟩) t.2.2.2.2 (.slice z2 6 l2)
             exact ⟨W3.heap.size, z1, l1, z2, l2, rfl, rfl, HSET.out _ _ _ _ g5 (Nat.le_refl _), ⟨by rw [World.cell?_setCell_other _ _ _ _ (by simp)]; exact st.1, st.2⟩, (hz.keeps hk).mono (Nat.zero_le _) (Below.refl _ _), by have := Nat.lt_of_lt_of_le t.2.2.2.2 hb5.size; simpa using this⟩)
          | (have st := set_two t.1 t.2.1 (.slice z1 2 l1) (.slice z2 6 l2)
             have hk := ((Keeps.refl w4.heap.size w5).setCell (p := ⟨W3.heap.size + 1, 0, none⟩) t.2.2.2.2 (.slice z1 2 l1)).setCell (p := ⟨W3.heap.size + 1, 1, none⟩) t.2.2.2.2 (.slice z2 6 l2)
             exact ⟨W3.heap.size + 1, z1, l1, z2, l2, rfl, rfl, HSET.out _ _ _ _ g5 (Nat.le_succ _), ⟨by rw [World.cell?_setCell_other _ _ _ _ (by simp)]; exact st.1, st.2⟩, (hz.keeps hk).mono (Nat.zero_le _) (Below.refl _ _), by have := Nat.lt_of_lt_of_le t.2.2.2.2 hb5.size; simpa using this⟩)
  case rest =>
    obtain ⟨B, z1, l1, z2, l2, rfl, rfl, g6, ⟨c0, c1⟩, hz, hBl⟩ := hcut
    clear CN CR HA HB HC HZB HZC HZ0 HUP HZA le0 KS HAL HSET HRR
    have C3 := mo_any hz 11 (fun h => absurd h (by decide))
    rw [w_flip] at C3
    obtain ⟨d0, d1⟩ := KQ.out _ g6
    have HG6 := hide g6
    clear g6 hz
    go_wp2_with fail
    refine C3.mono ?_
    rintro e w7 ⟨⟨v, rfl, hv⟩, hb7⟩
    obtain ⟨f1, j1, f2, j2, rfl, hR, hcs⟩ := hv.form
    obtain ⟨s1, s2, s3⟩ := flip_six
    have e1 : (flipR sixA).shape.length = 2 := by rw [s1]; rfl
    obtain ⟨p, q, rfl, hp, hpc⟩ := row_at hR (j := 0) (by rw [s1]; decide)
    have hpc' : w7.cell? ⟨p, q, none⟩ = some (.int .i64 3) := by rw [s1] at hpc; simpa using hpc
    obtain ⟨ab, cb, hcf⟩ := cells_fn hcs
    obtain ⟨r, o, rfl, -, hr, hcells⟩ := hcf (by rw [s2]; decide)
    have hrc := (hcells 1 (by rw [s2]; decide)).2.1
    rw [s3] at hrc
    have hrc' : w7.cell? ⟨r, o + 3 + 1, none⟩ = some (.int .i64 3) := by simpa using hrc
    rw [e1, s2] at hv ⊢
    have g7 : Below W3.heap.size W3 w7 := HG6.out.trans (hb7.mono HG6.out.size)
    obtain ⟨W8, e8⟩ : ∃ W8, w7.alloc (.cells #[.slice (some ⟨p, q, none⟩) 2 j1, .slice (some ⟨r, o, none⟩) 6 j2] 25) = W8 := ⟨_, rfl⟩
    have B8 : Below w7.heap.size w7 W8 := by rw [← e8]; exact one_alloc _ _
    have z8 : W8.heap.size = w7.heap.size + 1 := by rw [← e8]; simp
    have v0 : W8.cell? ⟨w7.heap.size, 0, none⟩ = some (.slice (some ⟨p, q, none⟩) 2 j1) := by rw [← e8]; exact cell_new0 w7 _ 25 0 _ rfl
    have v1 : W8.cell? ⟨w7.heap.size, 1, none⟩ = some (.slice (some ⟨r, o, none⟩) 6 j2) := by rw [← e8]; exact cell_new0 w7 _ 25 1 _ rfl
    have g8 : Below W3.heap.size W3 W8 := g7.trans (B8.mono g7.size)
    have C4 := mo_any (HV.out W8 g8) 0 (fun h => absurd h (by decide))
    rw [w_zero] at C4
    obtain ⟨k0, k1⟩ := KQ.out _ g8
    have hlt8 : w7.heap.size < W8.heap.size := by omega
    have HF := hide (And.intro v0 (And.intro v1 (And.intro ((B8.cell (p := ⟨p, q, none⟩) hp).trans hpc') (And.intro ((B8.cell (p := ⟨r, o + 3 + 1, none⟩) hr).trans hrc') (And.intro hlt8 (And.intro (Nat.lt_of_lt_of_le hp B8.size) (Nat.lt_of_lt_of_le hr B8.size)))))))
    have HG8 := hide g8
    clear C3 hv hb7 hR hcs hcf hcells hrc hrc' hpc hpc' g7 g8 B8 z8 v0 v1 hlt8 s1 s2 s3 e1 hp hr HG6 c0 c1 d0 d1 hBl
    go_wp2_with fail
    clear e8
    refine C4.mono ?_
    rintro e w9 ⟨⟨v, rfl, hv⟩, hb9⟩
    obtain ⟨f1, n1, f2, n2, rfl, -, -⟩ := hv.form
    obtain ⟨t0, t1, t2, t3, t4, t5, t6⟩ := HF.out
    have ez : zeroA.shape.length = 0 := rfl
    have ec : zeroA.cells.length = 0 := rfl
    rw [ez, ec]
    have B10 : Below W8.heap.size W8 (w9.alloc (.cells #[.slice f1 0 n1, .slice f2 0 n2] 25)) := hb9.trans ((one_alloc w9 _).mono hb9.size)
    have u0 := (B10.cell (p := ⟨w7.heap.size, 0, none⟩) t4).trans t0
    have u1 := (B10.cell (p := ⟨w7.heap.size, 1, none⟩) t4).trans t1
    have u2 := (B10.cell (p := ⟨p, q, none⟩) t5).trans t2
    have u3 := (B10.cell (p := ⟨r, o + 3 + 1, none⟩) t6).trans t3
    have HBF : Hid (Below w.heap.size w (w9.alloc (.cells #[.slice f1 0 n1, .slice f2 0 n2] 25))) := (HBW.out.trans (HG8.out.mono HBW.out.size)).trans (B10.mono (Nat.le_trans HBW.out.size HG8.out.size))
    clear C4 hv hb9 HF t0 t1 t2 t3 t4 t5 t6 ez ec B10 HV KQ HG8 HBW k0 k1
    go_wp2
    go_ret
    exact ⟨rfl, HBF.out⟩
end Go.Proofs.Ytmjncdhahdpplaa
