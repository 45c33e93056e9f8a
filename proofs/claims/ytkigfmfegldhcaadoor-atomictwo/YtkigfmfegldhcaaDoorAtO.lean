/-
  The contract of the document's Mo of layer 4; for all arrays of 64 bits.
-/
import Derived.Test.YtkigfmfegldhcaaDoorAtM
import Derived.Test.YtkigfmfegldhcaaDoorAtN
namespace Go.Proofs.YtkigfmfegldhcaaDoor
open Go.ChangeShapes Go.WideShapes Go.ChangeAt Go.RowKit
open Num (resV resE In64 sgnI absI)
set_option linter.unusedVariables false
theorem size_alloc1' (W : World) (o : Obj) : (W.alloc o).heap.size = W.heap.size + 1 := by simp
set_option maxRecDepth 20000 in
set_option maxHeartbeats 8000000 in
theorem rmo_any (m n lo : Nat) (op : Int) (x : Ar) (va : Value) (w : World) (hx : ArIn n lo w x va) (hs : Snd x) :
    Calls Tryd.prog 12 #[.int .i64 op, va] w fun e w' => GivesE (m + 1) w.heap.size (moA op x) (moE op x) w e w' := by
  cases n with
  | zero => exact hx.elim
  | succ n =>
  obtain ⟨a1, c1, a2, c2, rfl⟩ := hx.form
  obtain ⟨-, -, hR, hl, hc⟩ := cells_of hx
  obtain ⟨W2, e2⟩ : ∃ W2, W2 = (w.alloc (.cells #[.slice a1 x.shape.length c1, .slice a2 x.cells.length c2] 25)).alloc (.cells #[.slice none 0 0, .slice none 0 0] 25) := ⟨_, rfl⟩
  have B2 : Below w.heap.size w W2 := by rw [e2]; exact two_allocs _ _ _
  have s2 : W2.heap.size = w.heap.size + 2 := by rw [e2]; exact size_two _ _ _
  have d1 : ∀ i v, #[Value.slice a1 x.shape.length c1, .slice a2 x.cells.length c2][i]? = some v → W2.cell? ⟨w.heap.size, i, none⟩ = some v := fun i v hv => by rw [e2]; exact cell_new1 w _ 25 (0, 0) _ i _ hv
  have dz : W2.rowIs (w.heap.size + 1) 25 2 (fun _ => .slice none 0 0) := by
    have := nil_row (w.alloc (.cells #[.slice a1 x.shape.length c1, .slice a2 x.cells.length c2] 25))
    rw [size_alloc1'] at this
    rw [e2]
    exact this
  have C0 := hide (rcheck_any (n + 1) x lo _ W2 (hx.next B2))
  have HK : Hid (∀ W, Below W2.heap.size W2 W → (W.cell? ⟨w.heap.size, 0, none⟩ = some (.slice a1 x.shape.length c1) ∧ W.cell? ⟨w.heap.size, 1, none⟩ = some (.slice a2 x.cells.length c2)) ∧ W.rowIs (w.heap.size + 1) 25 2 (fun _ => .slice none 0 0)) := by
    intro W h
    exact ⟨⟨(h.cell (p := ⟨w.heap.size, 0, none⟩) (by show w.heap.size < _; omega)).trans (d1 0 _ rfl), (h.cell (p := ⟨w.heap.size, 1, none⟩) (by show w.heap.size < _; omega)).trans (d1 1 _ rfl)⟩, dz.of_block (h.block _ (by omega))⟩
  have HBB : Hid (∀ W, Below W2.heap.size W2 W → Below w.heap.size w W) := fun W h => B2.trans (h.mono B2.size)
  have HNIL : Hid (∀ W, Below W2.heap.size W2 W → ∀ u, moE op x = u → moA op x = .mk [] [] → GivesE (m + 1) w.heap.size (moA op x) (moE op x) w (.returned (.tuple #[.agg #[.slice none 0 0, .slice none 0 0], .int .i64 u])) ((W.setCell ⟨w.heap.size + 1, 0, none⟩ (.slice none 0 0)).setCell ⟨w.heap.size + 1, 1, none⟩ (.slice none 0 0))) := by
    intro W h u hu ha
    rw [hu, ha]
    exact ⟨⟨_, rfl, nil_arr _ _ _⟩, below_set2 (HBB.out W h) (by omega)⟩
  by_cases hck : chkA 8 x = 0
  case neg =>
    obtain ⟨q1, q2⟩ := moE_chk (op := op) hck
    have HQ := hide (fun W h => HNIL.out W h _ q1 q2)
    generalize chkA 8 x = E at *
    have hE : (E == 0) = false := beq_eq_false_iff_ne.2 hck
    clear q1 q2 hck
    clear hR hl hc hx hs d1 dz B2 HNIL HBB
    generalize x.shape.length = SA at *
    generalize x.cells.length = CA at *
    go_enter Tryd.func12, Tryd.ntmps12
    go_wp2_with fail
    rw [← e2]
    refine C0.out.mono ?_
    rintro e w1 ⟨rfl, hb1⟩
    obtain ⟨⟨k1, k2⟩, kz⟩ := HK.out w1 hb1
    have y0 := kz.cell (i := 0) (by omega)
    have y1 := kz.cell (i := 1) (by omega)
    have g0 := kz.frozen 0
    have g1 := kz.frozen 1
    have HT := hide (two_read kz (.slice none 0 0) (.slice none 0 0))
    have HF := hide (HQ.out w1 hb1)
    clear HQ HK kz
    go_wp2
    exact bodyPost_ret (v := .tuple #[.agg #[.slice none 0 0, .slice none 0 0], .int .i64 E]) (by simp [results, Tryd.results12, go_sem, HT.out.1, HT.out.2]) rfl HF.out
  case pos =>
  rw [hck] at C0
  by_cases h19 : op = 19
  case pos =>
    subst h19
    obtain ⟨q1, q2⟩ := moE_nonce hck
    have HQ := hide (fun W h => HNIL.out W h _ q1 q2)
    clear q1 q2 hck
    clear hR hl hc hx hs d1 dz B2 HNIL HBB
    generalize x.shape.length = SA at *
    generalize x.cells.length = CA at *
    go_enter Tryd.func12, Tryd.ntmps12
    go_wp2_with fail
    rw [← e2]
    refine C0.out.mono ?_
    rintro e w1 ⟨rfl, hb1⟩
    obtain ⟨⟨k1, k2⟩, kz⟩ := HK.out w1 hb1
    have y0 := kz.cell (i := 0) (by omega)
    have y1 := kz.cell (i := 1) (by omega)
    have g0 := kz.frozen 0
    have g1 := kz.frozen 1
    have HT := hide (two_read kz (.slice none 0 0) (.slice none 0 0))
    have HF := hide (HQ.out w1 hb1)
    clear HQ HK kz
    go_wp2
    exact bodyPost_ret (v := .tuple #[.agg #[.slice none 0 0, .slice none 0 0], .int .i64 10]) (by simp [results, Tryd.results12, go_sem, HT.out.1, HT.out.2]) rfl HF.out
  case neg =>
  have g19 : (op == 19) = false := beq_eq_false_iff_ne.2 h19
  by_cases h14 : 1 ≤ op ∧ op ≤ 4
  case neg =>
    obtain ⟨q1, q2⟩ := moE_arg hck h19 h14
    have HQ := hide (fun W h => HNIL.out W h _ q1 q2)
    clear q1 q2 hck
    by_cases hlo : op < 1
    · clear hR hl hc hx hs d1 dz B2 HNIL HBB
      generalize x.shape.length = SA at *
      generalize x.cells.length = CA at *
      go_enter Tryd.func12, Tryd.ntmps12
      go_wp2_with fail
      rw [← e2]
      refine C0.out.mono ?_
      rintro e w1 ⟨rfl, hb1⟩
      obtain ⟨⟨k1, k2⟩, kz⟩ := HK.out w1 hb1
      have y0 := kz.cell (i := 0) (by omega)
      have y1 := kz.cell (i := 1) (by omega)
      have g0 := kz.frozen 0
      have g1 := kz.frozen 1
      have HT := hide (two_read kz (.slice none 0 0) (.slice none 0 0))
      have HF := hide (HQ.out w1 hb1)
      clear HQ HK kz
      go_wp2
      exact bodyPost_ret (v := .tuple #[.agg #[.slice none 0 0, .slice none 0 0], .int .i64 1]) (by simp [results, Tryd.results12, go_sem, HT.out.1, HT.out.2]) rfl HF.out
    · have hhi : 4 < op := by omega
      clear hR hl hc hx hs d1 dz B2 HNIL HBB
      generalize x.shape.length = SA at *
      generalize x.cells.length = CA at *
      go_enter Tryd.func12, Tryd.ntmps12
      go_wp2_with fail
      rw [← e2]
      refine C0.out.mono ?_
      rintro e w1 ⟨rfl, hb1⟩
      obtain ⟨⟨k1, k2⟩, kz⟩ := HK.out w1 hb1
      have y0 := kz.cell (i := 0) (by omega)
      have y1 := kz.cell (i := 1) (by omega)
      have g0 := kz.frozen 0
      have g1 := kz.frozen 1
      have HT := hide (two_read kz (.slice none 0 0) (.slice none 0 0))
      have HF := hide (HQ.out w1 hb1)
      clear HQ HK kz
      go_wp2
      exact bodyPost_ret (v := .tuple #[.agg #[.slice none 0 0, .slice none 0 0], .int .i64 1]) (by simp [results, Tryd.results12, go_sem, HT.out.1, HT.out.2]) rfl HF.out
  case pos =>
  obtain ⟨f, -, hS8, hC16, -⟩ := chk_ok hck
  obtain ⟨i3, hi3, hz30, hz31, hz32⟩ := info3'
  obtain ⟨i0, hi, hz0, hz1, hz2⟩ := info33'
  have HC : Hid (∀ i, i < x.cells.length → ∃ b off z0 z1 ab nb cb, a2 = some ⟨b, off, none⟩ ∧ b < w.heap.size ∧ ∀ wr, Below w.heap.size w wr → (wr.cell? ⟨b, off + i * 3, none⟩ = some (.int .i64 z0) ∧ wr.cell? ⟨b, off + i * 3 + 1, none⟩ = some (.int .i64 z1) ∧ wr.cell? ⟨b, off + i * 3 + 2, none⟩ = some (.slice ab nb cb)) ∧ Calls Tryd.prog 32 #[.int .i64 op, .agg #[.int .i64 z0, .int .i64 z1, .slice ab nb cb]] wr fun r w' => r = .returned (.tuple #[.agg #[.int .i64 0, .int .i64 (c1V op (cAt x.cells i)), .slice none 0 0], .int .i64 (c1E op (cAt x.cells i))]) ∧ Below wr.heap.size wr w') := by
    intro i hi
    obtain ⟨b, off, z0, z1, ab, nb, cb, rfl, hcs⟩ := cells_at hc i hi
    have hbw : b < w.heap.size := by
      obtain ⟨g0, -⟩ := hcs w (Below.refl _ _)
      rcases Nat.lt_or_ge b w.heap.size with hh | hh
      · exact hh
      · have : w.heap[b]? = none := Array.getElem?_eq_none hh
        simp [World.cell?, this] at g0
    refine ⟨b, off, z0, z1, ab, nb, cb, rfl, hbw, fun wr h => ?_⟩
    obtain ⟨g0, g1, g2, g3⟩ := hcs wr h
    obtain ⟨u0, u1, -⟩ := g3
    simp only [Value.int.injEq, true_and] at u0 u1
    exact ⟨⟨g0, g1, g2⟩, rone_any op z0 z1 ab nb cb (by rw [u1]; exact (hs.cell (mem_cAt hi)).2.1) (cAt x.cells i) ⟨u0.symm, u1.symm⟩ wr⟩
  obtain ⟨V, hV⟩ : ∃ V : Nat → Int, ∀ i, V i = c1V op (cAt x.cells i) := ⟨_, fun _ => rfl⟩
  obtain ⟨E, hE⟩ : ∃ E : Nat → Int, ∀ i, E i = c1E op (cAt x.cells i) := ⟨_, fun _ => rfl⟩
  simp only [← hV, ← hE] at HC
  have eE : moE op x = firstUp E x.cells.length := by rw [moE_do hck h14]; exact firstUp_congr fun i _ => (hE i).symm
  have eA : moA op x = if firstUp E x.cells.length = 0 then .mk x.shape (numCs 0 ((List.range x.cells.length).map V)) else .mk [] [] := by
    rw [moA_do, eE, show (fun i => c1V op (cAt x.cells i)) = V from funext fun i => (hV i).symm]
  have HROW := hide (fun W (h : Below w.heap.size w W) => hR.next h)
  have HLEN : Hid (x.shape.length ≤ 8 ∧ x.cells.length ≤ 16384) := ⟨hS8, hC16⟩
  have HSL := hide (rfl : x.shape.length = x.shape.length)
  have HBAD : Hid (∀ W, Below w.heap.size w W → firstUp E x.cells.length ≠ 0 → GivesE (m + 1) w.heap.size (moA op x) (moE op x) w (.returned (.tuple #[.agg #[.slice none 0 0, .slice none 0 0], .int .i64 (firstUp E x.cells.length)])) W) := by
    intro W hW h0
    rw [eA, eE, if_neg h0]
    exact ⟨⟨_, rfl, nil_arr _ _ _⟩, hW⟩
  have HEND : Hid (∀ W lo a1' cc1 a2' cc2, Below w.heap.size w W → w.heap.size + 2 ≤ lo → firstUp E x.cells.length = 0 → Row lo W a1' x.shape → CellsIn m lo W (numCs 0 ((List.range x.cells.length).map V)) a2' → GivesE (m + 1) w.heap.size (moA op x) (moE op x) w (.returned (.tuple #[.agg #[.slice a1' x.shape.length cc1, .slice a2' x.cells.length cc2], .int .i64 0])) ((W.setCell ⟨w.heap.size + 1, 0, none⟩ (.slice a1' x.shape.length cc1)).setCell ⟨w.heap.size + 1, 1, none⟩ (.slice a2' x.cells.length cc2))) := by
    intro W lo a1' cc1 a2' cc2 hW hlo h0 hr hcc
    rw [eA, eE, if_pos h0, h0]
    refine ⟨⟨_, rfl, fin_store (lo := lo) (arIn_mk (n := m) (x := .mk x.shape (numCs 0 ((List.range x.cells.length).map V))) hr ?_ hcc rfl ?_) (by omega) (by omega)⟩, below_set2 hW (by omega)⟩
    · show (numCs 0 ((List.range x.cells.length).map V)).length ≤ _
      rw [numCs_len, vals_len]; omega
    · show (numCs 0 ((List.range x.cells.length).map V)).length = _
      rw [numCs_len, vals_len]
  have HS2 := hide s2
  generalize moE op x = ME at *
  generalize moA op x = MA at *
  clear eE eA hV hE hR hl hc hx hs d1 dz B2 HNIL hck h19 hS8 hC16 f HSL s2
  generalize x.shape = sh at *
  generalize hSA : sh.length = SA at *
  have HSA := hide hSA
  clear hSA
  generalize x.cells.length = CA at *
  obtain ⟨h1, h4⟩ := h14
  go_enter Tryd.func12, Tryd.ntmps12
  go_wp2_with fail
  rw [← e2]
  refine C0.out.mono ?_
  rintro e w1 ⟨rfl, hb1⟩
  obtain ⟨⟨k1, k2⟩, kz⟩ := HK.out w1 hb1
  have hsz1 := hb1.size
  have bW := HBB.out _ hb1
  have OWN := World.ownsRow_nil (base := w1.heap.size + 1) (e := 3) (size := 1) (w1.alloc (.cells #[.slice none 0 0, .slice none 0 0] 25))
  have RW := (HROW.out _ bW).next (one_alloc w1 (.cells #[.slice none 0 0, .slice none 0 0] 25))
  have hlt : w.heap.size < w1.heap.size := by have := HS2.out; omega
  clear C0 e2
  go_wp2_with (at_builtin; refine wpList_append_row (by rfl) _ _ 22 rfl (w1.heap.size + 1) 3 i3 (.int .i64 0) 8 Tryd.underlying22 hi3 hz30 hz31 hz32 rfl _ _ _ rfl OWN a1 SA c1 sh rfl HSA.out RW ?c3 ?c4 ?c5 ?_)
  case c3 => have := HLEN.out.1; unfold maxLen; omega
  case c4 => have := HLEN.out.1; omega
  case c5 => simp
  intro v' w4 hown4 hb4
  have hown4' : w4.ownsRow (w1.heap.size + 1) 3 1 v' sh.length (sh.map (Value.int .i64)) := by rw [HSA.out]; exact hown4
  obtain ⟨ga, gc, hv', hRow⟩ := owns_row sh (by rw [HSA.out]; have := HLEN.out.1; omega) hown4'
  rw [HSA.out] at hv'
  subst hv'
  obtain ⟨W5, e5⟩ : ∃ W5, W5 = w4.setCell ⟨w1.heap.size, 0, none⟩ (.slice ga SA gc) := ⟨_, rfl⟩
  have z4 : w4.rowIs w1.heap.size 25 2 (fun _ => .slice none 0 0) := (nil_row w1).of_block (hb4.block _ (by omega))
  have y0 := z4.cell (i := 0) (by omega)
  have y1 := z4.cell (i := 1) (by omega)
  have g0 := z4.frozen 0
  have g1 := z4.frozen 1
  have b14 : Below w1.heap.size w1 w4 := (one_alloc w1 (.cells #[.slice none 0 0, .slice none 0 0] 25)).trans (hb4.mono (by omega))
  have b15 : Below w1.heap.size w1 W5 := by rw [e5]; exact b14.setCell (p := ⟨w1.heap.size, 0, none⟩) (Nat.le_refl _) _
  have s4 := hb4.size
  rw [size_alloc1'] at s4
  have s5 : W5.heap.size = w4.heap.size := by rw [e5]; simp
  have z5 := z4.set 0 (.slice ga SA gc)
  rw [← e5] at z5
  have HB15 := hide b15
  have HB5 := hide (bW.trans (b15.mono bW.size))
  have HRow5 : Hid (Row (w1.heap.size + 1) W5 (some ⟨0, 0, none⟩) [] ∧ Row (w1.heap.size + 1) W5 ga sh) := ⟨row_nil _ _ _, by rw [e5]; exact hRow.keeps ((Keeps.refl _ _).setCell (p := ⟨w1.heap.size, 0, none⟩) (by show w1.heap.size < _; omega) _)⟩
  have HST : Hid (Grows W5 w1.heap.size (.slice ga SA gc) (numT V) 0 (.slice none 0 0) W5) :=
    ⟨Nat.le_refl _, fun _ _ _ => rfl, by rw [z5.cell (by omega)]; simp, by rw [z5.cell (by omega)]; simp, z5.frozen 1, World.ownsRow_nil _ _ _ _⟩
  have HO5 : Hid (w1.heap.size < W5.heap.size) := by show _ < _; omega
  have HFX : Hid (∀ W, Below w1.heap.size w1 W → (W.cell? ⟨w.heap.size, 0, none⟩ = some (.slice a1 SA c1) ∧ W.cell? ⟨w.heap.size, 1, none⟩ = some (.slice a2 CA c2)) ∧ W.rowIs (w.heap.size + 1) 25 2 (fun _ => .slice none 0 0)) := fun W h => HK.out W (hb1.trans (h.mono hb1.size))
  have HL1 : Hid (w.heap.size + 2 ≤ w1.heap.size) := by have := HS2.out; show _ ≤ _; omega
  clear HK HBB hb1 kz hsz1 OWN RW hown4 hown4' hRow z4 b14 b15 s4 s5 z5 HROW
  go_wp2_with fail
  rw [← e5]
  clear e5 y0 y1 g0 g1 hb4
  go_loopw [8] (fun i wr => ∃ (j : Nat) (v : Value), j ≤ CA ∧ i = .int .i64 (j : Int) ∧ Below w1.heap.size w1 wr ∧ Grows W5 w1.heap.size (.slice ga SA gc) (numT V) j v wr ∧ firstUp E j = 0) (fun i _ => CA - (intOf i).toNat)
  case atStart => exact ⟨0, _, Nat.zero_le _, rfl, HB15.out, HST.out, rfl⟩
  case round =>
    clear HST HB15
    obtain ⟨j, v, hj, rfl, hnx, hgr, h0⟩ := hrel
    have H0 := hide h0
    clear h0
    obtain ⟨⟨x0, x1⟩, xz⟩ := HFX.out wr hnx
    have bwr := bW.trans (hnx.mono bW.size)
    by_cases hlt : j < CA
    · obtain ⟨b, off, z0, z1, ab, nb, cb, rfl, hbw, hcall⟩ := HC.out j hlt
      obtain ⟨⟨p0, p1, p2⟩, C⟩ := hcall wr bwr
      have HR : Hid (E j ≠ 0 → firstUp E CA = E j) := fun h => firstUp_hit H0.out h CA hlt
      have HS : Hid (firstUp E (j + 1) = E j) := firstUp_step H0.out
      have HN : Hid (rowT (numT V) (j + 1) = rowT (numT V) j ++ [.int .i64 0, .int .i64 (V j), .slice none 0 0]) := rowT_step _ _
      have hCA := HLEN.out.2
      have hjZ : (0 : Int) ≤ (j : Int) := by omega
      have hjN : (j : Int) < (CA : Int) := by omega
      generalize hu : E j = u at *
      generalize V j = vv at *
      clear hu
      have HCC := hide C
      clear C HC hcall
      by_cases hu0 : u = 0
      · subst hu0
        go_wp2_with fail
        clear x0 x1 p0 p1 p2
        refine HCC.out.mono ?_
        rintro e w6 ⟨rfl, hb6⟩
        have hg6 := hgr.next HO5.out hb6
        have n6 := hnx.trans (hb6.mono hnx.size)
        have o6 : w1.heap.size < w6.heap.size := Nat.lt_of_lt_of_le HO5.out hg6.size
        have c1' := hg6.c1
        have f1' := hg6.f1
        have hg8 := hg6.next HO5.out (two_allocs w6 (.cells #[.int .i64 0, .int .i64 vv, .slice none 0 0] 35) (.cells #[.int .i64 0, .int .i64 vv, .slice none 0 0] 35))
        have OWN8 := hg8.own
        have hs8 := size_two w6 (.cells #[.int .i64 0, .int .i64 vv, .slice none 0 0] 35) (.cells #[.int .i64 0, .int .i64 vv, .slice none 0 0] 35)
        have HG8 := hide hg8
        have HN8 := hide (n6.trans ((two_allocs w6 (.cells #[.int .i64 0, .int .i64 vv, .slice none 0 0] 35) (.cells #[.int .i64 0, .int .i64 vv, .slice none 0 0] 35)).mono n6.size))
        have HS8 := hide hs8
        have HZ8 := hide (Nat.le_trans hg6.size (show w6.heap.size ≤ ((w6.alloc (.cells #[.int .i64 0, .int .i64 vv, .slice none 0 0] 35)).alloc (.cells #[.int .i64 0, .int .i64 vv, .slice none 0 0] 35)).heap.size by rw [hs8]; omega))
        have HNW : Hid (∀ i u, [Value.int .i64 0, .int .i64 vv, .slice none 0 0][i]? = some u → ((w6.alloc (.cells #[.int .i64 0, .int .i64 vv, .slice none 0 0] 35)).alloc (.cells #[.int .i64 0, .int .i64 vv, .slice none 0 0] 35)).cell? ((⟨w6.heap.size + 1, 0, none⟩ : Addr).add i) = some u) := by
          intro i u hu
          rw [add_off, Nat.zero_add]
          exact cell_new2 w6 _ 35 (0, 0) _ i u (by simpa using hu)
        clear hg8 hs8 hg6 n6 hgr hnx hb6 HCC xz HR
        go_wp2_with (at_builtin; refine wpList_append_B rfl _ _ 23 rfl W5.heap.size 35 i0 (.agg #[.int .i64 0, .int .i64 0, .slice none 0 0]) 3 40 Tryd.underlying23 hi hz0 hz1 hz2 rfl (by decide) _ _ _ rfl OWN8 ⟨w6.heap.size + 1, 0, none⟩ 1 1 [.int .i64 0, .int .i64 vv, .slice none 0 0] rfl rfl HNW.out ?c2 ?c3 ?c4 HZ8.out ?_)
        case c2 =>
          intro u hu
          simp at hu
          rcases hu with rfl | rfl | rfl <;> rfl
        case c3 => unfold maxLen; omega
        case c4 => omega
        intro v' w9 hown9 hb9
        obtain ⟨g, cp, rfl, -⟩ := owns_form hown9 (Nat.succ_pos j)
        have hown9' : w9.ownsRow W5.heap.size 35 3 (.slice (some ⟨g, 0, none⟩) (j + 1) cp) (j + 1) (rowT (numT V) (j + 1)) := by rw [HN.out]; exact hown9
        have HF := hide (HG8.out.step HO5.out hb9 hown9')
        have HFB := hide ((HN8.out.trans (hb9.mono (Nat.le_of_lt HO5.out))).setCell (p := ⟨w1.heap.size, 1, none⟩) (Nat.le_refl _) (.slice (some ⟨g, 0, none⟩) (j + 1) cp))
        have c9 : w9.cell? ⟨w1.heap.size, 1, none⟩ = some v := (hb9.cell (p := ⟨w1.heap.size, 1, none⟩) HO5.out).trans HG8.out.c1
        have f9 : w9.frozen? ⟨w1.heap.size, 1, none⟩ = false := (hb9.frozen (p := ⟨w1.heap.size, 1, none⟩) HO5.out).trans HG8.out.f1
        clear hown9 hown9' hb9 HG8 HN8 HS8 HZ8 HNW OWN8 c1' f1' HN
        go_wp2
        go_roundw
        case rel => exact ⟨j + 1, _, by omega, by go_num, HFB.out, HF.out, HS.out⟩
        case measure => simp [intOf]; omega
      · have HU := hide hu0
        have hub : (u == 0) = false := beq_eq_false_iff_ne.2 hu0
        have HFU := hide (HR.out HU.out)
        have HQ : Hid (∀ W, Below w.heap.size w W → GivesE (m + 1) w.heap.size MA ME w (.returned (.tuple #[.agg #[.slice none 0 0, .slice none 0 0], .int .i64 u])) W) := fun W h => (congrArg (fun t => GivesE (m + 1) w.heap.size MA ME w (.returned (.tuple #[.agg #[.slice none 0 0, .slice none 0 0], .int .i64 t])) W) HFU.out).mp (HBAD.out W h (by rw [HFU.out]; exact HU.out))
        clear HR HS HN hu0 HBAD HEND
        go_wp2_with fail
        clear x0 x1 p0 p1 p2
        refine HCC.out.mono ?_
        rintro e w6 ⟨rfl, hb6⟩
        have hl1 := HL1.out
        have hg6 := hgr.next HO5.out hb6
        have z6 : w6.rowIs (w.heap.size + 1) 25 2 (fun _ => .slice none 0 0) := xz.of_block (hb6.block _ (by have := hnx.size; omega))
        have hzz : w.heap.size + 1 < w6.heap.size := by have := hnx.size; have := hb6.size; omega
        have b6 := bwr.trans (hb6.mono bwr.size)
        have y0 := z6.cell (i := 0) (by omega)
        have y1 := z6.cell (i := 1) (by omega)
        have g0 := z6.frozen 0
        have g1 := z6.frozen 1
        have HT2 : ∀ o i, i < 2 → (((w6.setCell ⟨w.heap.size + 1, 0, none⟩ (.slice none 0 0)).setCell ⟨w.heap.size + 1, 1, none⟩ (.slice none 0 0)).alloc o).cell? ⟨w.heap.size + 1, i, none⟩ = some (.slice none 0 0) := by
          intro o i hi
          have zz := (z6.set 0 (.slice none 0 0)).set 1 (.slice none 0 0)
          have bb := one_alloc ((w6.setCell ⟨w.heap.size + 1, 0, none⟩ (.slice none 0 0)).setCell ⟨w.heap.size + 1, 1, none⟩ (.slice none 0 0)) o
          have hss : ((w6.setCell ⟨w.heap.size + 1, 0, none⟩ (.slice none 0 0)).setCell ⟨w.heap.size + 1, 1, none⟩ (.slice none 0 0)).heap.size = w6.heap.size := by simp
          rw [bb.cell (p := ⟨w.heap.size + 1, i, none⟩) (by show w.heap.size + 1 < _; omega), zz.cell hi]
          simp
        have HT := hide (And.intro (fun o => HT2 o 0 (by omega)) (fun o => HT2 o 1 (by omega)))
        have HLB : Hid (∀ o, Below w.heap.size w (((w6.setCell ⟨w.heap.size + 1, 0, none⟩ (.slice none 0 0)).setCell ⟨w.heap.size + 1, 1, none⟩ (.slice none 0 0)).alloc o)) := fun o => (below_set2 b6 (by omega)).alloc (below_set2 b6 (by omega)).size o
        clear HT2 z6 hg6 hgr hnx hb6 b6 xz HCC bwr bW
        go_wp2
        exact bodyPost_ret (v := .tuple #[.agg #[.slice none 0 0, .slice none 0 0], .int .i64 u]) (by simp [results, Tryd.results12, go_sem, HT.out.1, HT.out.2]) rfl (HQ.out _ (HLB.out _))
    · have hje : j = CA := by omega
      subst hje
      obtain ⟨a2', cp, rfl, hcs⟩ := owns_nums (n := m) V hgr.own
      have q0 := hgr.c0
      have q1 := hgr.c1
      have hl1 := HL1.out
      have y0 := xz.cell (i := 0) (by omega)
      have y1 := xz.cell (i := 1) (by omega)
      have g0 := xz.frozen 0
      have g1 := xz.frozen 1
      have HT := hide (two_read xz (.slice ga SA gc) (.slice a2' j cp))
      have HQ := hide (HEND.out wr (w1.heap.size + 1) ga gc a2' cp bwr (by omega) H0.out (HRow5.out.2.keeps hgr.keeps) (hcs.mono HO5.out (Below.refl _ _)))
      clear hgr hcs HBAD HEND HC HFX xz
      go_wp2
      exact bodyPost_ret (v := .tuple #[.agg #[.slice ga SA gc, .slice a2' j cp], .int .i64 0]) (by simp [results, Tryd.results12, go_sem, HT.out.1, HT.out.2]) rfl HQ.out
end Go.Proofs.YtkigfmfegldhcaaDoor
