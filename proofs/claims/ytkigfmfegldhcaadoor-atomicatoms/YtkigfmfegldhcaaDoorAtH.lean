/-
  The contract of layer 4's Mo; for all arrays of 64 bits.
-/
import Derived.Test.YtkigfmfegldhcaaDoorAtG
namespace Go.Proofs.YtkigfmfegldhcaaDoor
open Go.ChangeShapes Go.WideShapes Go.ChangeAt Go.RowKit
open Num (resV resE In64 sgnI absI)
set_option linter.unusedVariables false
/-- An array that lies from lo on is as it was behind a store into a block below lo. -/
theorem fin_store {n lo base s : Nat} {w : World} {x : Ar} {v u0 u1 : Value} (h : ArIn n lo w x v) (hs : s < lo) (hb : base ≤ lo) : ArIn n base ((w.setCell ⟨s, 0, none⟩ u0).setCell ⟨s, 1, none⟩ u1) x v :=
  (h.keeps (((Keeps.refl _ _).setCell (p := ⟨s, 0, none⟩) hs u0).setCell (p := ⟨s, 1, none⟩) hs u1)).mono hb (Below.refl _ _)
theorem ArIn.form {n lo : Nat} {w : World} {x : Ar} {v : Value} (h : ArIn n lo w x v) : ∃ a1 c1 a2 c2, v = .agg #[.slice a1 x.shape.length c1, .slice a2 x.cells.length c2] := by
  cases n with
  | zero => exact h.elim
  | succ n => obtain ⟨a1, c1, a2, c2, hv, -⟩ := h; exact ⟨a1, c1, a2, c2, hv⟩
theorem size_three (w : World) (o1 o2 o3 : Obj) : (((w.alloc o1).alloc o2).alloc o3).heap.size = w.heap.size + 3 := by simp
theorem cells_of {n lo : Nat} {w : World} {x : Ar} {a1 a2 : Option Addr} {k1 k2 c1 c2 : Nat} (h : ArIn (n + 1) lo w x (.agg #[.slice a1 k1 c1, .slice a2 k2 c2])) : k1 = x.shape.length ∧ k2 = x.cells.length ∧ Row lo w a1 x.shape ∧ x.cells.length ≤ 5864062014805 ∧ CellsIn n lo w x.cells a2 := by
  obtain ⟨a1', c1', a2', c2', hv, hR, hl, hc⟩ := h
  simp only [Value.agg.injEq, Array.mk.injEq, List.cons.injEq, and_true, Value.slice.injEq] at hv
  obtain ⟨⟨rfl, rfl, rfl⟩, rfl, rfl, rfl⟩ := hv
  exact ⟨rfl, rfl, hR, hl, hc⟩
theorem mem_cAt {l : List Ce} {i : Nat} (h : i < l.length) : cAt l i ∈ l := by simp [cAt, h]
theorem moE_chk {op : Int} {x : Ar} (h : chkA 8 x ≠ 0) : moE op x = chkA 8 x ∧ moA op x = .mk [] [] := by
  have : moE op x = chkA 8 x := by unfold moE; rw [if_pos h]
  exact ⟨this, by unfold moA; rw [this, if_neg h]⟩
theorem moE_nonce {x : Ar} (h : chkA 8 x = 0) : moE 19 x = 10 ∧ moA 19 x = .mk [] [] := by
  have : moE 19 x = 10 := by unfold moE; rw [if_neg (fun k => k h), if_pos rfl]
  exact ⟨this, by unfold moA; rw [this, if_neg (by decide)]⟩
theorem moE_arg {op : Int} {x : Ar} (h : chkA 8 x = 0) (h1 : ¬ op = 19) (h2 : ¬ (1 ≤ op ∧ op ≤ 4)) : moE op x = 1 ∧ moA op x = .mk [] [] := by
  have : moE op x = 1 := by unfold moE; rw [if_neg (fun k => k h), if_neg h1, if_neg h2]
  exact ⟨this, by unfold moA; rw [this, if_neg (by decide)]⟩
theorem moE_do {op : Int} {x : Ar} (h : chkA 8 x = 0) (h2 : 1 ≤ op ∧ op ≤ 4) : moE op x = firstUp (fun i => c1E op (cAt x.cells i)) x.cells.length := by
  unfold moE; rw [if_neg (fun k => k h), if_neg (by omega), if_pos h2]
theorem map_range (l : List Ce) (f : Ce → Int) : l.map f = (List.range l.length).map fun i => f (cAt l i) := by
  apply List.ext_getElem? fun i => ?_
  by_cases h : i < l.length
  · simp [h, cAt]
  · simp [h]
theorem moA_do {op : Int} {x : Ar} : moA op x = if moE op x = 0 then .mk x.shape (numCs 0 ((List.range x.cells.length).map fun i => c1V op (cAt x.cells i))) else .mk [] [] := by
  unfold moA; rw [map_range]
theorem nil_row (W : World) : (W.alloc (.cells #[.slice none 0 0, .slice none 0 0] 25)).rowIs W.heap.size 25 2 (fun _ => .slice none 0 0) :=
  ⟨#[.slice none 0 0, .slice none 0 0], by show (W.heap.push _)[W.heap.size]? = _; simp, rfl, fun i hi => by
    match i, hi with
    | 0, _ => rfl
    | 1, _ => rfl⟩
/-- A row of two that are nil, its cells stored anew: what is read behind it. -/
theorem two_read {w : World} {s : Nat} (h : w.rowIs s 25 2 (fun _ => .slice none 0 0)) (u v : Value) : ((w.setCell ⟨s, 0, none⟩ u).setCell ⟨s, 1, none⟩ v).cell? ⟨s, 0, none⟩ = some u ∧ ((w.setCell ⟨s, 0, none⟩ u).setCell ⟨s, 1, none⟩ v).cell? ⟨s, 1, none⟩ = some v := by
  have zz := (h.set 0 u).set 1 v
  exact ⟨by rw [zz.cell (by omega)]; simp, by rw [zz.cell (by omega)]; simp⟩
set_option maxRecDepth 20000 in
set_option maxHeartbeats 8000000 in
theorem mo_any (m n lo : Nat) (op : Int) (x : Ar) (va : Value) (w : World) (hx : ArIn n lo w x va) (hs : Snd x) :
    Calls Tryd.prog 11 #[.int .i64 op, va] w fun e w' => GivesE (m + 1) w.heap.size (moA op x) (moE op x) w e w' := by
  cases n with
  | zero => exact hx.elim
  | succ n =>
  obtain ⟨a1, c1, a2, c2, rfl⟩ := hx.form
  obtain ⟨-, -, hR, hl, hc⟩ := cells_of hx
  obtain ⟨W3, e3⟩ : ∃ W3, W3 = ((w.alloc (.cells #[.int .i64 op] 3)).alloc (.cells #[.slice a1 x.shape.length c1, .slice a2 x.cells.length c2] 25)).alloc (.cells #[.slice none 0 0, .slice none 0 0] 25) := ⟨_, rfl⟩
  have B3 : Below w.heap.size w W3 := by rw [e3]; exact three_allocs _ _ _ _
  have s3 : W3.heap.size = w.heap.size + 3 := by rw [e3]; exact size_three _ _ _ _
  have s2 := size_two w (.cells #[.int .i64 op] 3) (.cells #[.slice a1 x.shape.length c1, .slice a2 x.cells.length c2] 25)
  have d0 : W3.cell? ⟨w.heap.size, 0, none⟩ = some (.int .i64 op) := by
    rw [e3]
    exact ((one_alloc _ _).cell (p := ⟨w.heap.size, 0, none⟩) (by rw [s2]; show w.heap.size < _; omega)).trans (cell_new1 w _ 3 (0, 0) _ 0 _ rfl)
  have d1 : ∀ i v, #[Value.slice a1 x.shape.length c1, .slice a2 x.cells.length c2][i]? = some v → W3.cell? ⟨w.heap.size + 1, i, none⟩ = some v := by
    intro i v hv
    rw [e3]
    exact ((one_alloc _ _).cell (p := ⟨w.heap.size + 1, i, none⟩) (by rw [s2]; show w.heap.size + 1 < _; omega)).trans (cell_new2 w _ 25 (0, 0) _ i _ hv)
  have dz : W3.rowIs (w.heap.size + 2) 25 2 (fun _ => .slice none 0 0) := by
    rw [e3, ← s2]
    exact nil_row _
  have C0 := hide (check_any (n + 1) x lo _ W3 (hx.next B3))
  have HK : Hid (∀ W, Below W3.heap.size W3 W → W.cell? ⟨w.heap.size, 0, none⟩ = some (.int .i64 op) ∧ (W.cell? ⟨w.heap.size + 1, 0, none⟩ = some (.slice a1 x.shape.length c1) ∧ W.cell? ⟨w.heap.size + 1, 1, none⟩ = some (.slice a2 x.cells.length c2)) ∧ W.rowIs (w.heap.size + 2) 25 2 (fun _ => .slice none 0 0)) := by
    intro W h
    exact ⟨(h.cell (p := ⟨w.heap.size, 0, none⟩) (by show w.heap.size < _; omega)).trans d0, ⟨(h.cell (p := ⟨w.heap.size + 1, 0, none⟩) (by show w.heap.size + 1 < _; omega)).trans (d1 0 _ rfl), (h.cell (p := ⟨w.heap.size + 1, 1, none⟩) (by show w.heap.size + 1 < _; omega)).trans (d1 1 _ rfl)⟩, dz.of_block (h.block _ (by omega))⟩
  have HBB : Hid (∀ W, Below W3.heap.size W3 W → Below w.heap.size w W) := fun W h => B3.trans (h.mono B3.size)
  have HNIL : Hid (∀ W, Below W3.heap.size W3 W → ∀ u, moE op x = u → moA op x = .mk [] [] → GivesE (m + 1) w.heap.size (moA op x) (moE op x) w (.returned (.tuple #[.agg #[.slice none 0 0, .slice none 0 0], .int .i64 u])) ((W.setCell ⟨w.heap.size + 2, 0, none⟩ (.slice none 0 0)).setCell ⟨w.heap.size + 2, 1, none⟩ (.slice none 0 0))) := by
    intro W h u hu ha
    rw [hu, ha]
    exact ⟨⟨_, rfl, nil_arr _ _ _⟩, below_set2 (HBB.out W h) (by omega)⟩
  by_cases hck : chkA 8 x = 0
  · by_cases h19 : op = 19
    · subst h19
      obtain ⟨q1, q2⟩ := moE_nonce hck
      have HQ := hide (fun W h => HNIL.out W h _ q1 q2)
      clear hR hl hc hx hs d0 d1 dz B3 s2 q1 q2 HNIL HBB
      rw [hck] at C0
      clear hck
      generalize x.shape.length = SA at *
      generalize x.cells.length = CA at *
      go_enter Tryd.func11, Tryd.ntmps11
      go_wp2_with fail
      rw [← e3]
      refine C0.out.mono ?_
      rintro e w1 ⟨rfl, hb1⟩
      obtain ⟨k0, ⟨k1, k2⟩, kz⟩ := HK.out w1 hb1
      have y0 := kz.cell (i := 0) (by omega)
      have y1 := kz.cell (i := 1) (by omega)
      have g0 := kz.frozen 0
      have g1 := kz.frozen 1
      have HT := hide (two_read kz (.slice none 0 0) (.slice none 0 0))
      have HF := hide (HQ.out w1 hb1)
      clear HQ HK C0 kz
      go_wp2
      exact bodyPost_ret (v := .tuple #[.agg #[.slice none 0 0, .slice none 0 0], .int .i64 10]) (by simp [results, Tryd.results11, go_sem, HT.out.1, HT.out.2]) rfl HF.out
    · by_cases h14 : 1 ≤ op ∧ op ≤ 4
      · obtain ⟨f, -, hS8, hC16, -⟩ := chk_ok hck
        have C1 : Hid (∀ W, Below W3.heap.size W3 W → Calls Tryd.prog 29 #[.slice a1 x.shape.length c1] W fun e w' => (∃ b, e = .returned (.slice (some ⟨b, 0, none⟩) x.shape.length x.shape.length) ∧ Row W3.heap.size w' (some ⟨b, 0, none⟩) x.shape) ∧ Below W3.heap.size W3 w') := by
          intro W h
          refine (copyShape_any x.shape _ rfl (by omega) a1 c1 W (hR.next (HBB.out W h))).mono ?_
          rintro e w' ⟨⟨b, he, hr⟩, hb⟩
          exact ⟨⟨b, he, hr.low h.size⟩, h.trans (hb.mono h.size)⟩
        have CL : ∀ i, i < x.cells.length → ∀ w', Below W3.heap.size W3 w' → Calls Tryd.prog 30 #[.int .i64 (i : Int), .pointer (some ⟨w.heap.size, 0, none⟩), .pointer (some ⟨w.heap.size + 1, 0, none⟩)] w' fun r w'' => r = .returned (.tuple #[.agg #[.int .i64 0, .int .i64 (c1V op (cAt x.cells i)), .slice none 0 0], .int .i64 (c1E op (cAt x.cells i))]) ∧ Below w'.heap.size w' w'' := by
          intro i hi w' h
          obtain ⟨b, off, z0, z1, ab, nb, cb, rfl, hcs⟩ := cells_at hc i hi
          obtain ⟨g0, g1, g2, g3⟩ := hcs w' (HBB.out w' h)
          obtain ⟨u0, u1, -⟩ := g3
          simp only [Value.int.injEq, true_and] at u0 u1
          obtain ⟨t0, ⟨t1, t2⟩, -⟩ := HK.out w' h
          have hsz := h.size
          have hbw : b < w'.heap.size := by
            rcases Nat.lt_or_ge b w'.heap.size with hh | hh
            · exact hh
            · have : w'.heap[b]? = none := Array.getElem?_eq_none hh
              simp [World.cell?, this] at g0
          exact moOf_any op z0 z1 (cAt x.cells i) ⟨u0.symm, u1.symm⟩ (by rw [u1]; exact (hs.cell (mem_cAt hi)).2.1) b off i x.cells.length c2 w.heap.size (w.heap.size + 1) ab nb cb w' hi hl (by omega) (by omega) hbw t0 t2 g0 g1 g2
        have C2 : Hid (∀ W b, Below W3.heap.size W3 W → Row W3.heap.size W (some ⟨b, 0, none⟩) x.shape → Calls Tryd.prog 28 #[.slice (some ⟨b, 0, none⟩) x.shape.length x.shape.length, .int .i64 (x.cells.length : Int), .func (.func 30) #[] #[.pointer (some ⟨w.heap.size, 0, none⟩), .pointer (some ⟨w.heap.size + 1, 0, none⟩)]] W fun e w' =>
            (∃ t1 n1 t2 n2 t3 n3, e = .returned (.tuple #[.agg #[.slice t1 n1 t2, .slice n2 t3 n3], .int .i64 (moE op x)]) ∧ ArIn (m + 1) W3.heap.size w' (moA op x) (.agg #[.slice t1 n1 t2, .slice n2 t3 n3])) ∧ Below W3.heap.size W3 w') := by
          intro W b h hr
          have := fillMo_any m x.shape (some ⟨b, 0, none⟩) x.shape.length x.shape.length (fun i => c1V op (cAt x.cells i)) (fun i => c1E op (cAt x.cells i)) x.cells.length hC16 (.pointer (some ⟨w.heap.size, 0, none⟩)) (.pointer (some ⟨w.heap.size + 1, 0, none⟩)) W h.size rfl hr
            (fun i hi w' hw => CL i hi w' (h.trans (hw.mono h.size)))
          rw [← moE_do hck h14, ← moA_do] at this
          refine this.mono ?_
          rintro e w' ⟨⟨v, rfl, hv⟩, hb⟩
          obtain ⟨t1, t2, n2, n3, rfl⟩ := hv.form
          exact ⟨⟨t1, _, t2, n2, _, n3, rfl, hv⟩, h.trans (hb.mono h.size)⟩
        have HGO : Hid (∀ W t1 n1 t2 n2 t3 n3, Below W3.heap.size W3 W → ArIn (m + 1) W3.heap.size W (moA op x) (.agg #[.slice t1 n1 t2, .slice n2 t3 n3]) → GivesE (m + 1) w.heap.size (moA op x) (moE op x) w (.returned (.tuple #[.agg #[.slice t1 n1 t2, .slice n2 t3 n3], .int .i64 (moE op x)])) ((W.setCell ⟨w.heap.size + 2, 0, none⟩ (.slice t1 n1 t2)).setCell ⟨w.heap.size + 2, 1, none⟩ (.slice n2 t3 n3))) := fun W t1 n1 t2 n2 t3 n3 h hv => ⟨⟨_, rfl, fin_store hv (by omega) (by omega)⟩, below_set2 (HBB.out W h) (by omega)⟩
        generalize moE op x = E at *
        generalize moA op x = RA at *
        have hmf : ∀ (fn : Fn) (first cap : Array Value) (w : World), (Instr.makeFunc fn first cap).run Tryd.prog w = .ok (.func fn first cap) w := fun _ _ _ _ => rfl
        have hs3 := hide s3
        clear hR hl hc hx hs d0 d1 dz B3 s2 HNIL HBB CL hS8 hC16 s3
        rw [hck] at C0
        clear hck h19 f
        generalize x.shape.length = SA at *
        generalize x.cells.length = CA at *
        have h4 : op = 1 ∨ op = 2 ∨ op = 3 ∨ op = 4 := by omega
        clear h14
        rcases h4 with rfl | rfl | rfl | rfl
        all_goals
          go_enter Tryd.func11, Tryd.ntmps11
          go_wp2_with fail
          rw [← e3]
          refine C0.out.mono ?_
          rintro e w1 ⟨rfl, hb1⟩
          obtain ⟨k0, ⟨k1, k2⟩, kz⟩ := HK.out w1 hb1
          have HR : Hid (Below W3.heap.size W3 w1.drew) := hb1.drew
          have HKS : Hid (∀ W, Below W3.heap.size W3 W → W.cell? ⟨w.heap.size + 1, 0, none⟩ = some (.slice a1 SA c1) ∧ W.cell? ⟨w.heap.size + 1, 1, none⟩ = some (.slice a2 CA c2)) := fun W h => (HK.out W h).2.1
          have HKZ : Hid (∀ W, Below W3.heap.size W3 W → W.cell? ⟨w.heap.size + 2, 0, none⟩ = some (.slice none 0 0) ∧ W.cell? ⟨w.heap.size + 2, 1, none⟩ = some (.slice none 0 0) ∧ W.frozen? ⟨w.heap.size + 2, 0, none⟩ = false ∧ W.frozen? ⟨w.heap.size + 2, 1, none⟩ = false) := fun W h => ⟨(HK.out W h).2.2.cell (by omega), (HK.out W h).2.2.cell (by omega), (HK.out W h).2.2.frozen 0, (HK.out W h).2.2.frozen 1⟩
          have KT : Hid (∀ (W : World) (u v : Value), (W.cell? ⟨w.heap.size + 1, 0, none⟩ = some (.slice a1 SA c1) ∧ W.cell? ⟨w.heap.size + 1, 1, none⟩ = some (.slice a2 CA c2)) → ((W.setCell ⟨w.heap.size + 2, 0, none⟩ u).setCell ⟨w.heap.size + 2, 1, none⟩ v).cell? ⟨w.heap.size + 1, 0, none⟩ = some (.slice a1 SA c1) ∧ ((W.setCell ⟨w.heap.size + 2, 0, none⟩ u).setCell ⟨w.heap.size + 2, 1, none⟩ v).cell? ⟨w.heap.size + 1, 1, none⟩ = some (.slice a2 CA c2)) := by
            rintro W u v ⟨g0, g1⟩
            have ap : ∀ i t, W.cell? ⟨w.heap.size + 1, i, none⟩ = some t → ((W.setCell ⟨w.heap.size + 2, 0, none⟩ u).setCell ⟨w.heap.size + 2, 1, none⟩ v).cell? ⟨w.heap.size + 1, i, none⟩ = some t := fun i t ht => cell_apart (p := ⟨w.heap.size + 1, i, none⟩) (q := ⟨w.heap.size + 2, 1, none⟩) (by show w.heap.size + 1 ≠ w.heap.size + 2; omega) _ (cell_apart (p := ⟨w.heap.size + 1, i, none⟩) (q := ⟨w.heap.size + 2, 0, none⟩) (by show w.heap.size + 1 ≠ w.heap.size + 2; omega) _ ht)
            exact ⟨ap _ _ g0, ap _ _ g1⟩
          have HTR := hide (fun W (h : Below W3.heap.size W3 W) u v => two_read (HK.out W h).2.2 u v)
          clear kz HK C0
          go_wp2
          go_region_held3 (fun W => W.cell? ⟨w.heap.size + 1, 0, none⟩ = some (.slice a1 SA c1) ∧ W.cell? ⟨w.heap.size + 1, 1, none⟩ = some (.slice a2 CA c2))
            (first | exact HKS.out _ HR.out | exact HKS.out _ (by assumption) | exact KT.out _ _ _ (by assumption))
            (first
              | (go_at_call 29; refine (C1.out _ (by first | exact HR.out | assumption)).mono ?_; rintro e w2 ⟨⟨b, rfl, hr2⟩, hb2⟩)
              | (go_at_call 28; refine (C2.out _ _ (by assumption) (by assumption)).mono ?_; rintro e w3 ⟨⟨t1, n1, t2, n2, t3, n3, rfl, hv3⟩, hb3⟩; obtain ⟨y0, y1, y2, y3⟩ := HKZ.out _ hb3))
          all_goals
            have HF := hide (HGO.out _ _ _ _ _ _ _ hb3 hv3)
            have HT := hide (HTR.out _ hb3 (.slice t1 n1 t2) (.slice n2 t3 n3))
            clear HGO HTR KT HKZ HKS C1 C2 hr2 hv3
            go_wp2
            exact bodyPost_ret (v := .tuple #[.agg #[.slice t1 n1 t2, .slice n2 t3 n3], .int .i64 E]) (by simp [results, Tryd.results11, go_sem, HT.out.1, HT.out.2]) rfl HF.out
      · obtain ⟨q1, q2⟩ := moE_arg hck h19 h14
        have HQ := hide (fun W h => HNIL.out W h _ q1 q2)
        have o1 : (op == 1) = false := beq_eq_false_iff_ne.2 (by omega)
        have o2 : (op == 2) = false := beq_eq_false_iff_ne.2 (by omega)
        have o3 : (op == 3) = false := beq_eq_false_iff_ne.2 (by omega)
        have o4 : (op == 4) = false := beq_eq_false_iff_ne.2 (by omega)
        have o5 : (op == 19) = false := beq_eq_false_iff_ne.2 (by omega)
        clear h19 h14
        clear hR hl hc hx hs d0 d1 dz B3 s2 q1 q2 HNIL HBB
        rw [hck] at C0
        clear hck
        generalize x.shape.length = SA at *
        generalize x.cells.length = CA at *
        go_enter Tryd.func11, Tryd.ntmps11
        go_wp2_with fail
        rw [← e3]
        refine C0.out.mono ?_
        rintro e w1 ⟨rfl, hb1⟩
        obtain ⟨k0, ⟨k1, k2⟩, kz⟩ := HK.out w1 hb1
        have y0 := kz.cell (i := 0) (by omega)
        have y1 := kz.cell (i := 1) (by omega)
        have g0 := kz.frozen 0
        have g1 := kz.frozen 1
        have HT := hide (two_read kz (.slice none 0 0) (.slice none 0 0))
        have HF := hide (HQ.out w1 hb1)
        clear HQ HK C0 kz
        go_wp2
        exact bodyPost_ret (v := .tuple #[.agg #[.slice none 0 0, .slice none 0 0], .int .i64 1]) (by simp [results, Tryd.results11, go_sem, HT.out.1, HT.out.2]) rfl HF.out
  · obtain ⟨q1, q2⟩ := moE_chk (op := op) hck
    have HQ := hide (fun W h => HNIL.out W h _ q1 q2)
    have HCK := hide hck
    generalize chkA 8 x = E at *
    have hE : (E == 0) = false := beq_eq_false_iff_ne.2 hck
    clear hR hl hc hx hs d0 d1 dz B3 s2 q1 q2 HNIL hck HBB
    generalize x.shape.length = SA at *
    generalize x.cells.length = CA at *
    go_enter Tryd.func11, Tryd.ntmps11
    go_wp2_with fail
    rw [← e3]
    refine C0.out.mono ?_
    rintro e w1 ⟨rfl, hb1⟩
    obtain ⟨k0, ⟨k1, k2⟩, kz⟩ := HK.out w1 hb1
    have y0 := kz.cell (i := 0) (by omega)
    have y1 := kz.cell (i := 1) (by omega)
    have g0 := kz.frozen 0
    have g1 := kz.frozen 1
    have HT := hide (two_read kz (.slice none 0 0) (.slice none 0 0))
    have HF := hide (HQ.out w1 hb1)
    clear HQ HK C0 kz
    go_wp2
    exact bodyPost_ret (v := .tuple #[.agg #[.slice none 0 0, .slice none 0 0], .int .i64 E]) (by simp [results, Tryd.results11, go_sem, HT.out.1, HT.out.2]) rfl HF.out
end Go.Proofs.YtkigfmfegldhcaaDoor
