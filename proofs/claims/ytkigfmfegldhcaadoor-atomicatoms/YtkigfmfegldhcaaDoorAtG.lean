/-
  The contract of layer 4's fill, for both closures that it is handed: an array of a shape, each cell as it comes of its place; the first error is that of all.
-/
import Derived.Test.YtkigfmfegldhcaaDoorAtF
namespace Go.Proofs.YtkigfmfegldhcaaDoor
open Go.ChangeShapes Go.WideShapes Go.ChangeAt Go.RowKit
open Num (resV resE In64 sgnI absI)
set_option linter.unusedVariables false
/-- A call that hands back an array and an error's number. -/
def GivesE (n lo : Nat) (x : Ar) (u : Int) (w : World) (e : Ending) (w' : World) : Prop := (∃ v, e = .returned (.tuple #[v, .int .i64 u]) ∧ ArIn n lo w' x v) ∧ Below w.heap.size w w'
theorem nil_arr (n lo : Nat) (w : World) : ArIn (n + 1) lo w (.mk [] []) (.agg #[.slice none 0 0, .slice none 0 0]) := arIn_mk (n := n) (x := .mk [] []) (row_nil _ _ _) (by simp [Ar.cells]) (Or.inl rfl) rfl rfl
theorem vals_at (V : Nat → Int) (m i : Nat) (hi : i < m) : ((List.range m).map V)[i]?.getD 0 = V i := by simp [hi]
theorem vals_len (V : Nat → Int) (m : Nat) : ((List.range m).map V).length = m := by simp
set_option maxHeartbeats 4000000 in
theorem fillMo_any {lo : Nat} (n : Nat) (shape : List Int) (a1 : Option Addr) (k1 c1 : Nat) (V E : Nat → Int) (m : Nat) (hm : m ≤ 16384) (p q : Value) (w : World) (hlo : lo ≤ w.heap.size) (hk : shape.length = k1) (R : Row lo w a1 shape)
    (hf : ∀ i, i < m → ∀ w', Below w.heap.size w w' → Calls Tryd.prog 30 #[.int .i64 (i : Int), p, q] w' fun e w'' => e = .returned (.tuple #[.agg #[.int .i64 0, .int .i64 (V i), .slice none 0 0], .int .i64 (E i)]) ∧ Below w'.heap.size w' w'') :
    Calls Tryd.prog 28 #[.slice a1 k1 c1, .int .i64 (m : Int), .func (.func 30) #[] #[p, q]] w fun e w' =>
      GivesE (n + 1) lo (if firstUp E m = 0 then .mk shape (numCs 0 ((List.range m).map V)) else .mk [] []) (firstUp E m) w e w' := by
  have HF := hide hf
  have mk := make_cells m (by omega)
  obtain ⟨W2, e2⟩ : ∃ W2, W2 = (w.alloc (.cells #[.slice none 0 0, .slice none 0 0] 25)).alloc (.cells (madeCells #[.int .i64 0, .int .i64 0, .slice none 0 0] (m * 3)) 35) := ⟨_, rfl⟩
  have B2 : Below w.heap.size w W2 := by rw [e2]; exact two_allocs _ _ _
  have s2 : W2.heap.size = w.heap.size + 2 := by rw [e2]; simp
  have RM : W2.rowIs (w.heap.size + 1) 35 (m * 3) (numF 0 ((List.range m).map V) 0) := by
    have := rowIs_made3 (w.alloc (.cells #[.slice none 0 0, .slice none 0 0] 25)) (m * 3)
    rw [e2]
    have s1 : (w.alloc (.cells #[.slice none 0 0, .slice none 0 0] 25)).heap.size = w.heap.size + 1 := by simp
    rw [s1] at this
    refine this.congr ?_
    intro i hi
    simp [numF]
  have RZ : W2.rowIs w.heap.size 25 2 (fun _ => .slice none 0 0) := by
    rw [e2]
    exact ⟨#[.slice none 0 0, .slice none 0 0], by show ((w.heap.push _).push _)[w.heap.size]? = _; simp [Array.getElem?_push], rfl, fun i hi => by
      match i, hi with
      | 0, _ => rfl
      | 1, _ => rfl⟩
  have HB2 := hide B2
  have HS2 := hide s2
  have HRM := hide RM
  have HRZ := hide RZ
  have HROW := hide (fun W (h : Below w.heap.size w W) => R.next h)
  have HEND : Hid (∀ W, Below w.heap.size w W → firstUp E m = 0 → W.rowIs (w.heap.size + 1) 35 (m * 3) (numF 0 ((List.range m).map V) m) → GivesE (n + 1) lo (if firstUp E m = 0 then .mk shape (numCs 0 ((List.range m).map V)) else .mk [] []) (firstUp E m) w (.returned (.tuple #[.agg #[.slice a1 k1 c1, .slice (some ⟨w.heap.size + 1, 0, none⟩) m m], .int .i64 0])) ((W.setCell ⟨w.heap.size, 0, none⟩ (.slice a1 k1 c1)).setCell ⟨w.heap.size, 1, none⟩ (.slice (some ⟨w.heap.size + 1, 0, none⟩) m m))) := by
    intro W hW h0 hr
    rw [if_pos h0, h0]
    refine ⟨⟨_, rfl, ?_⟩, below_set2 hW (Nat.le_refl _)⟩
    have hr' : (((W.setCell ⟨w.heap.size, 0, none⟩ (.slice a1 k1 c1)).setCell ⟨w.heap.size, 1, none⟩ (.slice (some ⟨w.heap.size + 1, 0, none⟩) m m))).rowIs (w.heap.size + 1) 35 (((List.range m).map V).length * 3) (numF 0 ((List.range m).map V) ((List.range m).map V).length) := by
      rw [vals_len]
      exact hr.of_block (by rw [Below.heap_setCell _ _ _ _ (by show w.heap.size + 1 ≠ w.heap.size; omega), Below.heap_setCell _ _ _ _ (by show w.heap.size + 1 ≠ w.heap.size; omega)])
    refine arIn_mk (n := n) ?_ ?_ (cellsIn_num 0 _ hr' (by omega)) hk (by simp [Ar.cells, numCs])
    · exact R.next (below_set2 hW (Nat.le_refl _))
    · show (numCs 0 ((List.range m).map V)).length ≤ _
      rw [numCs_len, vals_len]; omega
  have HBAD : Hid (∀ W, Below w.heap.size w W → firstUp E m ≠ 0 → GivesE (n + 1) lo (if firstUp E m = 0 then .mk shape (numCs 0 ((List.range m).map V)) else .mk [] []) (firstUp E m) w (.returned (.tuple #[.agg #[.slice none 0 0, .slice none 0 0], .int .i64 (firstUp E m)])) W) := by
    intro W hW h0
    rw [if_neg h0]
    exact ⟨⟨_, rfl, nil_arr _ _ _⟩, hW⟩
  have HST : Hid (∀ j, j < m → numF 0 ((List.range m).map V) (j + 1) = fun i => if i = j * 3 + 2 then .slice none 0 0 else if i = j * 3 + 1 then .int .i64 (V j) else if i = j * 3 then .int .i64 0 else numF 0 ((List.range m).map V) j i) := by
    intro j hj
    funext i
    rw [numF_step, vals_at V m j hj]
  generalize (if firstUp E m = 0 then Ar.mk shape (numCs 0 ((List.range m).map V)) else .mk [] []) = RES at *
  generalize numF 0 ((List.range m).map V) = NF at *
  clear hf R B2 s2 RM RZ hk
  go_enter Tryd.func28, Tryd.ntmps28
  go_wp2
  rw [← e2]
  clear e2 mk
  go_loopw [16] (fun i wr => ∃ j : Nat, j ≤ m ∧ i = .int .i64 (j : Int) ∧ Below w.heap.size w wr ∧ w.heap.size + 2 ≤ wr.heap.size ∧ wr.rowIs (w.heap.size + 1) 35 (m * 3) (NF j) ∧ wr.rowIs w.heap.size 25 2 (fun _ => .slice none 0 0) ∧ firstUp E j = 0) (fun i _ => m - (intOf i).toNat)
  case atStart => exact ⟨0, Nat.zero_le _, rfl, HB2.out, Nat.le_of_eq HS2.out.symm, HRM.out, HRZ.out, rfl⟩
  case round =>
    obtain ⟨j, hj, rfl, hnx, hsz, hr, hz, h0⟩ := hrel
    have H0 := hide h0
    clear h0
    by_cases hlt : j < m
    · have C := HF.out j hlt wr hnx
      have HR : Hid (E j ≠ 0 → firstUp E m = E j) := fun h => firstUp_hit H0.out h m hlt
      have HS : Hid (firstUp E (j + 1) = E j) := firstUp_step H0.out
      have HN := hide (HST.out j hlt)
      obtain ⟨u, hu⟩ : ∃ u, E j = u := ⟨_, rfl⟩
      rw [hu] at C HR HS
      clear hu
      generalize V j = v at *
      have HC := hide C
      clear C HST HF HRM HRZ HB2 HS2
      by_cases hu0 : u = 0
      · subst hu0
        go_wp2_with fail
        refine HC.out.mono ?_
        rintro e w1 ⟨rfl, hb1⟩
        have r1 : w1.rowIs (w.heap.size + 1) 35 (m * 3) (NF j) := hr.of_block (hb1.block _ (by omega))
        have z1 : w1.rowIs w.heap.size 25 2 (fun _ => .slice none 0 0) := hz.of_block (hb1.block _ (by omega))
        have n1 := hnx.trans (hb1.mono hnx.size)
        have s1 := Nat.le_trans hsz hb1.size
        have c0 := r1.cell (i := j * 3) (by omega)
        have c1' := r1.cell (i := j * 3 + 1) (by omega)
        have c2 := r1.cell (i := j * 3 + 2) (by omega)
        have f0 := r1.frozen (j * 3)
        have f1 := r1.frozen (j * 3 + 1)
        have f2 := r1.frozen (j * 3 + 2)
        have hzz : w.heap.size + 1 < w1.heap.size := by omega
        obtain ⟨W3, e3⟩ : ∃ W3, W3 = ((w1.setCell ⟨w.heap.size + 1, j * 3, none⟩ (.int .i64 0)).setCell ⟨w.heap.size + 1, j * 3 + 1, none⟩ (.int .i64 v)).setCell ⟨w.heap.size + 1, j * 3 + 2, none⟩ (.slice none 0 0) := ⟨_, rfl⟩
        have r3 : W3.rowIs (w.heap.size + 1) 35 (m * 3) (NF (j + 1)) := by
          have := ((r1.set (j * 3) (.int .i64 0)).set (j * 3 + 1) (.int .i64 v)).set (j * 3 + 2) (.slice none 0 0)
          rw [HN.out, e3]
          exact this
        have z3 : W3.rowIs w.heap.size 25 2 (fun _ => .slice none 0 0) := by
          rw [e3]
          exact z1.of_block (by rw [Below.heap_setCell _ _ _ _ (by show w.heap.size ≠ w.heap.size + 1; omega), Below.heap_setCell _ _ _ _ (by show w.heap.size ≠ w.heap.size + 1; omega), Below.heap_setCell _ _ _ _ (by show w.heap.size ≠ w.heap.size + 1; omega)])
        have n3 : Below w.heap.size w W3 := by
          rw [e3]
          exact ((n1.setCell (p := ⟨w.heap.size + 1, j * 3, none⟩) (by show w.heap.size ≤ w.heap.size + 1; omega) _).setCell (p := ⟨w.heap.size + 1, j * 3 + 1, none⟩) (by show w.heap.size ≤ w.heap.size + 1; omega) _).setCell (p := ⟨w.heap.size + 1, j * 3 + 2, none⟩) (by show w.heap.size ≤ w.heap.size + 1; omega) _
        have s3 : w.heap.size + 2 ≤ W3.heap.size := by
          have : W3.heap.size = w1.heap.size := by rw [e3]; simp
          omega
        have HFIN : Hid (∀ o, Below w.heap.size w (W3.alloc o) ∧ w.heap.size + 2 ≤ (W3.alloc o).heap.size ∧ (W3.alloc o).rowIs (w.heap.size + 1) 35 (m * 3) (NF (j + 1)) ∧ (W3.alloc o).rowIs w.heap.size 25 2 (fun _ => .slice none 0 0)) := by
          intro o
          have b := one_alloc W3 o
          exact ⟨n3.trans (b.mono n3.size), Nat.le_trans s3 b.size, r3.of_block (b.block _ (by omega)), z3.of_block (b.block _ (by omega))⟩
        clear hr hz r1 z1 n1 hnx hsz hb1 s1 HN r3 z3 n3 s3
        go_wp2
        rw [← e3]
        clear e3
        go_roundw
        case rel => exact ⟨j + 1, by omega, by go_num, (HFIN.out _).1, (HFIN.out _).2.1, (HFIN.out _).2.2.1, (HFIN.out _).2.2.2, HS.out⟩
        case measure => simp [intOf]; omega
      · have HU := hide hu0
        have HQ := hide (fun W (h : Below w.heap.size w W) => HBAD.out W h (by rw [HR.out HU.out]; exact HU.out))
        have HQ2 := hide (HR.out HU.out)
        go_wp2_with fail
        refine HC.out.mono ?_
        rintro e w1 ⟨rfl, hb1⟩
        have z1 : w1.rowIs w.heap.size 25 2 (fun _ => .slice none 0 0) := hz.of_block (hb1.block _ (by omega))
        have n1 := hnx.trans (hb1.mono hnx.size)
        have s1 := Nat.le_trans hsz hb1.size
        have hzz : w.heap.size < w1.heap.size := by omega
        have y0 := z1.cell (i := 0) (by omega)
        have y1 := z1.cell (i := 1) (by omega)
        have g0 := z1.frozen 0
        have g1 := z1.frozen 1
        clear hr hz HR HS HBAD HEND HN
        have HT2 : ∀ o i, i < 2 → (((w1.setCell ⟨w.heap.size, 0, none⟩ (.slice none 0 0)).setCell ⟨w.heap.size, 1, none⟩ (.slice none 0 0)).alloc o).cell? ⟨w.heap.size, i, none⟩ = some (.slice none 0 0) := by
          intro o i hi
          have zz := (z1.set 0 (.slice none 0 0)).set 1 (.slice none 0 0)
          have b := one_alloc ((w1.setCell ⟨w.heap.size, 0, none⟩ (.slice none 0 0)).setCell ⟨w.heap.size, 1, none⟩ (.slice none 0 0)) o
          have hs : ((w1.setCell ⟨w.heap.size, 0, none⟩ (.slice none 0 0)).setCell ⟨w.heap.size, 1, none⟩ (.slice none 0 0)).heap.size = w1.heap.size := by simp
          rw [b.cell (p := ⟨w.heap.size, i, none⟩) (by show w.heap.size < _; omega), zz.cell hi]
          simp
        have HT := hide (And.intro (fun o => HT2 o 0 (by omega)) (fun o => HT2 o 1 (by omega)))
        clear HT2
        have HL : Hid (∀ o, Below w.heap.size w (((w1.setCell ⟨w.heap.size, 0, none⟩ (.slice none 0 0)).setCell ⟨w.heap.size, 1, none⟩ (.slice none 0 0)).alloc o)) := fun o => (below_set2 n1 (Nat.le_refl _)).alloc (below_set2 n1 (Nat.le_refl _)).size o
        have HG : Hid (∀ W, Below w.heap.size w W → GivesE (n + 1) lo RES (firstUp E m) w (.returned (.tuple #[.agg #[.slice none 0 0, .slice none 0 0], .int .i64 u])) W) := fun W h => (congrArg (fun t => GivesE (n + 1) lo RES (firstUp E m) w (.returned (.tuple #[.agg #[.slice none 0 0, .slice none 0 0], .int .i64 t])) W) HQ2.out).mp (HQ.out W h)
        clear HQ HQ2 n1 hnx hb1 z1
        go_wp2
        exact bodyPost_ret (v := .tuple #[.agg #[.slice none 0 0, .slice none 0 0], .int .i64 u]) (by simp [results, Tryd.results28, go_sem, HT.out.1, HT.out.2]) rfl (HG.out _ (HL.out _))
    · have hje : j = m := by omega
      subst hje
      have HQ := hide (HEND.out wr hnx H0.out hr)
      have y0 := hz.cell (i := 0) (by omega)
      have y1 := hz.cell (i := 1) (by omega)
      have g0 := hz.frozen 0
      have g1 := hz.frozen 1
      have HT := hide (set_two y0 y1 (.slice a1 k1 c1) (.slice (some ⟨w.heap.size + 1, 0, none⟩) j j))
      clear hr hz HBAD HEND HST HF HRM HRZ HB2 HS2
      go_wp2
      exact bodyPost_ret (v := .tuple #[.agg #[.slice a1 k1 c1, .slice (some ⟨w.heap.size + 1, 0, none⟩) j j], .int .i64 0]) (by simp [results, Tryd.results28, go_sem, HT.out.1, HT.out.2]) rfl HQ.out
set_option maxHeartbeats 4000000 in
theorem fillDy_any {lo : Nat} (n : Nat) (shape : List Int) (a1 : Option Addr) (k1 c1 : Nat) (V E : Nat → Int) (m : Nat) (hm : m ≤ 16384) (p q r : Value) (w : World) (hlo : lo ≤ w.heap.size) (hk : shape.length = k1) (R : Row lo w a1 shape)
    (hf : ∀ i, i < m → ∀ w', Below w.heap.size w w' → Calls Tryd.prog 44 #[.int .i64 (i : Int), p, q, r] w' fun e w'' => e = .returned (.tuple #[.agg #[.int .i64 0, .int .i64 (V i), .slice none 0 0], .int .i64 (E i)]) ∧ Below w'.heap.size w' w'') :
    Calls Tryd.prog 28 #[.slice a1 k1 c1, .int .i64 (m : Int), .func (.func 44) #[] #[p, q, r]] w fun e w' =>
      GivesE (n + 1) lo (if firstUp E m = 0 then .mk shape (numCs 0 ((List.range m).map V)) else .mk [] []) (firstUp E m) w e w' := by
  have HF := hide hf
  have mk := make_cells m (by omega)
  obtain ⟨W2, e2⟩ : ∃ W2, W2 = (w.alloc (.cells #[.slice none 0 0, .slice none 0 0] 25)).alloc (.cells (madeCells #[.int .i64 0, .int .i64 0, .slice none 0 0] (m * 3)) 35) := ⟨_, rfl⟩
  have B2 : Below w.heap.size w W2 := by rw [e2]; exact two_allocs _ _ _
  have s2 : W2.heap.size = w.heap.size + 2 := by rw [e2]; simp
  have RM : W2.rowIs (w.heap.size + 1) 35 (m * 3) (numF 0 ((List.range m).map V) 0) := by
    have := rowIs_made3 (w.alloc (.cells #[.slice none 0 0, .slice none 0 0] 25)) (m * 3)
    rw [e2]
    have s1 : (w.alloc (.cells #[.slice none 0 0, .slice none 0 0] 25)).heap.size = w.heap.size + 1 := by simp
    rw [s1] at this
    refine this.congr ?_
    intro i hi
    simp [numF]
  have RZ : W2.rowIs w.heap.size 25 2 (fun _ => .slice none 0 0) := by
    rw [e2]
    exact ⟨#[.slice none 0 0, .slice none 0 0], by show ((w.heap.push _).push _)[w.heap.size]? = _; simp [Array.getElem?_push], rfl, fun i hi => by
      match i, hi with
      | 0, _ => rfl
      | 1, _ => rfl⟩
  have HB2 := hide B2
  have HS2 := hide s2
  have HRM := hide RM
  have HRZ := hide RZ
  have HROW := hide (fun W (h : Below w.heap.size w W) => R.next h)
  have HEND : Hid (∀ W, Below w.heap.size w W → firstUp E m = 0 → W.rowIs (w.heap.size + 1) 35 (m * 3) (numF 0 ((List.range m).map V) m) → GivesE (n + 1) lo (if firstUp E m = 0 then .mk shape (numCs 0 ((List.range m).map V)) else .mk [] []) (firstUp E m) w (.returned (.tuple #[.agg #[.slice a1 k1 c1, .slice (some ⟨w.heap.size + 1, 0, none⟩) m m], .int .i64 0])) ((W.setCell ⟨w.heap.size, 0, none⟩ (.slice a1 k1 c1)).setCell ⟨w.heap.size, 1, none⟩ (.slice (some ⟨w.heap.size + 1, 0, none⟩) m m))) := by
    intro W hW h0 hr
    rw [if_pos h0, h0]
    refine ⟨⟨_, rfl, ?_⟩, below_set2 hW (Nat.le_refl _)⟩
    have hr' : (((W.setCell ⟨w.heap.size, 0, none⟩ (.slice a1 k1 c1)).setCell ⟨w.heap.size, 1, none⟩ (.slice (some ⟨w.heap.size + 1, 0, none⟩) m m))).rowIs (w.heap.size + 1) 35 (((List.range m).map V).length * 3) (numF 0 ((List.range m).map V) ((List.range m).map V).length) := by
      rw [vals_len]
      exact hr.of_block (by rw [Below.heap_setCell _ _ _ _ (by show w.heap.size + 1 ≠ w.heap.size; omega), Below.heap_setCell _ _ _ _ (by show w.heap.size + 1 ≠ w.heap.size; omega)])
    refine arIn_mk (n := n) ?_ ?_ (cellsIn_num 0 _ hr' (by omega)) hk (by simp [Ar.cells, numCs])
    · exact R.next (below_set2 hW (Nat.le_refl _))
    · show (numCs 0 ((List.range m).map V)).length ≤ _
      rw [numCs_len, vals_len]; omega
  have HBAD : Hid (∀ W, Below w.heap.size w W → firstUp E m ≠ 0 → GivesE (n + 1) lo (if firstUp E m = 0 then .mk shape (numCs 0 ((List.range m).map V)) else .mk [] []) (firstUp E m) w (.returned (.tuple #[.agg #[.slice none 0 0, .slice none 0 0], .int .i64 (firstUp E m)])) W) := by
    intro W hW h0
    rw [if_neg h0]
    exact ⟨⟨_, rfl, nil_arr _ _ _⟩, hW⟩
  have HST : Hid (∀ j, j < m → numF 0 ((List.range m).map V) (j + 1) = fun i => if i = j * 3 + 2 then .slice none 0 0 else if i = j * 3 + 1 then .int .i64 (V j) else if i = j * 3 then .int .i64 0 else numF 0 ((List.range m).map V) j i) := by
    intro j hj
    funext i
    rw [numF_step, vals_at V m j hj]
  generalize (if firstUp E m = 0 then Ar.mk shape (numCs 0 ((List.range m).map V)) else .mk [] []) = RES at *
  generalize numF 0 ((List.range m).map V) = NF at *
  clear hf R B2 s2 RM RZ hk
  go_enter Tryd.func28, Tryd.ntmps28
  go_wp2
  rw [← e2]
  clear e2 mk
  go_loopw [16] (fun i wr => ∃ j : Nat, j ≤ m ∧ i = .int .i64 (j : Int) ∧ Below w.heap.size w wr ∧ w.heap.size + 2 ≤ wr.heap.size ∧ wr.rowIs (w.heap.size + 1) 35 (m * 3) (NF j) ∧ wr.rowIs w.heap.size 25 2 (fun _ => .slice none 0 0) ∧ firstUp E j = 0) (fun i _ => m - (intOf i).toNat)
  case atStart => exact ⟨0, Nat.zero_le _, rfl, HB2.out, Nat.le_of_eq HS2.out.symm, HRM.out, HRZ.out, rfl⟩
  case round =>
    obtain ⟨j, hj, rfl, hnx, hsz, hr, hz, h0⟩ := hrel
    have H0 := hide h0
    clear h0
    by_cases hlt : j < m
    · have C := HF.out j hlt wr hnx
      have HR : Hid (E j ≠ 0 → firstUp E m = E j) := fun h => firstUp_hit H0.out h m hlt
      have HS : Hid (firstUp E (j + 1) = E j) := firstUp_step H0.out
      have HN := hide (HST.out j hlt)
      obtain ⟨u, hu⟩ : ∃ u, E j = u := ⟨_, rfl⟩
      rw [hu] at C HR HS
      clear hu
      generalize V j = v at *
      have HC := hide C
      clear C HST HF HRM HRZ HB2 HS2
      by_cases hu0 : u = 0
      · subst hu0
        go_wp2_with fail
        refine HC.out.mono ?_
        rintro e w1 ⟨rfl, hb1⟩
        have r1 : w1.rowIs (w.heap.size + 1) 35 (m * 3) (NF j) := hr.of_block (hb1.block _ (by omega))
        have z1 : w1.rowIs w.heap.size 25 2 (fun _ => .slice none 0 0) := hz.of_block (hb1.block _ (by omega))
        have n1 := hnx.trans (hb1.mono hnx.size)
        have s1 := Nat.le_trans hsz hb1.size
        have c0 := r1.cell (i := j * 3) (by omega)
        have c1' := r1.cell (i := j * 3 + 1) (by omega)
        have c2 := r1.cell (i := j * 3 + 2) (by omega)
        have f0 := r1.frozen (j * 3)
        have f1 := r1.frozen (j * 3 + 1)
        have f2 := r1.frozen (j * 3 + 2)
        have hzz : w.heap.size + 1 < w1.heap.size := by omega
        obtain ⟨W3, e3⟩ : ∃ W3, W3 = ((w1.setCell ⟨w.heap.size + 1, j * 3, none⟩ (.int .i64 0)).setCell ⟨w.heap.size + 1, j * 3 + 1, none⟩ (.int .i64 v)).setCell ⟨w.heap.size + 1, j * 3 + 2, none⟩ (.slice none 0 0) := ⟨_, rfl⟩
        have r3 : W3.rowIs (w.heap.size + 1) 35 (m * 3) (NF (j + 1)) := by
          have := ((r1.set (j * 3) (.int .i64 0)).set (j * 3 + 1) (.int .i64 v)).set (j * 3 + 2) (.slice none 0 0)
          rw [HN.out, e3]
          exact this
        have z3 : W3.rowIs w.heap.size 25 2 (fun _ => .slice none 0 0) := by
          rw [e3]
          exact z1.of_block (by rw [Below.heap_setCell _ _ _ _ (by show w.heap.size ≠ w.heap.size + 1; omega), Below.heap_setCell _ _ _ _ (by show w.heap.size ≠ w.heap.size + 1; omega), Below.heap_setCell _ _ _ _ (by show w.heap.size ≠ w.heap.size + 1; omega)])
        have n3 : Below w.heap.size w W3 := by
          rw [e3]
          exact ((n1.setCell (p := ⟨w.heap.size + 1, j * 3, none⟩) (by show w.heap.size ≤ w.heap.size + 1; omega) _).setCell (p := ⟨w.heap.size + 1, j * 3 + 1, none⟩) (by show w.heap.size ≤ w.heap.size + 1; omega) _).setCell (p := ⟨w.heap.size + 1, j * 3 + 2, none⟩) (by show w.heap.size ≤ w.heap.size + 1; omega) _
        have s3 : w.heap.size + 2 ≤ W3.heap.size := by
          have : W3.heap.size = w1.heap.size := by rw [e3]; simp
          omega
        have HFIN : Hid (∀ o, Below w.heap.size w (W3.alloc o) ∧ w.heap.size + 2 ≤ (W3.alloc o).heap.size ∧ (W3.alloc o).rowIs (w.heap.size + 1) 35 (m * 3) (NF (j + 1)) ∧ (W3.alloc o).rowIs w.heap.size 25 2 (fun _ => .slice none 0 0)) := by
          intro o
          have b := one_alloc W3 o
          exact ⟨n3.trans (b.mono n3.size), Nat.le_trans s3 b.size, r3.of_block (b.block _ (by omega)), z3.of_block (b.block _ (by omega))⟩
        clear hr hz r1 z1 n1 hnx hsz hb1 s1 HN r3 z3 n3 s3
        go_wp2
        rw [← e3]
        clear e3
        go_roundw
        case rel => exact ⟨j + 1, by omega, by go_num, (HFIN.out _).1, (HFIN.out _).2.1, (HFIN.out _).2.2.1, (HFIN.out _).2.2.2, HS.out⟩
        case measure => simp [intOf]; omega
      · have HU := hide hu0
        have HQ := hide (fun W (h : Below w.heap.size w W) => HBAD.out W h (by rw [HR.out HU.out]; exact HU.out))
        have HQ2 := hide (HR.out HU.out)
        go_wp2_with fail
        refine HC.out.mono ?_
        rintro e w1 ⟨rfl, hb1⟩
        have z1 : w1.rowIs w.heap.size 25 2 (fun _ => .slice none 0 0) := hz.of_block (hb1.block _ (by omega))
        have n1 := hnx.trans (hb1.mono hnx.size)
        have s1 := Nat.le_trans hsz hb1.size
        have hzz : w.heap.size < w1.heap.size := by omega
        have y0 := z1.cell (i := 0) (by omega)
        have y1 := z1.cell (i := 1) (by omega)
        have g0 := z1.frozen 0
        have g1 := z1.frozen 1
        clear hr hz HR HS HBAD HEND HN
        have HT2 : ∀ o i, i < 2 → (((w1.setCell ⟨w.heap.size, 0, none⟩ (.slice none 0 0)).setCell ⟨w.heap.size, 1, none⟩ (.slice none 0 0)).alloc o).cell? ⟨w.heap.size, i, none⟩ = some (.slice none 0 0) := by
          intro o i hi
          have zz := (z1.set 0 (.slice none 0 0)).set 1 (.slice none 0 0)
          have b := one_alloc ((w1.setCell ⟨w.heap.size, 0, none⟩ (.slice none 0 0)).setCell ⟨w.heap.size, 1, none⟩ (.slice none 0 0)) o
          have hs : ((w1.setCell ⟨w.heap.size, 0, none⟩ (.slice none 0 0)).setCell ⟨w.heap.size, 1, none⟩ (.slice none 0 0)).heap.size = w1.heap.size := by simp
          rw [b.cell (p := ⟨w.heap.size, i, none⟩) (by show w.heap.size < _; omega), zz.cell hi]
          simp
        have HT := hide (And.intro (fun o => HT2 o 0 (by omega)) (fun o => HT2 o 1 (by omega)))
        clear HT2
        have HL : Hid (∀ o, Below w.heap.size w (((w1.setCell ⟨w.heap.size, 0, none⟩ (.slice none 0 0)).setCell ⟨w.heap.size, 1, none⟩ (.slice none 0 0)).alloc o)) := fun o => (below_set2 n1 (Nat.le_refl _)).alloc (below_set2 n1 (Nat.le_refl _)).size o
        have HG : Hid (∀ W, Below w.heap.size w W → GivesE (n + 1) lo RES (firstUp E m) w (.returned (.tuple #[.agg #[.slice none 0 0, .slice none 0 0], .int .i64 u])) W) := fun W h => (congrArg (fun t => GivesE (n + 1) lo RES (firstUp E m) w (.returned (.tuple #[.agg #[.slice none 0 0, .slice none 0 0], .int .i64 t])) W) HQ2.out).mp (HQ.out W h)
        clear HQ HQ2 n1 hnx hb1 z1
        go_wp2
        exact bodyPost_ret (v := .tuple #[.agg #[.slice none 0 0, .slice none 0 0], .int .i64 u]) (by simp [results, Tryd.results28, go_sem, HT.out.1, HT.out.2]) rfl (HG.out _ (HL.out _))
    · have hje : j = m := by omega
      subst hje
      have HQ := hide (HEND.out wr hnx H0.out hr)
      have y0 := hz.cell (i := 0) (by omega)
      have y1 := hz.cell (i := 1) (by omega)
      have g0 := hz.frozen 0
      have g1 := hz.frozen 1
      have HT := hide (set_two y0 y1 (.slice a1 k1 c1) (.slice (some ⟨w.heap.size + 1, 0, none⟩) j j))
      clear hr hz HBAD HEND HST HF HRM HRZ HB2 HS2
      go_wp2
      exact bodyPost_ret (v := .tuple #[.agg #[.slice a1 k1 c1, .slice (some ⟨w.heap.size + 1, 0, none⟩) j j], .int .i64 0]) (by simp [results, Tryd.results28, go_sem, HT.out.1, HT.out.2]) rfl HQ.out
end Go.Proofs.YtkigfmfegldhcaaDoor
