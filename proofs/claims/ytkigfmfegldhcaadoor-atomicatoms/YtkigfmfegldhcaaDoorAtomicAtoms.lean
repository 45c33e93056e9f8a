/-
  For all int, all cells, all arrays and both sides the statement AtomicAtoms holds: an atom beside an array is as the array of that shape with that one cell all over; no condition (the given row speaks of what a machine of 64 bits can hold, and of the table of layer 4 as its text lays it).
-/
import Derived.Test.YtkigfmfegldhcaaDoorAtK
import Derived.Test.YtkigfmfegldhcaaDoorAtN
namespace Go.Proofs.YtkigfmfegldhcaaDoor.atomicAtoms
open Go.ChangeShapes Go.WideShapes Go.ChangeAt Go.RowKit
open Num (resV resE In64 sgnI absI)
set_option linter.unusedVariables false
theorem dy_ext {op : Int} {x y x' y' : Ar} (h1 : chkA 8 x = 0) (h2 : chkA 8 y = 0) (h3 : chkA 8 x' = 0) (h4 : chkA 8 y' = 0) (hE : agrE x.shape y.shape = agrE x'.shape y'.shape) (hL : agrL x.shape y.shape = agrL x'.shape y'.shape) (hN : dyN x y = dyN x' y') (hs : ∀ i, i < dyN x y → sideC x i = sideC x' i ∧ sideC y i = sideC y' i) : dyE op x y = dyE op x' y' ∧ dyA op x y = dyA op x' y' := by
  have e : dyE op x y = dyE op x' y' := by
    unfold dyE
    rw [h1, h2, h3, h4, hE, hN]
    congr 1
    rw [firstUp_congr (g := fun i => c2E op (sideC x' i) (sideC y' i)) fun i hi => by rw [(hs i (by rw [hN]; exact hi)).1, (hs i (by rw [hN]; exact hi)).2]]
  refine ⟨e, ?_⟩
  unfold dyA
  rw [e, hL]
  have : dyL op x y = dyL op x' y' := by
    unfold dyL
    rw [← hN]
    exact List.map_congr_left fun i hi => by rw [(hs i (List.mem_range.1 hi)).1, (hs i (List.mem_range.1 hi)).2]
  rw [this]
def oneA (c : Ce) : Ar := .mk [] [c]
def allA (c : Ce) (x : Ar) : Ar := .mk x.shape (List.replicate x.cells.length c)
theorem all_cells (c : Ce) (x : Ar) : (allA c x).cells = List.replicate x.cells.length c := rfl
theorem all_len (c : Ce) (x : Ar) : (allA c x).cells.length = x.cells.length := by rw [all_cells]; simp
theorem all_at (c : Ce) (x : Ar) {i : Nat} (hi : i < x.cells.length) : cAt (allA c x).cells i = c := by rw [all_cells]; simp [cAt, hi]
theorem one_cells (c : Ce) : (oneA c).cells = [c] := rfl
theorem one_shape (c : Ce) : (oneA c).shape = [] := rfl
theorem chk_cells {r : Nat} {x : Ar} (h : chkA r x = 0) : ¬ hasLong x.shape := by
  have key : ∀ f : Ar → Int, chkB f x = 0 → ¬ hasLong x.shape := by
    intro f hb
    unfold chkB at hb
    have h1 := (chk_size h).1
    have h2 := (chk_size h).2
    rw [if_neg (fun k => k h1), if_neg (fun k => k h2)] at hb
    intro h3
    rw [if_pos h3] at hb
    omega
  cases r with
  | zero => exact key _ h
  | succ r => exact key _ h
theorem chk_all {c : Ce} {x : Ar} (h : chkA 8 x = 0) (h1 : chkA 8 (oneA c) = 0) : chkA 8 (allA c x) = 0 := by
  have hc : chkC (chkA 7) c = 0 := by
    have hb : chkB (chkA 7) (oneA c) = 0 := h1
    unfold chkB at hb
    have s := chk_size h1
    rw [if_neg (fun k => k s.1), if_neg (fun k => k s.2), if_neg (chk_cells h1)] at hb
    exact firstUp_none hb 0 (by rw [one_cells]; exact Nat.zero_lt_one)
  show chkB (chkA 7) (allA c x) = 0
  unfold chkB
  have s := chk_size h
  have e := all_len c x
  have es : (allA c x).shape = x.shape := rfl
  rw [es, e, if_neg (fun k => k s.1), if_neg (fun k => k s.2), if_neg (chk_cells h)]
  refine firstUp_all fun i hi => ?_
  unfold chkF
  rw [all_at c x hi]
  exact hc
theorem side_one (c : Ce) (i : Nat) : sideC (oneA c) i = c := by simp [sideC, oneA, Ar.shape, Ar.cells, cAt]
theorem side_all {c : Ce} {x : Ar} {i : Nat} (hx : chkA 8 x = 0) (hi : i < x.cells.length) : sideC (allA c x) i = c := by
  unfold sideC
  split
  · exact all_at c x (by omega)
  · exact all_at c x hi
theorem dyN_one {c : Ce} {x : Ar} (hx : chkA 8 x = 0) : dyN x (oneA c) = x.cells.length ∧ dyN x (allA c x) = x.cells.length ∧ dyN (oneA c) x = x.cells.length ∧ dyN (allA c x) x = x.cells.length := by
  unfold dyN
  refine ⟨?_, ?_, ?_, ?_⟩
  · split
    · have := chk_atomic hx ‹_›; rw [one_cells, this]; rfl
    · rfl
  · split
    · exact all_len c x
    · rfl
  · rw [if_pos (one_shape c)]
  · split
    · rfl
    · exact all_len c x
theorem agr_one (s : List Int) : agrE s [] = 0 ∧ agrL s [] = s ∧ agrE s s = 0 ∧ agrL s s = s ∧ agrE [] s = 0 ∧ agrL [] s = s := by
  by_cases h : s = []
  · subst h; simp [agrE, agrL]
  · simp [agrE, agrL, h]
theorem dy_right {op : Int} {c : Ce} {x : Ar} (h : chkA 8 x = 0) (h1 : chkA 8 (oneA c) = 0) : dyE op x (allA c x) = dyE op x (oneA c) ∧ dyA op x (allA c x) = dyA op x (oneA c) := by
  have a := agr_one x.shape
  have n := dyN_one (c := c) h
  refine dy_ext h (chk_all h h1) h h1 ?_ ?_ (n.2.1.trans n.1.symm) fun i hi => ⟨rfl, ?_⟩
  · exact a.2.2.1.trans a.1.symm
  · exact a.2.2.2.1.trans a.2.1.symm
  · rw [side_one, side_all h (by rw [n.2.1] at hi; exact hi)]
theorem dy_left {op : Int} {c : Ce} {x : Ar} (h : chkA 8 x = 0) (h1 : chkA 8 (oneA c) = 0) : dyE op (allA c x) x = dyE op (oneA c) x ∧ dyA op (allA c x) x = dyA op (oneA c) x := by
  have a := agr_one x.shape
  have n := dyN_one (c := c) h
  refine dy_ext (chk_all h h1) h h1 h ?_ ?_ (n.2.2.2.trans n.2.2.1.symm) fun i hi => ⟨?_, rfl⟩
  · exact a.2.2.1.trans a.2.2.2.2.1.symm
  · exact a.2.2.2.1.trans a.2.2.2.2.2.symm
  · rw [side_one, side_all h (by rw [n.2.2.2] at hi; exact hi)]
/-- One cell put into an array. -/
theorem one_in {N lo : Nat} {w : World} {c : Ce} {z0 z1 : Int} {e2 : Option Addr} {BC m2 : Nat} (hc : CeIn (ArIn N lo w) lo w c (.int .i64 z0) (.int .i64 z1) (.slice e2 BC m2)) (hlo : lo ≤ w.heap.size) :
    ArIn (N + 1) lo (w.alloc (.cells #[.int .i64 z0, .int .i64 z1, .slice e2 BC m2] 35)) (oneA c) (.agg #[.slice none 0 0, .slice (some ⟨w.heap.size, 0, none⟩) 1 1]) := by
  refine arIn_mk (x := oneA c) (row_nil _ _ _) (by simp [oneA, Ar.cells]) ?_ rfl rfl
  refine Or.inr ⟨w.heap.size, 0, rfl, hlo, by simp, ?_⟩
  intro i hi
  have b := one_alloc w (.cells #[.int .i64 z0, .int .i64 z1, .slice e2 BC m2] 35)
  have hi' : i < 1 := hi
  obtain rfl : i = 0 := by omega
  exact ⟨_, _, _, cell_new0 w _ 35 0 _ rfl, cell_new0 w _ 35 1 _ rfl, cell_new0 w _ 35 2 _ rfl, hc.mono (Nat.le_refl _) b fun x v h => h.next b⟩
/-- The array with the one cell all over. -/
theorem all_in {N base : Nat} {w : World} {c : Ce} {x : Ar} {z0 z1 : Int} {e2 : Option Addr} {BC m2 : Nat} {a1 : Option Addr} {n1 c1 : Nat} {v : Value} (hl : x.cells.length ≤ 5864062014805) (R : Row 0 w a1 x.shape) (e1 : x.shape.length = n1) (hc : CeIn (ArIn N 0 w) 0 w c (.int .i64 z0) (.int .i64 z1) (.slice e2 BC m2))
    (h : w.ownsRow base 35 3 v x.cells.length (rowT (fun _ => (.int .i64 z0, .int .i64 z1, .slice e2 BC m2)) x.cells.length)) :
    ∃ a2 cap, v = .slice a2 x.cells.length cap ∧ ArIn (N + 1) 0 w (allA c x) (.agg #[.slice a1 n1 c1, .slice a2 x.cells.length cap]) := by
  obtain ⟨a2, cap, hv, hcc⟩ := owns_cellsT _ h
  refine ⟨a2, cap, hv, arIn_mk (x := allA c x) R (by rw [all_len]; exact hl) ?_ e1 (all_len c x)⟩
  have e := all_len c x
  rcases hcc with h0 | ⟨g, ha, hb, hg, hcell⟩
  · exact Or.inl (List.eq_nil_of_length_eq_zero (e.trans h0))
  · refine Or.inr ⟨g, 0, ha, Nat.zero_le _, hg, fun i hi => ?_⟩
    rw [e] at hi
    obtain ⟨q0, q1, q2⟩ := hcell i hi
    rw [Nat.zero_add, all_at c x hi]
    exact ⟨_, _, _, q0, q1, q2, hc⟩
theorem snd_one {c : Ce} (h : SndC c) : Snd (oneA c) := Snd.of (by simp) fun d hd => by
  simp only [List.mem_cons, List.not_mem_nil, or_false] at hd
  subst hd; exact h
theorem snd_all {c : Ce} {x : Ar} (h : SndC c) (hx : Snd x) : Snd (allA c x) := Snd.of (fun z hz => hx.axis hz) fun d hd => by
  obtain ⟨-, rfl⟩ := List.mem_replicate.1 hd
  exact h
theorem pair_row (W : World) (u v : Value) : (W.alloc (.cells #[u, v] 25)).rowIs W.heap.size 25 2 (fun i => if i = 0 then u else v) :=
  ⟨#[u, v], by show (W.heap.push _)[W.heap.size]? = _; simp, rfl, fun i hi => by
    match i, hi with
    | 0, _ => rfl
    | 1, _ => rfl⟩
theorem two_read' {w : World} {s : Nat} {F : Nat → Value} (h : w.rowIs s 25 2 F) (u v : Value) : ((w.setCell ⟨s, 0, none⟩ u).setCell ⟨s, 1, none⟩ v).cell? ⟨s, 0, none⟩ = some u ∧ ((w.setCell ⟨s, 0, none⟩ u).setCell ⟨s, 1, none⟩ v).cell? ⟨s, 1, none⟩ = some v := by
  have zz := (h.set 0 u).set 1 v
  exact ⟨by rw [zz.cell (by omega)]; simp, by rw [zz.cell (by omega)]; simp⟩
set_option maxRecDepth 20000 in
set_option maxHeartbeats 16000000 in
theorem walk1 (op : Int) (n : Nat) (c : Ce) (r0 r1 r2 : Value) (x : Ar) (c0 c1 : Value) (left : Bool) (w : World) (T : Tab w) (hc : CeIn (ArIn (n + 1) 0 w) 0 w c r0 r1 r2) (sc : SndC c) (hx : ArIn (n + 1) 0 w x (.agg #[c0, c1])) (sx : Snd x) :
    Calls Tryd.prog 8 #[.int .i64 op, .agg #[r0, r1, r2], .agg #[c0, c1], .bool left] w fun e w' => e = .returned (.bool true) ∧ Below w.heap.size w w' := by
  have hc' := hc
  obtain ⟨rfl, rfl, e2, m2, rfl, -⟩ := hc'
  obtain ⟨a1, k1, a2, k2, hv⟩ := hx.form
  simp only [Value.agg.injEq, Array.mk.injEq, List.cons.injEq, and_true] at hv
  obtain ⟨rfl, rfl⟩ := hv
  obtain ⟨-, -, hRx, hlx, -⟩ := cells_of hx
  obtain ⟨W2, eW⟩ : ∃ W2, W2 = (w.alloc (.cells #[.int .i64 c.1, .int .i64 c.2.1, .slice e2 c.2.2.length m2] 35)).alloc (.cells #[.slice a1 x.shape.length k1, .slice a2 x.cells.length k2] 25) := ⟨_, rfl⟩
  have B2 : Below w.heap.size w W2 := by rw [eW]; exact two_allocs _ _ _
  have s2 : W2.heap.size = w.heap.size + 2 := by rw [eW]; exact size_two _ _ _
  have KS : Hid (∀ W, Below W2.heap.size W2 W → (W.cell? ⟨w.heap.size, 0, none⟩ = some (.int .i64 c.1) ∧ W.cell? ⟨w.heap.size, 1, none⟩ = some (.int .i64 c.2.1) ∧ W.cell? ⟨w.heap.size, 2, none⟩ = some (.slice e2 c.2.2.length m2)) ∧ W.cell? ⟨w.heap.size + 1, 0, none⟩ = some (.slice a1 x.shape.length k1) ∧ W.cell? ⟨w.heap.size + 1, 1, none⟩ = some (.slice a2 x.cells.length k2)) := by
    intro W h
    have t1 : ∀ i v, #[Value.int .i64 c.1, .int .i64 c.2.1, .slice e2 c.2.2.length m2][i]? = some v → W.cell? ⟨w.heap.size, i, none⟩ = some v := fun i v hv => (h.cell (p := ⟨w.heap.size, i, none⟩) (by show w.heap.size < _; omega)).trans (by rw [eW]; exact cell_new1 w _ 35 (0, 0) _ i _ hv)
    have t2 : ∀ i v, #[Value.slice a1 x.shape.length k1, .slice a2 x.cells.length k2][i]? = some v → W.cell? ⟨w.heap.size + 1, i, none⟩ = some v := fun i v hv => (h.cell (p := ⟨w.heap.size + 1, i, none⟩) (by show w.heap.size + 1 < _; omega)).trans (by rw [eW]; exact cell_new2 w _ 25 (0, 0) _ i _ hv)
    exact ⟨⟨t1 0 _ rfl, t1 1 _ rfl, t1 2 _ rfl⟩, t2 0 _ rfl, t2 1 _ rfl⟩
  have HB := hide (fun W (h : Below W2.heap.size W2 W) => B2.trans (h.mono B2.size))
  have HX : Hid (∀ W, Below w.heap.size w W → ArIn (n + 1) 0 W x (.agg #[.slice a1 x.shape.length k1, .slice a2 x.cells.length k2])) := fun W h => hx.next h
  have HC : Hid (∀ W, Below w.heap.size w W → CeIn (ArIn (n + 1) 0 W) 0 W c (.int .i64 c.1) (.int .i64 c.2.1) (.slice e2 c.2.2.length m2)) := fun W h => hc.mono (Nat.le_refl _) h fun x v hv => hv.next h
  have HO : Hid (∀ W, Below w.heap.size w W → ArIn (n + 1 + 1) 0 (W.alloc (.cells #[.int .i64 c.1, .int .i64 c.2.1, .slice e2 c.2.2.length m2] 35)) (oneA c) (.agg #[.slice none 0 0, .slice (some ⟨W.heap.size, 0, none⟩) 1 1])) := fun W h => one_in (HC.out W h) (Nat.zero_le _)
  have HALL : Hid (∀ W v base, Below w.heap.size w W → W.ownsRow base 35 3 v x.cells.length (rowT (fun _ => (.int .i64 c.1, .int .i64 c.2.1, .slice e2 c.2.2.length m2)) x.cells.length) → ∃ a2' cap, v = .slice a2' x.cells.length cap ∧ ArIn (n + 1 + 1) 0 W (allA c x) (.agg #[.slice a1 x.shape.length k1, .slice a2' x.cells.length cap])) := fun W v base h hown => all_in hlx ((hRx.next h).low (Nat.zero_le _)) rfl (HC.out W h) hown
  have HT := hide (fun W (h : Below w.heap.size w W) => T.next h)
  have HSC := hide sc
  have HSX := hide sx
  have HS2 := hide s2
  have HC16 : Hid (chkA 8 x = 0 → x.cells.length ≤ 16384) := fun h => by obtain ⟨-, -, -, h1, -⟩ := chk_ok h; exact h1
  clear hx T B2 s2 sx sc hc HC hRx hlx
  generalize x.shape.length = SA at *
  generalize x.cells.length = CA at *
  generalize c.1 = k0 at *
  generalize c.2.1 = z0 at *
  generalize c.2.2.length = BC at *
  go_enter Tryd.func8, Tryd.ntmps8
  go_wp2_with fail
  rw [← eW]
  clear eW
  have J := Below.refl W2.heap.size W2
  refine (light_any (HX.out _ (HB.out _ J))).mono ?_
  rintro e t0 ⟨⟨r, rfl, -⟩, hb⟩
  replace J := J.trans (hb.mono J.size)
  clear hb
  cases r with
  | false =>
    have B := HB.out _ J
    clear KS HX HB HO HALL HC16
    go_wp2_with fail
    refine (works_any _ (HT.out _ B)).mono ?_
    rintro e w9 ⟨rfl, hb9⟩
    go_wp2
    go_ret
    exact ⟨rfl, B.trans (hb9.mono B.size)⟩
  | true =>
  obtain ⟨⟨q0, q1, q2⟩, q3, q4⟩ := KS.out _ J
  have CL := light_any (HO.out _ (HB.out _ J))
  go_wp2_with fail
  clear q0 q1 q2 q3 q4
  refine CL.mono ?_
  rintro e t1 ⟨⟨r, rfl, -⟩, hb⟩
  replace J := J.trans ((after1 hb).mono J.size)
  clear hb CL
  cases r with
  | false =>
    have B := HB.out _ J
    clear KS HX HB HO HALL HC16
    go_wp2_with fail
    refine (works_any _ (HT.out _ B)).mono ?_
    rintro e w9 ⟨rfl, hb9⟩
    go_wp2
    go_ret
    exact ⟨rfl, B.trans (hb9.mono B.size)⟩
  | true =>
  obtain ⟨⟨q0, q1, q2⟩, q3, q4⟩ := KS.out _ J
  have C := rcheck_any (n + 1) x _ _ _ (HX.out _ (HB.out _ J))
  by_cases hk : chkA 8 x = 0
  case neg =>
    generalize chkA 8 x = E at *
    have hE : (E == 0) = false := beq_eq_false_iff_ne.2 hk
    go_wp2_with fail
    clear q0 q1 q2 q3 q4
    refine C.mono ?_
    rintro e t2 ⟨rfl, hb⟩
    replace J := J.trans (hb.mono J.size)
    clear hb C
    have B := HB.out _ J
    clear KS HX HB HO HALL HC16
    go_wp2_with fail
    refine (works_any _ (HT.out _ B)).mono ?_
    rintro e w9 ⟨rfl, hb9⟩
    go_wp2
    go_ret
    exact ⟨rfl, B.trans (hb9.mono B.size)⟩
  case pos =>
  rw [hk] at C
  have hCA := HC16.out hk
  go_wp2_with fail
  clear q0 q1 q2 q3 q4
  refine C.mono ?_
  rintro e t2 ⟨rfl, hb⟩
  replace J := J.trans (hb.mono J.size)
  clear hb C HC16
  obtain ⟨⟨q0, q1, q2⟩, q3, q4⟩ := KS.out _ J
  have J3 := J.trans ((two_allocs t2 (.cells #[.int .i64 k0, .int .i64 z0, .slice e2 BC m2] 35) (.cells #[.slice none 0 0, .slice (some ⟨t2.heap.size, 0, none⟩) 1 1] 25)).mono J.size)
  obtain ⟨-, q5, -⟩ := KS.out _ J3
  have s3 := size_two t2 (.cells #[.int .i64 k0, .int .i64 z0, .slice e2 BC m2] 35) (.cells #[.slice none 0 0, .slice (some ⟨t2.heap.size, 0, none⟩) 1 1] 25)
  obtain ⟨W4, e4⟩ : ∃ W4, W4 = ((t2.alloc (.cells #[.int .i64 k0, .int .i64 z0, .slice e2 BC m2] 35)).alloc (.cells #[.slice none 0 0, .slice (some ⟨t2.heap.size, 0, none⟩) 1 1] 25)).alloc (.cells #[.slice a1 SA k1, .slice none 0 0] 25) := ⟨_, rfl⟩
  have b4 : Below t2.heap.size t2 W4 := by rw [e4]; exact three_allocs _ _ _ _
  have s4 : W4.heap.size = t2.heap.size + 3 := by rw [e4]; exact size_three _ _ _ _
  have J4 := J.trans (b4.mono J.size)
  have v0 : ∀ i v, #[Value.slice none 0 0, .slice (some ⟨t2.heap.size, 0, none⟩) 1 1][i]? = some v → W4.cell? ⟨t2.heap.size + 1, i, none⟩ = some v := by
    intro i v hv
    rw [e4]
    exact ((one_alloc _ _).cell (p := ⟨t2.heap.size + 1, i, none⟩) (by rw [s3]; show t2.heap.size + 1 < _; omega)).trans (cell_new2 t2 _ 25 (0, 0) _ i _ hv)
  have z4 : W4.rowIs (t2.heap.size + 2) 25 2 (fun i => if i = 0 then .slice a1 SA k1 else .slice none 0 0) := by
    rw [e4, ← s3]
    exact pair_row _ _ _
  have hO := HO.out t2 (HB.out _ J)
  have HONE : Hid (∀ W, Below (t2.heap.size + 2) W4 W → ArIn (n + 1 + 1) 0 W (oneA c) (.agg #[.slice none 0 0, .slice (some ⟨t2.heap.size, 0, none⟩) 1 1])) := by
    intro W h
    have bo : Below (t2.alloc (.cells #[.int .i64 k0, .int .i64 z0, .slice e2 BC m2] 35)).heap.size (t2.alloc (.cells #[.int .i64 k0, .int .i64 z0, .slice e2 BC m2] 35)) W4 := by rw [e4]; exact two_allocs _ _ _
    exact hO.next (bo.trans (h.mono (by simp)))
  have HST : Hid (Grows W4 (t2.heap.size + 2) (.slice a1 SA k1) (fun _ => (.int .i64 k0, .int .i64 z0, .slice e2 BC m2)) 0 (.slice none 0 0) W4) :=
    ⟨Nat.le_refl _, fun _ _ _ => rfl, by rw [z4.cell (by omega)]; rfl, by rw [z4.cell (by omega)]; rfl, z4.frozen 1, World.ownsRow_nil _ _ _ _⟩
  have HO4 : Hid (t2.heap.size + 2 < W4.heap.size) := by show _ < _; omega
  have HJ4 := hide (Below.refl (t2.heap.size + 2) W4)
  have HV0 := hide v0
  have HJT := hide J4
  have HJ2 := hide J
  have hsz2 := J.size
  have HLT : Hid (w.heap.size + 1 < t2.heap.size) := by have := HS2.out; show _ < _; omega
  obtain ⟨i0, hi, hz0, hz1, hz2⟩ := info33'
  clear b4 s4 J4 v0 z4 hO J3 s3 HO HS2
  go_wp2_with fail
  rw [← e4]
  clear e4 q0 q1 q2 q3 q4 q5
  go_loopw [11] (fun i wr => ∃ (j : Nat) (v : Value), j ≤ CA ∧ i = .int .i64 (j : Int) ∧ Below (t2.heap.size + 2) W4 wr ∧ Grows W4 (t2.heap.size + 2) (.slice a1 SA k1) (fun _ => (.int .i64 k0, .int .i64 z0, .slice e2 BC m2)) j v wr) (fun i _ => CA - (intOf i).toNat)
  case atStart => exact ⟨0, _, Nat.zero_le _, rfl, HJ4.out, HST.out⟩
  case round =>
    clear HST HJ4
    obtain ⟨j, v, hj, rfl, hnx, hgr⟩ := hrel
    have hlt2 := HLT.out
    have g : ∀ b i u, b < t2.heap.size → W4.cell? ⟨b, i, none⟩ = some u → wr.cell? ⟨b, i, none⟩ = some u := fun b i u hb hu => (hnx.cell (p := ⟨b, i, none⟩) (by show b < _; omega)).trans hu
    obtain ⟨⟨q0, q1, q2⟩, q3, q4⟩ := KS.out _ HJT.out
    have p0 := g _ _ _ (by omega) q0
    have p1 := g _ _ _ (by omega) q1
    have p2 := g _ _ _ (by omega) q2
    have p4 := g _ _ _ (by omega) q4
    have v0' : wr.cell? ⟨t2.heap.size + 1, 0, none⟩ = some (.slice none 0 0) := (hnx.cell (p := ⟨t2.heap.size + 1, 0, none⟩) (by show t2.heap.size + 1 < _; omega)).trans (HV0.out 0 _ rfl)
    have v1' : wr.cell? ⟨t2.heap.size + 1, 1, none⟩ = some (.slice (some ⟨t2.heap.size, 0, none⟩) 1 1) := (hnx.cell (p := ⟨t2.heap.size + 1, 1, none⟩) (by show t2.heap.size + 1 < _; omega)).trans (HV0.out 1 _ rfl)
    clear q0 q1 q2 q3 q4 g
    by_cases hlt : j < CA
    · have c1' := hgr.c1
      have f1' := hgr.f1
      have hsz := hgr.size
      have o6 : t2.heap.size + 2 < wr.heap.size := Nat.lt_of_lt_of_le HO4.out hgr.size
      have hg8 := hgr.next HO4.out (one_alloc wr (.cells #[.int .i64 k0, .int .i64 z0, .slice e2 BC m2] 35))
      have OWN8 := hg8.own
      have HG8 := hide hg8
      have HN8 : Hid (Below (t2.heap.size + 2) W4 (wr.alloc (.cells #[.int .i64 k0, .int .i64 z0, .slice e2 BC m2] 35))) := hnx.alloc (by omega) _
      have HZ8 := hide (Nat.le_trans hsz (one_alloc wr (.cells #[.int .i64 k0, .int .i64 z0, .slice e2 BC m2] 35)).size)
      have HN : Hid (rowT (fun _ => (Value.int .i64 k0, Value.int .i64 z0, Value.slice e2 BC m2)) (j + 1) = rowT (fun _ => (.int .i64 k0, .int .i64 z0, .slice e2 BC m2)) j ++ [.int .i64 k0, .int .i64 z0, .slice e2 BC m2]) := rowT_step _ _
      have HNW : Hid (∀ i u, [Value.int .i64 k0, .int .i64 z0, .slice e2 BC m2][i]? = some u → (wr.alloc (.cells #[.int .i64 k0, .int .i64 z0, .slice e2 BC m2] 35)).cell? ((⟨wr.heap.size, 0, none⟩ : Addr).add i) = some u) := by
        intro i u hu
        rw [add_off, Nat.zero_add]
        exact cell_new0 wr _ 35 i u (by simpa using hu)
      have HNC : Hid (∀ u ∈ [Value.int .i64 k0, .int .i64 z0, .slice e2 BC m2], u.oneCell' = true) := by
        intro u hu
        simp at hu
        rcases hu with rfl | rfl | rfl <;> rfl
      clear hg8 hgr hnx hsz
      go_wp2_with (at_builtin; refine wpList_append_B rfl _ _ 23 rfl W4.heap.size 35 i0 (.agg #[.int .i64 0, .int .i64 0, .slice none 0 0]) 3 40 Tryd.underlying23 hi hz0 hz1 hz2 rfl (by decide) _ _ _ rfl OWN8 ⟨wr.heap.size, 0, none⟩ 1 1 [.int .i64 k0, .int .i64 z0, .slice e2 BC m2] rfl rfl HNW.out HNC.out ?c3 ?c4 HZ8.out ?_)
      case c3 => unfold maxLen; omega
      case c4 => omega
      intro v' w9 hown9 hb9
      obtain ⟨g', cp, rfl, -⟩ := owns_form hown9 (Nat.succ_pos j)
      have hown9' : w9.ownsRow W4.heap.size 35 3 (.slice (some ⟨g', 0, none⟩) (j + 1) cp) (j + 1) (rowT (fun _ => (.int .i64 k0, .int .i64 z0, .slice e2 BC m2)) (j + 1)) := by rw [HN.out]; exact hown9
      have HF := hide (HG8.out.step HO4.out hb9 hown9')
      have HFB := hide ((HN8.out.trans (hb9.mono (Nat.le_of_lt HO4.out))).setCell (p := ⟨t2.heap.size + 2, 1, none⟩) (Nat.le_refl _) (.slice (some ⟨g', 0, none⟩) (j + 1) cp))
      have c9 : w9.cell? ⟨t2.heap.size + 2, 1, none⟩ = some v := (hb9.cell (p := ⟨t2.heap.size + 2, 1, none⟩) HO4.out).trans HG8.out.c1
      have f9 : w9.frozen? ⟨t2.heap.size + 2, 1, none⟩ = false := (hb9.frozen (p := ⟨t2.heap.size + 2, 1, none⟩) HO4.out).trans HG8.out.f1
      clear hown9 hown9' hb9 HG8 HN8 HZ8 HNW OWN8 c1' f1' HN p0 p1 p2 p4
      go_wp2
      go_roundw
      case rel => exact ⟨j + 1, _, by omega, by go_num, HFB.out, HF.out⟩
      case measure => simp [intOf]; omega
    · have hje : j = CA := by omega
      subst hje
      have hw1 := HT.out
      have JW : Below W2.heap.size W2 wr := HJT.out.trans (hnx.mono (by omega))
      have bwr := HB.out _ JW
      obtain ⟨a2', cp, rfl, hall⟩ := HALL.out wr v _ bwr hgr.own
      have hone := HONE.out wr hnx
      have C := rcheck_any _ (oneA c) _ _ wr hone
      have HA1 : ∀ W, Below wr.heap.size wr W → ArIn (n + 1) 0 W x (.agg #[.slice a1 SA k1, .slice a2 j k2]) := fun W h => HX.out W (bwr.trans (h.mono bwr.size))
      have HA2 : ∀ W, Below wr.heap.size wr W → ArIn (n + 1 + 1) 0 W (oneA c) (.agg #[.slice none 0 0, .slice (some ⟨t2.heap.size, 0, none⟩) 1 1]) := fun W h => hone.next h
      have HA3 : ∀ W, Below wr.heap.size wr W → ArIn (n + 1 + 1) 0 W (allA c x) (.agg #[.slice a1 SA k1, .slice a2' j cp]) := fun W h => hall.next h
      have o6 : t2.heap.size + 2 < wr.heap.size := Nat.lt_of_lt_of_le HO4.out hgr.size
      have gc0 := hgr.c0
      have gc1 := hgr.c1
      have HK5 : Hid (∀ W, Below wr.heap.size wr W → (W.cell? ⟨w.heap.size + 1, 0, none⟩ = some (.slice a1 SA k1) ∧ W.cell? ⟨w.heap.size + 1, 1, none⟩ = some (.slice a2 j k2)) ∧ (W.cell? ⟨t2.heap.size + 1, 0, none⟩ = some (.slice none 0 0) ∧ W.cell? ⟨t2.heap.size + 1, 1, none⟩ = some (.slice (some ⟨t2.heap.size, 0, none⟩) 1 1)) ∧ W.cell? ⟨t2.heap.size + 2, 0, none⟩ = some (.slice a1 SA k1) ∧ W.cell? ⟨t2.heap.size + 2, 1, none⟩ = some (.slice a2' j cp)) := by
        intro W h
        have tt : ∀ b i u, b < wr.heap.size → wr.cell? ⟨b, i, none⟩ = some u → W.cell? ⟨b, i, none⟩ = some u := fun b i u hb hu => (h.cell (p := ⟨b, i, none⟩) hb).trans hu
        exact ⟨(KS.out _ (JW.trans (h.mono JW.size))).2, ⟨tt _ _ _ (by omega) v0', tt _ _ _ (by omega) v1'⟩, tt _ _ _ (by omega) gc0, tt _ _ _ (by omega) gc1⟩
      have HBW := hide (fun W (h : Below wr.heap.size wr W) => bwr.trans (h.mono bwr.size))
      clear hgr hall hone hw1 gc0 gc1 p0 p1 p2 HV0 HJT HJ2 KS HALL HONE HX HB hnx JW
      by_cases hk1 : chkA 8 (oneA c) = 0
      case neg =>
        generalize chkA 8 (oneA c) = E at *
        have hE : (E == 0) = false := beq_eq_false_iff_ne.2 hk1
        go_wp2_with fail
        refine C.mono ?_
        rintro e t3 ⟨rfl, hb⟩
        have B := HBW.out _ hb
        clear HK5 HBW v0' v1' p4 C HA1 HA2 HA3
        go_wp2_with fail
        refine (works_any _ (HT.out _ B)).mono ?_
        rintro e w9 ⟨rfl, hb9⟩
        go_wp2
        go_ret
        exact ⟨rfl, B.trans (hb9.mono B.size)⟩
      case pos =>
      rw [hk1] at C
      have HCC := hide C
      clear C
      have D1 : Hid (∀ W, Below wr.heap.size wr W → Calls Tryd.prog 18 #[.int .i64 op, .agg #[.slice a1 SA k1, .slice a2 j k2], .agg #[.slice none 0 0, .slice (some ⟨t2.heap.size, 0, none⟩) 1 1]] W fun e w' => (∃ g1 m1 g2 m2 g3 m3, e = .returned (.tuple #[.agg #[.slice g1 m1 g2, .slice m2 g3 m3], .int .i64 (dyE op x (oneA c))]) ∧ ArIn 1 W.heap.size w' (dyA op x (oneA c)) (.agg #[.slice g1 m1 g2, .slice m2 g3 m3])) ∧ Below W.heap.size W w') := by
        intro W h
        have := dy_any 0 _ _ 0 0 op (x) (oneA c) _ _ W (HT.out _ (bwr.trans (h.mono bwr.size))) (HA1 W h) (HA2 W h) HSX.out (snd_one HSC.out)
        skip
        refine this.mono ?_
        rintro e w' ⟨⟨v, rfl, hv⟩, hb⟩
        obtain ⟨g1, g2, m2, m3, rfl⟩ := hv.form
        exact ⟨⟨_, _, _, _, _, _, rfl, hv⟩, hb⟩
      have D2 : Hid (∀ W, Below wr.heap.size wr W → Calls Tryd.prog 18 #[.int .i64 op, .agg #[.slice a1 SA k1, .slice a2 j k2], .agg #[.slice a1 SA k1, .slice a2' j cp]] W fun e w' => (∃ g1 m1 g2 m2 g3 m3, e = .returned (.tuple #[.agg #[.slice g1 m1 g2, .slice m2 g3 m3], .int .i64 (dyE op x (oneA c))]) ∧ ArIn 1 W.heap.size w' (dyA op x (oneA c)) (.agg #[.slice g1 m1 g2, .slice m2 g3 m3])) ∧ Below W.heap.size W w') := by
        intro W h
        have := dy_any 0 _ _ 0 0 op (x) (allA c x) _ _ W (HT.out _ (bwr.trans (h.mono bwr.size))) (HA1 W h) (HA3 W h) HSX.out (snd_all HSC.out HSX.out)
        rw [(dy_right hk hk1).1, (dy_right hk hk1).2] at this
        refine this.mono ?_
        rintro e w' ⟨⟨v, rfl, hv⟩, hb⟩
        obtain ⟨g1, g2, m2, m3, rfl⟩ := hv.form
        exact ⟨⟨_, _, _, _, _, _, rfl, hv⟩, hb⟩
      have D3 : Hid (∀ W, Below wr.heap.size wr W → Calls Tryd.prog 18 #[.int .i64 op, .agg #[.slice none 0 0, .slice (some ⟨t2.heap.size, 0, none⟩) 1 1], .agg #[.slice a1 SA k1, .slice a2 j k2]] W fun e w' => (∃ g1 m1 g2 m2 g3 m3, e = .returned (.tuple #[.agg #[.slice g1 m1 g2, .slice m2 g3 m3], .int .i64 (dyE op (oneA c) x)]) ∧ ArIn 1 W.heap.size w' (dyA op (oneA c) x) (.agg #[.slice g1 m1 g2, .slice m2 g3 m3])) ∧ Below W.heap.size W w') := by
        intro W h
        have := dy_any 0 _ _ 0 0 op (oneA c) (x) _ _ W (HT.out _ (bwr.trans (h.mono bwr.size))) (HA2 W h) (HA1 W h) (snd_one HSC.out) HSX.out
        skip
        refine this.mono ?_
        rintro e w' ⟨⟨v, rfl, hv⟩, hb⟩
        obtain ⟨g1, g2, m2, m3, rfl⟩ := hv.form
        exact ⟨⟨_, _, _, _, _, _, rfl, hv⟩, hb⟩
      have D4 : Hid (∀ W, Below wr.heap.size wr W → Calls Tryd.prog 18 #[.int .i64 op, .agg #[.slice a1 SA k1, .slice a2' j cp], .agg #[.slice a1 SA k1, .slice a2 j k2]] W fun e w' => (∃ g1 m1 g2 m2 g3 m3, e = .returned (.tuple #[.agg #[.slice g1 m1 g2, .slice m2 g3 m3], .int .i64 (dyE op (oneA c) x)]) ∧ ArIn 1 W.heap.size w' (dyA op (oneA c) x) (.agg #[.slice g1 m1 g2, .slice m2 g3 m3])) ∧ Below W.heap.size W w') := by
        intro W h
        have := dy_any 0 _ _ 0 0 op (allA c x) (x) _ _ W (HT.out _ (bwr.trans (h.mono bwr.size))) (HA3 W h) (HA1 W h) (snd_all HSC.out HSX.out) HSX.out
        rw [(dy_left hk hk1).1, (dy_left hk hk1).2] at this
        refine this.mono ?_
        rintro e w' ⟨⟨v, rfl, hv⟩, hb⟩
        obtain ⟨g1, g2, m2, m3, rfl⟩ := hv.form
        exact ⟨⟨_, _, _, _, _, _, rfl, hv⟩, hb⟩
      generalize dyE op x (oneA c) = E at *
      generalize dyA op x (oneA c) = RA at *
      generalize dyE op (oneA c) x = E' at *
      generalize dyA op (oneA c) x = RA' at *
      clear HSX HSC hk hk1 HA1 HA2 HA3 bwr HLT HO4
      go_wp2_with fail
      clear v0' v1' p4
      refine HCC.out.mono ?_
      rintro e t3 ⟨rfl, J⟩
      clear HCC
      obtain ⟨⟨q0, q1⟩, ⟨q2, q3⟩, q4, q5⟩ := HK5.out _ J
      go_wp2_with fail
      clear q0 q1 q2 q3 q4 q5
      refine (D1.out _ J).mono ?_
      rintro e w4 ⟨⟨g1, m1, g2, m3, g3, m4, rfl, hv4⟩, hb4⟩
      obtain ⟨W5, e5⟩ : ∃ W5, W5 = w4.alloc (.cells #[.slice g1 m1 g2, .slice m3 g3 m4] 25) := ⟨_, rfl⟩
      have b5 : Below w4.heap.size w4 W5 := by rw [e5]; exact one_alloc _ _
      have s5 : W5.heap.size = w4.heap.size + 1 := by rw [e5]; simp
      have J4 := J.trans (hb4.mono J.size)
      have J5 := J4.trans (b5.mono J4.size)
      have z5 : W5.rowIs w4.heap.size 25 2 (fun i => if i = 0 then .slice g1 m1 g2 else .slice m3 g3 m4) := by rw [e5]; exact pair_row _ _ _
      obtain ⟨⟨q0, q1⟩, ⟨q2, q3⟩, q4, q5⟩ := HK5.out _ J5
      rw [e5] at q0 q1 q2 q3 q4 q5
      go_wp2_with fail
      rw [← e5]
      clear q0 q1 q2 q3 q4 q5 e5
      refine (D2.out _ J5).mono ?_
      rintro e w6 ⟨⟨h1, i1, h2, i2, h3, i3, rfl, hv6⟩, hb6⟩
      obtain ⟨W7, e7⟩ : ∃ W7, W7 = w6.alloc (.cells #[.slice h1 i1 h2, .slice i2 h3 i3] 25) := ⟨_, rfl⟩
      have b7 : Below w6.heap.size w6 W7 := by rw [e7]; exact one_alloc _ _
      have s7 : W7.heap.size = w6.heap.size + 1 := by rw [e7]; simp
      have z7 : W7.rowIs w6.heap.size 25 2 (fun i => if i = 0 then .slice h1 i1 h2 else .slice i2 h3 i3) := by rw [e7]; exact pair_row _ _ _
      have b57 := hb6.trans (b7.mono hb6.size)
      have z57 : W7.rowIs w4.heap.size 25 2 (fun i => if i = 0 then .slice g1 m1 g2 else .slice m3 g3 m4) := z5.of_block (b57.block _ (by omega))
      have J7 := J5.trans (b57.mono J5.size)
      have s67 := hb6.size
      cases left with
      | false =>
        have x0 : W7.cell? ⟨w4.heap.size, 0, none⟩ = some (.slice g1 m1 g2) := by rw [z57.cell (by omega)]; rfl
        have x1 : W7.cell? ⟨w4.heap.size, 1, none⟩ = some (.slice m3 g3 m4) := by rw [z57.cell (by omega)]; rfl
        have C5 := rsame_any (hv4.next (b5.trans (b57.mono b5.size))) (hv6.next b7)
        rw [decide_eq_true (cmpA_self 1 RA)] at C5
        have HC5 := hide C5
        have HB7 := hide (HBW.out _ J7)
        rw [e7] at x0 x1
        clear C5 hv4 hv6 b57 hb6 b5 b7 hb4 J4 J5 J7 J HK5 D1 D2 D3 D4 HBW z5 z7 z57 s5 s7 s67
        go_wp2_with fail
        clear x0 x1
        rw [← e7]
        clear e7
        refine HC5.out.mono ?_
        rintro e w8 ⟨rfl, hb8⟩
        have B := HB7.out.trans (hb8.mono HB7.out.size)
        clear HC5 HB7 hb8
        go_wp2_with fail
        refine (works_any _ (HT.out _ B)).mono ?_
        rintro e w9 ⟨rfl, hb9⟩
        go_wp2
        go_ret
        exact ⟨rfl, B.trans (hb9.mono B.size)⟩
      | true =>
        obtain ⟨⟨q0, q1⟩, ⟨q2, q3⟩, q4, q5⟩ := HK5.out _ J7
        have HZ57 := hide z57
        have HZ7 := hide z7
        have HJ7 := hide J7
        have hsX : w4.heap.size < W7.heap.size := by omega
        have hsY : w6.heap.size < W7.heap.size := by omega
        have hXY : w4.heap.size < w6.heap.size := by omega
        have hwX : wr.heap.size ≤ w4.heap.size := J4.size
        have HSX := hide (And.intro hsX (And.intro hsY (And.intro hXY hwX)))
        rw [e7] at q0 q1 q2 q3 q4 q5
        clear hv4 hv6 b57 hb6 b5 b7 hb4 J4 J5 J7 J D1 D2 z5 z7 z57 s5 s7 s67 hsX hsY hXY hwX
        go_wp2_with fail
        rw [← e7]
        clear q0 q1 q2 q3 q4 q5 e7
        refine (D3.out _ HJ7.out).mono ?_
        rintro e w8 ⟨⟨g1', m1', g2', m3', g3', m4', rfl, hv8⟩, hb8⟩
        obtain ⟨hsX, hsY, hXY, hwX⟩ := HSX.out
        have z8 : w8.rowIs w4.heap.size 25 2 (fun i => if i = 0 then .slice g1 m1 g2 else .slice m3 g3 m4) := HZ57.out.of_block (hb8.block _ hsX)
        have zy8 : w8.rowIs w6.heap.size 25 2 (fun i => if i = 0 then .slice h1 i1 h2 else .slice i2 h3 i3) := HZ7.out.of_block (hb8.block _ hsY)
        obtain ⟨W9, e9⟩ : ∃ W9, W9 = (w8.setCell ⟨w4.heap.size, 0, none⟩ (.slice g1' m1' g2')).setCell ⟨w4.heap.size, 1, none⟩ (.slice m3' g3' m4') := ⟨_, rfl⟩
        have J8 := HJ7.out.trans (hb8.mono HJ7.out.size)
        have J9 : Below wr.heap.size wr W9 := by rw [e9]; exact below_set2 J8 hwX
        have s9 : W9.heap.size = w8.heap.size := by rw [e9]; simp
        have s78 := hb8.size
        have hv9 : ArIn 1 (w6.heap.size + 1) W9 RA' (.agg #[.slice g1' m1' g2', .slice m3' g3' m4']) := by rw [e9]; exact fin_store hv8 (by omega) (by omega)
        have x0 := (two_read' z8 (.slice g1' m1' g2') (.slice m3' g3' m4')).1
        have x1 := (two_read' z8 (.slice g1' m1' g2') (.slice m3' g3' m4')).2
        have zy9 : W9.rowIs w6.heap.size 25 2 (fun i => if i = 0 then .slice h1 i1 h2 else .slice i2 h3 i3) := by
          rw [e9]
          exact zy8.of_block (by rw [Below.heap_setCell _ _ _ _ (by show w6.heap.size ≠ w4.heap.size; omega), Below.heap_setCell _ _ _ _ (by show w6.heap.size ≠ w4.heap.size; omega)])
        rw [← e9] at x0 x1
        have y0 : w8.cell? ⟨w4.heap.size, 0, none⟩ = some (.slice g1 m1 g2) := by rw [z8.cell (by omega)]; rfl
        have y1 : w8.cell? ⟨w4.heap.size, 1, none⟩ = some (.slice m3 g3 m4) := by rw [z8.cell (by omega)]; rfl
        have f0 := z8.frozen 0
        have f1 := z8.frozen 1
        obtain ⟨⟨q0, q1⟩, ⟨q2, q3⟩, q4, q5⟩ := HK5.out _ J9
        have HX0 := hide (And.intro x0 x1)
        have HE9 := hide e9
        rw [e9] at q0 q1 q2 q3 q4 q5
        have HSS := hide (And.intro s9 s78)
        clear x0 x1 z8 zy8 J8 hb8 hv8 s9 s78 e9
        go_wp2_with fail
        rw [← HE9.out]
        clear q0 q1 q2 q3 q4 q5 y0 y1 f0 f1
        refine (D4.out _ J9).mono ?_
        rintro e w10 ⟨⟨h1', i1', h2', i2', h3', i3', rfl, hv10⟩, hb10⟩
        obtain ⟨s9, s78⟩ := HSS.out
        have z10 : w10.rowIs w6.heap.size 25 2 (fun i => if i = 0 then .slice h1 i1 h2 else .slice i2 h3 i3) := zy9.of_block (hb10.block _ (by omega))
        obtain ⟨W11, e11⟩ : ∃ W11, W11 = (w10.setCell ⟨w6.heap.size, 0, none⟩ (.slice h1' i1' h2')).setCell ⟨w6.heap.size, 1, none⟩ (.slice i2' h3' i3') := ⟨_, rfl⟩
        have J10 := J9.trans (hb10.mono J9.size)
        have J11 : Below wr.heap.size wr W11 := by rw [e11]; exact below_set2 J10 (by omega)
        have hv11 : ArIn 1 0 W11 RA' (.agg #[.slice g1' m1' g2', .slice m3' g3' m4']) := by rw [e11]; exact fin_store (hv9.next hb10) (by omega) (by omega)
        have hv12 : ArIn 1 0 W11 RA' (.agg #[.slice h1' i1' h2', .slice i2' h3' i3']) := by rw [e11]; exact fin_store hv10 (by omega) (by omega)
        have C5 := rsame_any hv11 hv12
        rw [decide_eq_true (cmpA_self 1 RA')] at C5
        have HC5 := hide C5
        have HB11 := hide (HBW.out _ J11)
        have tr : ∀ i u, W9.cell? ⟨w4.heap.size, i, none⟩ = some u → W11.cell? ⟨w4.heap.size, i, none⟩ = some u := fun i u hu => by
          rw [e11]
          exact cell_apart (p := ⟨w4.heap.size, i, none⟩) (q := ⟨w6.heap.size, 1, none⟩) (by show w4.heap.size ≠ w6.heap.size; omega) _ (cell_apart (p := ⟨w4.heap.size, i, none⟩) (q := ⟨w6.heap.size, 0, none⟩) (by show w4.heap.size ≠ w6.heap.size; omega) _ ((hb10.cell (p := ⟨w4.heap.size, i, none⟩) (by show w4.heap.size < _; omega)).trans hu))
        have x0 := tr 0 _ HX0.out.1
        have x1 := tr 1 _ HX0.out.2
        have x2 := (two_read' z10 (.slice h1' i1' h2') (.slice i2' h3' i3')).1
        have x3 := (two_read' z10 (.slice h1' i1' h2') (.slice i2' h3' i3')).2
        have y0 : w10.cell? ⟨w6.heap.size, 0, none⟩ = some (.slice h1 i1 h2) := by rw [z10.cell (by omega)]; rfl
        have y1 : w10.cell? ⟨w6.heap.size, 1, none⟩ = some (.slice i2 h3 i3) := by rw [z10.cell (by omega)]; rfl
        have f0 := z10.frozen 0
        have f1 := z10.frozen 1
        rw [e11] at x0 x1
        clear C5 hv11 hv12 J10 J11 hb10 hv10 hv9 z10 zy9 tr HX0 HSS s9 s78 J9 HE9 HK5 D3 D4 HBW HZ57 HZ7 HJ7
        go_wp2_with fail
        clear x0 x1 x2 x3 y0 y1 f0 f1
        rw [← e11]
        clear e11
        refine HC5.out.mono ?_
        rintro e w12 ⟨rfl, hb12⟩
        have B := HB11.out.trans (hb12.mono HB11.out.size)
        clear HC5 HB11 hb12
        go_wp2_with fail
        refine (works_any _ (HT.out _ B)).mono ?_
        rintro e w9 ⟨rfl, hb9⟩
        go_wp2
        go_ret
        exact ⟨rfl, B.trans (hb9.mono B.size)⟩
theorem walk (op : Int) (n0 : Nat) (c : Ce) (r0 r1 r2 : Value) (n1 : Nat) (x : Ar) (c0 c1 : Value) (left : Bool) (w : World) (T : Tab w) (ho : I64 op) (hc : CeIn (ArIn n0 0 w) 0 w c r0 r1 r2) (sc : SndC c) (hx : ArIn n1 0 w x (.agg #[c0, c1])) (sx : Snd x) :
    Calls Tryd.prog 8 #[.int .i64 op, .agg #[r0, r1, r2], .agg #[c0, c1], .bool left] w fun e w' => e = .returned (.bool true) ∧ Below w.heap.size w w' :=
  walk1 op (n0 + n1) c r0 r1 r2 x c0 c1 left w T (hc.deeper fun x v h => h.deep (by omega)) sc (hx.deep (by omega)) sx
theorem laid_met (os : Os) : laidMet Tryd.prog Rows.atomicAtomsRow.laid ((laidWorld os).forCall (fun _ _ => 0) ⟨#[], #[.int .i64 0, .agg #[.int .i64 0, .int .i64 0, .slice none 0 0], .agg #[.slice none 0 0, .slice none 0 0], .bool false], []⟩).memory :=
  laidMet_of_run' 8 (by kernel_rfl) (by kernel_rfl)
theorem reads (os : Os) {H : Type} (enc : TypeId × Value → H) : ∃ places, DataW.whole enc Tryd.prog ((laidWorld os).forCall (fun _ _ => 0) ⟨#[], #[.int .i64 0, .agg #[.int .i64 0, .int .i64 0, .slice none 0 0], .agg #[.slice none 0 0, .slice none 0 0], .bool false], []⟩).memory Tryd.f8.params.toList Rows.atomicAtomsSpec.vars false #[Value.int .i64 0, Value.agg #[.int .i64 0, .int .i64 0, .slice none 0 0], Value.agg #[.slice none 0 0, .slice none 0 0], Value.bool false].toList 8 = some ([.lit (.int .i64 0), .agg [.lit (.int .i64 0), .lit (.int .i64 0), .nil], .agg [.nil, .nil], .lit (.bool false)], [], places) :=
  ⟨[], by kernel_rfl⟩
set_option maxRecDepth 100000 in
theorem lifted (os : Os) (started : os.Started) (H : Type) (enc : TypeId × Value → H) (F : Stop.Interp) :
    ReturnsInHanded {} Tryd.checked os 8 .any ((OpenSpec.ofChange Rows.atomicAtomsSpec).preRow enc Tryd.prog Tryd.f8 Rows.atomicAtomsRow.domain false Rows.atomicAtomsRow.laid) (((OpenSpec.ofChange Rows.atomicAtomsSpec).at F).post enc Tryd.prog Tryd.f8 false true false false) := by
  obtain ⟨places, hx⟩ := reads os enc
  refine returnsInHanded_of_row (C := Tryd.checked) (s := OpenSpec.ofChange Rows.atomicAtomsSpec) own started (by kernel_rfl) Tryd.func8
    (witness_row_at (enc := enc) (C := Tryd.checked) false (laidWorld os) #[.int .i64 0, .agg #[.int .i64 0, .int .i64 0, .slice none 0 0], .agg #[.slice none 0 0, .slice none 0 0], .bool false] rfl (by kernel_rfl) (by kernel_rfl) (by kernel_rfl)
      (OpenSpec.preRow_of_cond 8 hx (by kernel_rfl) (fun k hk => by cases hk) (by kernel_rfl) (laid_met os))) ?_
  intro W base args ds gs before hval0 hW _ hcond hsz0 hL _ _
  have hsz : (DataW.weightsEach Tryd.prog (Tryd.f8.params.toList ++ Rows.atomicAtomsSpec.plain.varTypes Tryd.prog) (ds ++ gs)).all (· ≤ reachBytes) = true := hsz0
  clear hsz0
  have hval : ∀ (j : Nat) t v, Tryd.f8.params[j]? = some t → args[j]? = some v → Value.okWide Tryd.prog W .any base t v := hval0
  have hW' := hW
  obtain ⟨p, q, hA0, hV, rfl, hfz, hnd⟩ := hW
  have hA : DataW.TrodAll enc Tryd.prog W 0 (fun _ => true) true Tryd.f8.params.toList args.toList ds p := hA0
  rw [Tryd.params8] at hA hval hsz
  obtain ⟨v0, vs0, d0, ds0, p0, q0, hargs, rfl, rfl, h0, r0⟩ := trodAll_cons hA
  obtain ⟨v1, vs1, d1, ds1, p1, q1, rfl, rfl, rfl, h1, r1⟩ := trodAll_cons r0
  obtain ⟨v2, vs2, d2, ds2, p2, q2, rfl, rfl, rfl, h2, r2⟩ := trodAll_cons r1
  obtain ⟨v3, vs3, d3, ds3, p3, q3, rfl, rfl, rfl, h3, r3⟩ := trodAll_cons r2
  obtain ⟨rfl, rfl, rfl⟩ := trodAll_nil r3
  obtain rfl : args = #[v0, v1, v2, v3] := by cases args; simp_all
  obtain ⟨rfl, rfl⟩ := trodVars_none hV
  obtain ⟨x0, rfl, rfl, rfl, w0⟩ := open_int Tryd.underlying3 (hval 0 3 v0 rfl rfl) h0
  have k1 := h1
  have lt1 : ∀ x ∈ p1, x.block < W.heap.size := by obtain ⟨m, hm⟩ := k1; exact DataW.trod_lt m _ _ _ hm
  obtain ⟨n1, y1, c10, c11, c12, hc1, w1, s1⟩ := cell_of hsz (j := 1) rfl rfl h1
  obtain rfl := agg_three hc1
  have k2 := h2
  have lt2 : ∀ x ∈ p2, x.block < W.heap.size := by obtain ⟨m, hm⟩ := k2; exact DataW.trod_lt m _ _ _ hm
  obtain ⟨n2, y2, c20, c21, hc2, w2, s2⟩ := arr_of hsz (j := 2) rfl rfl h2
  obtain rfl := agg_two hc2
  obtain ⟨x3, rfl, rfl, rfl⟩ := open_bool Tryd.underlying4 (hval 3 4 v3 rfl rfl) h3
  clear hA0 hval0
  refine (walk x0 n1 y1 c10 c11 c12 n2 y2 c20 c21 x3 W (tab_of hL) (bounds_i64 w0) w1 s1 w2 s2).mono fun e W' ⟨he, bel⟩ => ?_
  subst he
  exact ⟨_, rfl, _, _, _, [], _, [], hW', trodAll_mk1 (shut_bool Tryd.underlying4 _), (trodAll_cons_mk (shut_int Tryd.underlying3 w0) (trodAll_cons_mk (Below.trod laidOut (by kernel_rfl) (of_decide_eq_true (by kernel_rfl)) k1 bel lt1) (trodAll_cons_mk (Below.trod laidOut (by kernel_rfl) (of_decide_eq_true (by kernel_rfl)) k2 bel lt2) (trodAll_cons_mk (shut_bool Tryd.underlying4 _) trodAll_mk0)))), rfl, bel.frame _, fun h => by cases h⟩
theorem said : Rows.AtomicAtomsSaid :=
  OpenClaim.holds_of_cond 8 Tryd.f8 rfl rfl rfl rfl rfl rfl rfl ⟨rfl, rfl, rfl, rfl, rfl⟩ rfl rfl rfl rfl rfl (by kernel_rfl) Tryd.func8 (by kernel_rfl)
    (of_decide_eq_true (by kernel_rfl)) (by unfold Func.isWrapper; first | (rw [if_pos (by decide +kernel)]; kernel_rfl) | (rw [if_neg (by decide +kernel)]; exact ⟨rfl, rfl⟩))
    (fun os started H enc _ F => by rw [OpenClaim.pre_eq_preRow]; exact lifted os started H enc F)
theorem plain (f : FuncId) (fn : Func) (hf : Tryd.pinned.checked.prog.funcNamed "triglyph/triglyphlaw04.AtomicAtoms" = some f) (hfn : Tryd.pinned.checked.prog.funcs[f]? = some fn) :
    false = Tryd.pinned.checked.prog.looks [] ∧ ∀ (j : Nat) t, fn.params[j]? = some t → Tryd.pinned.checked.prog.wantsStandIn t = false := by
  obtain rfl : f = 8 := Option.some.inj ((show Tryd.prog.funcNamed "triglyph/triglyphlaw04.AtomicAtoms" = some 8 by kernel_rfl).symm.trans hf) |>.symm
  obtain rfl : fn = Tryd.f8 := (Option.some.inj (Tryd.func8.symm.trans hfn)).symm
  refine ⟨by kernel_rfl, fun j t ht => ?_⟩
  rw [Tryd.params8] at ht
  have hm : t = 3 ∨ t = 35 ∨ t = 25 ∨ t = 4 := by simpa using Array.mem_of_getElem? ht
  rcases hm with rfl | rfl | rfl | rfl
  · exact (show Tryd.prog.wantsStandIn 3 = false by kernel_rfl)
  · exact (show Tryd.prog.wantsStandIn 35 = false by kernel_rfl)
  · exact (show Tryd.prog.wantsStandIn 25 = false by kernel_rfl)
  · exact (show Tryd.prog.wantsStandIn 4 = false by kernel_rfl)
theorem proved : Rows.AtomicAtomsCardSaid :=
  Claim7.holds_tied_plain_at .later [] _ _ _ _ said (fun _ h => by cases h) (by kernel_rfl) (fun _ h => by cases h) atomicAtoms_row_tie rfl ⟨rfl, rfl⟩ (by kernel_rfl) rfl plain (by kernel_rfl)
end Go.Proofs.YtkigfmfegldhcaaDoor.atomicAtoms
namespace Go.Proofs.YtkigfmfegldhcaaDoor
theorem atomicAtoms_holds : Rows.AtomicAtomsCardSaid := atomicAtoms.proved
#print axioms atomicAtoms_holds
end Go.Proofs.YtkigfmfegldhcaaDoor
