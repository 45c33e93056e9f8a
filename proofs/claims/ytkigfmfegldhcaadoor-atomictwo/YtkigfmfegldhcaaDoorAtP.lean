/-
  The contract of the document's Dy of layer 4; for all arrays of 64 bits.
-/
import Derived.Test.YtkigfmfegldhcaaDoorAtO
import Derived.Deep.CutRange
namespace Go.Proofs.YtkigfmfegldhcaaDoor
open Go.ChangeShapes Go.WideShapes Go.ChangeAt Go.RowKit
open Num (resV resE In64 sgnI absI)
set_option linter.unusedVariables false
theorem dy_size {x y : Ar} (h : chkA 8 x = 0) (h2 : chkA 8 y = 0) (ha : agrE x.shape y.shape = 0) : sizeV (agrL x.shape y.shape) = (dyN x y : Nat) ∧ (agrL x.shape y.shape).length ≤ 8 := by
  obtain ⟨-, -, l1, -, -⟩ := chk_ok h
  obtain ⟨-, -, l2, -, -⟩ := chk_ok h2
  unfold agrL dyN
  by_cases hx : x.shape = []
  · rw [if_pos hx, if_pos hx]; exact ⟨(chk_size h2).2, l2⟩
  · rw [if_neg hx, if_neg hx]
    by_cases hy : y.shape = []
    · rw [if_pos hy]; exact ⟨(chk_size h).2, l1⟩
    · rw [if_neg hy, if_pos (agr_ok ha hx hy)]; exact ⟨(chk_size h).2, l1⟩
/-- The place of the cell that stands beside place j, as the document reckons it. -/
theorem side_rem {j m ix : Nat} (h : ix = j ∧ j < m ∨ ix = 0 ∧ m = 1) : ix < m ∧ (j : Int) % (m : Int) = (ix : Int) ∧ (j : Int).tmod (m : Int) = (ix : Int) := by
  have e : j % m = ix := by
    rcases h with ⟨rfl, hl⟩ | ⟨rfl, rfl⟩
    · exact Nat.mod_eq_of_lt hl
    · exact Nat.mod_one j
  refine ⟨by omega, ?_, ?_⟩
  · rw [← Int.natCast_emod, e]
  · rw [Int.tmod_eq_emod_of_nonneg (by omega), ← Int.natCast_emod, e]
/-- What the document's loop finds of an array's cell beside a place. -/
theorem side_ref {n lo : Nat} {w : World} {x : Ar} {j : Nat} {a2 : Option Addr} (hc : CellsIn n lo w x.cells a2) (hs : Snd x) (hk : chkA 8 x = 0) (hi : (if x.shape = [] then 0 else j) < x.cells.length) :
    ∃ b off k z ab nb cb ix, a2 = some ⟨b, off, none⟩ ∧ ix < x.cells.length ∧ (j : Int) % (x.cells.length : Int) = ((ix : Nat) : Int) ∧ (j : Int).tmod (x.cells.length : Int) = ((ix : Nat) : Int) ∧ ((sideC x j).1 = k ∧ (sideC x j).2.1 = z) ∧ In64 z ∧ ∀ wr, Below w.heap.size w wr → wr.cell? ⟨b, off + ix * 3, none⟩ = some (.int .i64 k) ∧ wr.cell? ⟨b, off + ix * 3 + 1, none⟩ = some (.int .i64 z) ∧ wr.cell? ⟨b, off + ix * 3 + 2, none⟩ = some (.slice ab nb cb) := by
  obtain ⟨b, off, z0, z1, ab, nb, cb, ha, hcs⟩ := cells_at hc _ hi
  have hr := side_rem (j := j) (m := x.cells.length) (ix := if x.shape = [] then 0 else j) (by
    by_cases h : x.shape = []
    · rw [if_pos h]; exact Or.inr ⟨rfl, chk_atomic hk h⟩
    · rw [if_neg h] at hi ⊢; exact Or.inl ⟨rfl, hi⟩)
  obtain ⟨-, -, -, g3⟩ := hcs w (Below.refl _ _)
  obtain ⟨u0, u1, -⟩ := g3
  simp only [Value.int.injEq, true_and] at u0 u1
  refine ⟨b, off, z0, z1, ab, nb, cb, _, ha, hr.1, hr.2.1, hr.2.2, ?_, ?_, fun wr h => ?_⟩
  · rw [sideC_at]; exact ⟨u0.symm, u1.symm⟩
  · rw [u1]; exact (hs.cell (mem_cAt hi)).2.1
  · obtain ⟨g0, g1, g2, -⟩ := hcs wr h
    exact ⟨g0, g1, g2⟩
set_option maxRecDepth 20000 in
set_option maxHeartbeats 16000000 in
theorem rdy_any (m n n' lo lo' : Nat) (op : Int) (x y : Ar) (va vb : Value) (w : World) (hx : ArIn n lo w x va) (hy : ArIn n' lo' w y vb) (hsx : Snd x) (hsy : Snd y) :
    Calls Tryd.prog 19 #[.int .i64 op, va, vb] w fun e w' => GivesE (m + 1) w.heap.size (dyA op x y) (dyE op x y) w e w' := by
  cases n with
  | zero => exact hx.elim
  | succ n =>
  cases n' with
  | zero => exact hy.elim
  | succ n' =>
  obtain ⟨a1, c1, a2, c2, rfl⟩ := hx.form
  obtain ⟨b1, l1, b2, l2, rfl⟩ := hy.form
  obtain ⟨-, -, hRx, hlx, hcx⟩ := cells_of hx
  obtain ⟨-, -, hRy, hly, hcy⟩ := cells_of hy
  obtain ⟨W3, e3⟩ : ∃ W3, W3 = ((w.alloc (.cells #[.slice a1 x.shape.length c1, .slice a2 x.cells.length c2] 25)).alloc (.cells #[.slice b1 y.shape.length l1, .slice b2 y.cells.length l2] 25)).alloc (.cells #[.slice none 0 0, .slice none 0 0] 25) := ⟨_, rfl⟩
  have B3 : Below w.heap.size w W3 := by rw [e3]; exact three_allocs _ _ _ _
  have s3 : W3.heap.size = w.heap.size + 3 := by rw [e3]; exact size_three _ _ _ _
  have s2 := size_two w (.cells #[.slice a1 x.shape.length c1, .slice a2 x.cells.length c2] 25) (.cells #[.slice b1 y.shape.length l1, .slice b2 y.cells.length l2] 25)
  have up : ∀ b i v, b < w.heap.size + 2 → ((w.alloc (.cells #[.slice a1 x.shape.length c1, .slice a2 x.cells.length c2] 25)).alloc (.cells #[.slice b1 y.shape.length l1, .slice b2 y.cells.length l2] 25)).cell? ⟨b, i, none⟩ = some v → W3.cell? ⟨b, i, none⟩ = some v := by
    intro b i v hb hv
    rw [e3]
    exact ((one_alloc _ _).cell (p := ⟨b, i, none⟩) (by rw [s2]; exact hb)).trans hv
  have d1 : ∀ i v, #[Value.slice a1 x.shape.length c1, .slice a2 x.cells.length c2][i]? = some v → W3.cell? ⟨w.heap.size, i, none⟩ = some v := fun i v hv => up _ _ _ (by omega) (cell_new1 w _ 25 (0, 0) _ i _ hv)
  have d2 : ∀ i v, #[Value.slice b1 y.shape.length l1, .slice b2 y.cells.length l2][i]? = some v → W3.cell? ⟨w.heap.size + 1, i, none⟩ = some v := fun i v hv => up _ _ _ (by omega) (cell_new2 w _ 25 (0, 0) _ i _ hv)
  have dz : W3.rowIs (w.heap.size + 2) 25 2 (fun _ => .slice none 0 0) := by
    rw [e3, ← s2]
    exact nil_row _
  clear up s2
  have HBB : Hid (∀ W, Below W3.heap.size W3 W → Below w.heap.size w W) := fun W h => B3.trans (h.mono B3.size)
  have C0 := hide (rcheck_any (n + 1) x lo _ W3 (hx.next B3))
  have C1 : Hid (∀ W, Below W3.heap.size W3 W → Calls Tryd.prog 23 #[.agg #[.slice b1 y.shape.length l1, .slice b2 y.cells.length l2]] W fun e w' => e = .returned (.int .i64 (chkA 8 y)) ∧ Below W3.heap.size W3 w') := fun W h => (rcheck_any (n' + 1) y lo' _ W (hy.next (HBB.out W h))).mono fun e w' ⟨he, hb⟩ => ⟨he, h.trans (hb.mono h.size)⟩
  have HK : Hid (∀ W, Below W3.heap.size W3 W → (W.cell? ⟨w.heap.size, 0, none⟩ = some (.slice a1 x.shape.length c1) ∧ W.cell? ⟨w.heap.size, 1, none⟩ = some (.slice a2 x.cells.length c2)) ∧ (W.cell? ⟨w.heap.size + 1, 0, none⟩ = some (.slice b1 y.shape.length l1) ∧ W.cell? ⟨w.heap.size + 1, 1, none⟩ = some (.slice b2 y.cells.length l2)) ∧ W.rowIs (w.heap.size + 2) 25 2 (fun _ => .slice none 0 0)) := by
    intro W h
    have t : ∀ b i v, b < w.heap.size + 3 → W3.cell? ⟨b, i, none⟩ = some v → W.cell? ⟨b, i, none⟩ = some v := fun b i v hb hv => (h.cell (p := ⟨b, i, none⟩) (by rw [s3]; exact hb)).trans hv
    exact ⟨⟨t _ _ _ (by omega) (d1 0 _ rfl), t _ _ _ (by omega) (d1 1 _ rfl)⟩, ⟨t _ _ _ (by omega) (d2 0 _ rfl), t _ _ _ (by omega) (d2 1 _ rfl)⟩, dz.of_block (h.block _ (by omega))⟩
  have HNIL : Hid (∀ W, Below W3.heap.size W3 W → ∀ u, dyE op x y = u → dyA op x y = .mk [] [] → GivesE (m + 1) w.heap.size (dyA op x y) (dyE op x y) w (.returned (.tuple #[.agg #[.slice none 0 0, .slice none 0 0], .int .i64 u])) ((W.setCell ⟨w.heap.size + 2, 0, none⟩ (.slice none 0 0)).setCell ⟨w.heap.size + 2, 1, none⟩ (.slice none 0 0))) := by
    intro W h u hu ha
    rw [hu, ha]
    exact ⟨⟨_, rfl, nil_arr _ _ _⟩, below_set2 (HBB.out W h) (by omega)⟩
  by_cases hck : chkA 8 x = 0
  case neg =>
    obtain ⟨q1, q2⟩ := dy_chk1 (op := op) (y := y) hck
    have HQ := hide (fun W h => HNIL.out W h _ q1 q2)
    generalize chkA 8 x = E at *
    have hE : (E == 0) = false := beq_eq_false_iff_ne.2 hck
    clear q1 q2 hck C1
    clear hRx hRy hlx hly hcx hcy hx hy hsx hsy d1 d2 dz B3 HNIL HBB
    generalize x.shape.length = SA at *
    generalize x.cells.length = CA at *
    generalize y.shape.length = SB at *
    generalize y.cells.length = CB at *
    go_enter Tryd.func19, Tryd.ntmps19
    go_wp2_with fail
    rw [← e3]
    refine C0.out.mono ?_
    rintro e w1 ⟨rfl, hb1⟩
    obtain ⟨⟨k1, k2⟩, ⟨k3, k4⟩, kz⟩ := HK.out w1 hb1
    have y0 := kz.cell (i := 0) (by omega)
    have y1 := kz.cell (i := 1) (by omega)
    have g0 := kz.frozen 0
    have g1 := kz.frozen 1
    have HT := hide (two_read kz (.slice none 0 0) (.slice none 0 0))
    have HF := hide (HQ.out w1 hb1)
    clear HQ HK kz
    go_wp2
    exact bodyPost_ret (v := .tuple #[.agg #[.slice none 0 0, .slice none 0 0], .int .i64 E]) (by simp [results, Tryd.results19, go_sem, HT.out.1, HT.out.2]) rfl HF.out
  case pos =>
  by_cases hcl : chkA 8 y = 0
  case neg =>
    obtain ⟨q1, q2⟩ := dy_chk2 (op := op) hck hcl
    have HQ := hide (fun W h => HNIL.out W h _ q1 q2)
    rw [hck] at C0
    generalize chkA 8 y = E at *
    have hE : (E == 0) = false := beq_eq_false_iff_ne.2 hcl
    clear q1 q2 hck hcl
    clear hRx hRy hlx hly hcx hcy hx hy hsx hsy d1 d2 dz B3 HNIL HBB
    generalize x.shape.length = SA at *
    generalize x.cells.length = CA at *
    generalize y.shape.length = SB at *
    generalize y.cells.length = CB at *
    go_enter Tryd.func19, Tryd.ntmps19
    go_wp2_with fail
    rw [← e3]
    refine C0.out.mono ?_
    rintro e w1 ⟨rfl, hb1⟩
    obtain ⟨⟨k1, k2⟩, ⟨k3, k4⟩, kz⟩ := HK.out w1 hb1
    clear kz
    go_wp2_with fail
    refine (C1.out _ hb1).mono ?_
    rintro e w2 ⟨rfl, hb2⟩
    clear k1 k2 k3 k4
    obtain ⟨⟨k1, k2⟩, ⟨k3, k4⟩, kz⟩ := HK.out w2 hb2
    have y0 := kz.cell (i := 0) (by omega)
    have y1 := kz.cell (i := 1) (by omega)
    have g0 := kz.frozen 0
    have g1 := kz.frozen 1
    have HT := hide (two_read kz (.slice none 0 0) (.slice none 0 0))
    have HF := hide (HQ.out w2 hb2)
    clear HQ HK kz
    go_wp2
    exact bodyPost_ret (v := .tuple #[.agg #[.slice none 0 0, .slice none 0 0], .int .i64 E]) (by simp [results, Tryd.results19, go_sem, HT.out.1, HT.out.2]) rfl HF.out
  case pos =>
  rw [hck] at C0
  rw [hcl] at C1
  by_cases h54 : op = 54
  case pos =>
    subst h54
    obtain ⟨q1, q2⟩ := dy_nonce hck hcl
    have HQ := hide (fun W h => HNIL.out W h _ q1 q2)
    clear q1 q2 hck hcl
    clear hRx hRy hlx hly hcx hcy hx hy hsx hsy d1 d2 dz B3 HNIL HBB
    generalize x.shape.length = SA at *
    generalize x.cells.length = CA at *
    generalize y.shape.length = SB at *
    generalize y.cells.length = CB at *
    go_enter Tryd.func19, Tryd.ntmps19
    go_wp2_with fail
    rw [← e3]
    refine C0.out.mono ?_
    rintro e w1 ⟨rfl, hb1⟩
    obtain ⟨⟨k1, k2⟩, ⟨k3, k4⟩, kz⟩ := HK.out w1 hb1
    clear kz
    go_wp2_with fail
    refine (C1.out _ hb1).mono ?_
    rintro e w2 ⟨rfl, hb2⟩
    clear k1 k2 k3 k4
    obtain ⟨⟨k1, k2⟩, ⟨k3, k4⟩, kz⟩ := HK.out w2 hb2
    have y0 := kz.cell (i := 0) (by omega)
    have y1 := kz.cell (i := 1) (by omega)
    have g0 := kz.frozen 0
    have g1 := kz.frozen 1
    have HT := hide (two_read kz (.slice none 0 0) (.slice none 0 0))
    have HF := hide (HQ.out w2 hb2)
    clear HQ HK kz
    go_wp2
    exact bodyPost_ret (v := .tuple #[.agg #[.slice none 0 0, .slice none 0 0], .int .i64 10]) (by simp [results, Tryd.results19, go_sem, HT.out.1, HT.out.2]) rfl HF.out
  case neg =>
  have g54 : (op == 54) = false := beq_eq_false_iff_ne.2 h54
  by_cases hop : isOp op = true
  case neg =>
    have hop' : isOp op = false := by simpa using hop
    have hr : ¬ (21 ≤ op ∧ op ≤ 32) := by simpa [isOp] using hop'
    obtain ⟨q1, q2⟩ := dy_arg hck hcl h54 hop'
    have HQ := hide (fun W h => HNIL.out W h _ q1 q2)
    clear q1 q2 hck hcl hop hop'
    by_cases hlo : op < 21
    · clear hRx hRy hlx hly hcx hcy hx hy hsx hsy d1 d2 dz B3 HNIL HBB
      generalize x.shape.length = SA at *
      generalize x.cells.length = CA at *
      generalize y.shape.length = SB at *
      generalize y.cells.length = CB at *
      go_enter Tryd.func19, Tryd.ntmps19
      go_wp2_with fail
      rw [← e3]
      refine C0.out.mono ?_
      rintro e w1 ⟨rfl, hb1⟩
      obtain ⟨⟨k1, k2⟩, ⟨k3, k4⟩, kz⟩ := HK.out w1 hb1
      clear kz
      go_wp2_with fail
      refine (C1.out _ hb1).mono ?_
      rintro e w2 ⟨rfl, hb2⟩
      clear k1 k2 k3 k4
      obtain ⟨⟨k1, k2⟩, ⟨k3, k4⟩, kz⟩ := HK.out w2 hb2
      have y0 := kz.cell (i := 0) (by omega)
      have y1 := kz.cell (i := 1) (by omega)
      have g0 := kz.frozen 0
      have g1 := kz.frozen 1
      have HT := hide (two_read kz (.slice none 0 0) (.slice none 0 0))
      have HF := hide (HQ.out w2 hb2)
      clear HQ HK kz
      go_wp2
      exact bodyPost_ret (v := .tuple #[.agg #[.slice none 0 0, .slice none 0 0], .int .i64 1]) (by simp [results, Tryd.results19, go_sem, HT.out.1, HT.out.2]) rfl HF.out
    · have hhi : 32 < op := by omega
      clear hRx hRy hlx hly hcx hcy hx hy hsx hsy d1 d2 dz B3 HNIL HBB
      generalize x.shape.length = SA at *
      generalize x.cells.length = CA at *
      generalize y.shape.length = SB at *
      generalize y.cells.length = CB at *
      go_enter Tryd.func19, Tryd.ntmps19
      go_wp2_with fail
      rw [← e3]
      refine C0.out.mono ?_
      rintro e w1 ⟨rfl, hb1⟩
      obtain ⟨⟨k1, k2⟩, ⟨k3, k4⟩, kz⟩ := HK.out w1 hb1
      clear kz
      go_wp2_with fail
      refine (C1.out _ hb1).mono ?_
      rintro e w2 ⟨rfl, hb2⟩
      clear k1 k2 k3 k4
      obtain ⟨⟨k1, k2⟩, ⟨k3, k4⟩, kz⟩ := HK.out w2 hb2
      have y0 := kz.cell (i := 0) (by omega)
      have y1 := kz.cell (i := 1) (by omega)
      have g0 := kz.frozen 0
      have g1 := kz.frozen 1
      have HT := hide (two_read kz (.slice none 0 0) (.slice none 0 0))
      have HF := hide (HQ.out w2 hb2)
      clear HQ HK kz
      go_wp2
      exact bodyPost_ret (v := .tuple #[.agg #[.slice none 0 0, .slice none 0 0], .int .i64 1]) (by simp [results, Tryd.results19, go_sem, HT.out.1, HT.out.2]) rfl HF.out
  case pos =>
  have hrg : 21 ≤ op ∧ op ≤ 32 := by simpa [isOp] using hop
  obtain ⟨hr1, hr2⟩ := hrg
  have CG : Hid (∀ W, Below W3.heap.size W3 W → Calls Tryd.prog 21 #[.slice a1 x.shape.length c1, .slice b1 y.shape.length l1] W fun e w' => (∃ t n c, e = .returned (.tuple #[.slice t n c, .int .i64 (agrE x.shape y.shape)]) ∧ (agrL x.shape y.shape).length = n ∧ Row 0 w' t (agrL x.shape y.shape)) ∧ Below W3.heap.size W3 w') := by
    intro W h
    refine (ragree_any x.shape y.shape _ _ rfl rfl a1 b1 c1 l1 W (hRx.next (HBB.out W h)) (hRy.next (HBB.out W h))).mono ?_
    rintro e w' ⟨⟨t, n, c, he, hn, hr⟩, hb⟩
    exact ⟨⟨t, n, c, he, hn, hr⟩, h.trans (hb.mono h.size)⟩
  by_cases hag : agrE x.shape y.shape = 0
  case neg =>
    obtain ⟨q1, q2⟩ := dy_agr hck hcl h54 hop hag
    have HQ := hide (fun W h => HNIL.out W h _ q1 q2)
    generalize agrE x.shape y.shape = E at *
    have hE : (E == 0) = false := beq_eq_false_iff_ne.2 hag
    clear q1 q2 hck hcl hop hag
    clear hRx hRy hlx hly hcx hcy hx hy hsx hsy d1 d2 dz B3 HNIL HBB
    generalize x.shape.length = SA at *
    generalize x.cells.length = CA at *
    generalize y.shape.length = SB at *
    generalize y.cells.length = CB at *
    go_enter Tryd.func19, Tryd.ntmps19
    go_wp2_with fail
    rw [← e3]
    refine C0.out.mono ?_
    rintro e w1 ⟨rfl, hb1⟩
    obtain ⟨⟨k1, k2⟩, ⟨k3, k4⟩, kz⟩ := HK.out w1 hb1
    clear kz
    go_wp2_with fail
    refine (C1.out _ hb1).mono ?_
    rintro e w2 ⟨rfl, hb2⟩
    clear k1 k2 k3 k4
    obtain ⟨⟨k1, k2⟩, ⟨k3, k4⟩, kz⟩ := HK.out w2 hb2
    go_wp2_with fail
    refine (CG.out _ hb2).mono ?_
    rintro e w3 ⟨⟨t, n1, c, rfl, -, -⟩, hb3⟩
    clear k1 k2 k3 k4 kz
    obtain ⟨⟨k1, k2⟩, ⟨k3, k4⟩, kz⟩ := HK.out w3 hb3
    have y0 := kz.cell (i := 0) (by omega)
    have y1 := kz.cell (i := 1) (by omega)
    have g0 := kz.frozen 0
    have g1 := kz.frozen 1
    have HT := hide (two_read kz (.slice none 0 0) (.slice none 0 0))
    have HF := hide (HQ.out w3 hb3)
    clear HQ HK kz
    go_wp2
    exact bodyPost_ret (v := .tuple #[.agg #[.slice none 0 0, .slice none 0 0], .int .i64 E]) (by simp [results, Tryd.results19, go_sem, HT.out.1, HT.out.2]) rfl HF.out
  case pos =>
  obtain ⟨hsz, hL8⟩ := dy_size hck hcl hag
  have hN16 : dyN x y ≤ 16384 := by
    obtain ⟨-, -, -, h1, -⟩ := chk_ok hck
    obtain ⟨-, -, -, h2, -⟩ := chk_ok hcl
    unfold dyN; split <;> omega
  obtain ⟨i3, hi3, hz30, hz31, hz32⟩ := info3'
  obtain ⟨i0, hi, hz0, hz1, hz2⟩ := info33'
  have HC : Hid (∀ j, j < dyN x y → (∃ b off k z ab nb cb ix, a2 = some ⟨b, off, none⟩ ∧ ix < x.cells.length ∧ (j : Int) % (x.cells.length : Int) = ((ix : Nat) : Int) ∧ (j : Int).tmod (x.cells.length : Int) = ((ix : Nat) : Int) ∧ (∀ wr, Below w.heap.size w wr → wr.cell? ⟨b, off + ix * 3, none⟩ = some (.int .i64 k) ∧ wr.cell? ⟨b, off + ix * 3 + 1, none⟩ = some (.int .i64 z) ∧ wr.cell? ⟨b, off + ix * 3 + 2, none⟩ = some (.slice ab nb cb)) ∧ ∃ g goff q v gb ng cg iy, b2 = some ⟨g, goff, none⟩ ∧ iy < y.cells.length ∧ (j : Int) % (y.cells.length : Int) = ((iy : Nat) : Int) ∧ (j : Int).tmod (y.cells.length : Int) = ((iy : Nat) : Int) ∧ (∀ wr, Below w.heap.size w wr → wr.cell? ⟨g, goff + iy * 3, none⟩ = some (.int .i64 q) ∧ wr.cell? ⟨g, goff + iy * 3 + 1, none⟩ = some (.int .i64 v) ∧ wr.cell? ⟨g, goff + iy * 3 + 2, none⟩ = some (.slice gb ng cg)) ∧ ∀ wr, Calls Tryd.prog 15 #[.int .i64 op, .agg #[.int .i64 k, .int .i64 z, .slice ab nb cb], .agg #[.int .i64 q, .int .i64 v, .slice gb ng cg]] wr fun r w' => r = .returned (.tuple #[.agg #[.int .i64 0, .int .i64 (c2V op (sideC x j) (sideC y j)), .slice none 0 0], .int .i64 (c2E op (sideC x j) (sideC y j))]) ∧ Below wr.heap.size wr w')) := by
    intro j hj
    obtain ⟨b, off, k, z, ab, nb, cb, ix, ha, hix, r1, r2, hc, hz, hcell⟩ := side_ref (j := j) hcx hsx hck (side_x hck hj)
    obtain ⟨g, goff, q, v, gb, ng, cg, iy, hb, hiy, r3, r4, hd, hv, hcell'⟩ := side_ref (j := j) hcy hsy hcl (side_y hck hcl hag hj)
    exact ⟨b, off, k, z, ab, nb, cb, ix, ha, hix, r1, r2, hcell, g, goff, q, v, gb, ng, cg, iy, hb, hiy, r3, r4, hcell', fun wr => rcell2_any op k z q v ab gb nb cb ng cg _ _ hc hd hz hv wr⟩
  obtain ⟨V, hV⟩ : ∃ V : Nat → Int, ∀ i, V i = c2V op (sideC x i) (sideC y i) := ⟨_, fun _ => rfl⟩
  obtain ⟨E, hE⟩ : ∃ E : Nat → Int, ∀ i, E i = c2E op (sideC x i) (sideC y i) := ⟨_, fun _ => rfl⟩
  simp only [← hV, ← hE] at HC
  have eE : dyE op x y = firstUp E (dyN x y) := by rw [dy_do hck hcl h54 hop hag]; exact firstUp_congr fun i _ => (hE i).symm
  have eA : dyA op x y = if firstUp E (dyN x y) = 0 then .mk (agrL x.shape y.shape) (numCs 0 ((List.range (dyN x y)).map V)) else .mk [] [] := by
    unfold dyA dyL
    rw [eE, show (fun i => c2V op (sideC x i) (sideC y i)) = V from funext fun i => (hV i).symm]
  have CZ : Hid (∀ W t c n, (agrL x.shape y.shape).length = n → Row 0 W t (agrL x.shape y.shape) → ∃ ez, Calls Tryd.prog 46 #[.slice t n c] W fun e w' => e = .returned (.tuple #[.int .i64 ((dyN x y : Nat) : Int), .int .i64 ez]) ∧ w' = W) := by
    intro W t c n hn hr
    subst hn
    have := rsize_any (agrL x.shape y.shape) t c W hr
    rw [hsz] at this
    exact ⟨_, this⟩
  have HBAD : Hid (∀ W, Below w.heap.size w W → firstUp E (dyN x y) ≠ 0 → GivesE (m + 1) w.heap.size (dyA op x y) (dyE op x y) w (.returned (.tuple #[.agg #[.slice none 0 0, .slice none 0 0], .int .i64 (firstUp E (dyN x y))])) W) := by
    intro W hW h0
    rw [eA, eE, if_neg h0]
    exact ⟨⟨_, rfl, nil_arr _ _ _⟩, hW⟩
  have HEND : Hid (∀ W lo a1' n1 cc1 a2' cc2, Below w.heap.size w W → w.heap.size + 3 ≤ lo → firstUp E (dyN x y) = 0 → (agrL x.shape y.shape).length = n1 → Row lo W a1' (agrL x.shape y.shape) → CellsIn m lo W (numCs 0 ((List.range (dyN x y)).map V)) a2' → GivesE (m + 1) w.heap.size (dyA op x y) (dyE op x y) w (.returned (.tuple #[.agg #[.slice a1' n1 cc1, .slice a2' (dyN x y) cc2], .int .i64 0])) ((W.setCell ⟨w.heap.size + 2, 0, none⟩ (.slice a1' n1 cc1)).setCell ⟨w.heap.size + 2, 1, none⟩ (.slice a2' (dyN x y) cc2))) := by
    intro W lo a1' n1 cc1 a2' cc2 hW hlo h0 hn hr hcc
    rw [eA, eE, if_pos h0, h0]
    refine ⟨⟨_, rfl, fin_store (lo := lo) (arIn_mk (n := m) (x := .mk (agrL x.shape y.shape) (numCs 0 ((List.range (dyN x y)).map V))) hr ?_ hcc hn ?_) (by omega) (by omega)⟩, below_set2 hW (by omega)⟩
    · show (numCs 0 ((List.range (dyN x y)).map V)).length ≤ _
      rw [numCs_len, vals_len]; omega
    · show (numCs 0 ((List.range (dyN x y)).map V)).length = _
      rw [numCs_len, vals_len]
  rw [hag] at CG
  have HLX : Hid (x.cells.length ≤ 5864062014805 ∧ y.cells.length ≤ 5864062014805) := ⟨hlx, hly⟩
  have HS3 := hide s3
  generalize dyE op x y = ME at *
  generalize dyA op x y = MA at *
  generalize agrL x.shape y.shape = AL at *
  generalize dyN x y = N at *
  clear eE eA hV hE hRx hRy hlx hly hcx hcy hx hy hsx hsy d1 d2 dz B3 HNIL hck hcl h54 hop hag hsz s3
  generalize x.shape.length = SA at *
  generalize x.cells.length = CA at *
  generalize y.shape.length = SB at *
  generalize y.cells.length = CB at *
  go_enter Tryd.func19, Tryd.ntmps19
  go_wp2_with fail
  rw [← e3]
  refine C0.out.mono ?_
  rintro e w1 ⟨rfl, hb1⟩
  obtain ⟨⟨k1, k2⟩, ⟨k3, k4⟩, kz⟩ := HK.out w1 hb1
  clear kz
  go_wp2_with fail
  refine (C1.out _ hb1).mono ?_
  rintro e w2 ⟨rfl, hb2⟩
  clear k1 k2 k3 k4
  obtain ⟨⟨k1, k2⟩, ⟨k3, k4⟩, kz⟩ := HK.out w2 hb2
  go_wp2_with fail
  refine (CG.out _ hb2).mono ?_
  rintro e w3 ⟨⟨t, nn, c, rfl, hnn, hrr⟩, hb3⟩
  clear k1 k2 k3 k4 kz
  obtain ⟨⟨k1, k2⟩, ⟨k3, k4⟩, kz⟩ := HK.out w3 hb3
  obtain ⟨ez, CZ'⟩ := CZ.out w3 t c nn hnn hrr
  have HCZ := hide CZ'
  clear CZ' CZ CG C0 C1
  go_wp2_with fail
  refine HCZ.out.mono ?_
  rintro e w4 ⟨rfl, hw⟩
  rw [hw]
  clear hw HCZ
  have HNN := hide hnn
  have bW := HBB.out _ hb3
  have hsz3 := hb3.size
  have OWN := World.ownsRow_nil (base := w3.heap.size + 1) (e := 3) (size := 1) (w3.alloc (.cells #[.slice none 0 0, .slice none 0 0] 25))
  have RW := hrr.next (one_alloc w3 (.cells #[.slice none 0 0, .slice none 0 0] 25))
  have hnn8 : nn ≤ 8 := by omega
  clear hnn hrr
  go_wp2_with (at_builtin; refine wpList_append_row (by rfl) _ _ 22 rfl (w3.heap.size + 1) 3 i3 (.int .i64 0) 8 Tryd.underlying22 hi3 hz30 hz31 hz32 rfl _ _ _ rfl OWN t nn c AL rfl HNN.out RW ?c3 ?c4 ?c5 ?_)
  case c3 => unfold maxLen; omega
  case c4 => omega
  case c5 => simp
  intro v' w4 hown4 hb4
  have hown4' : w4.ownsRow (w3.heap.size + 1) 3 1 v' AL.length (AL.map (Value.int .i64)) := by rw [HNN.out]; exact hown4
  obtain ⟨ga, gc, hv', hRow⟩ := owns_row AL (by omega) hown4'
  rw [HNN.out] at hv'
  subst hv'
  obtain ⟨W5, e5⟩ : ∃ W5, W5 = w4.setCell ⟨w3.heap.size, 0, none⟩ (.slice ga nn gc) := ⟨_, rfl⟩
  have z4 : w4.rowIs w3.heap.size 25 2 (fun _ => .slice none 0 0) := (nil_row w3).of_block (hb4.block _ (by omega))
  have y0 := z4.cell (i := 0) (by omega)
  have y1 := z4.cell (i := 1) (by omega)
  have g0 := z4.frozen 0
  have g1 := z4.frozen 1
  have b14 : Below w3.heap.size w3 w4 := (one_alloc w3 (.cells #[.slice none 0 0, .slice none 0 0] 25)).trans (hb4.mono (by omega))
  have b15 : Below w3.heap.size w3 W5 := by rw [e5]; exact b14.setCell (p := ⟨w3.heap.size, 0, none⟩) (Nat.le_refl _) _
  have s4 := hb4.size
  rw [size_alloc1'] at s4
  have s5 : W5.heap.size = w4.heap.size := by rw [e5]; simp
  have z5 := z4.set 0 (.slice ga nn gc)
  rw [← e5] at z5
  have HB15 := hide b15
  have HRow5 : Hid (Row (w3.heap.size + 1) W5 ga AL) := by rw [e5]; exact hRow.keeps ((Keeps.refl _ _).setCell (p := ⟨w3.heap.size, 0, none⟩) (by show w3.heap.size < _; omega) _)
  have HST : Hid (Grows W5 w3.heap.size (.slice ga nn gc) (numT V) 0 (.slice none 0 0) W5) :=
    ⟨Nat.le_refl _, fun _ _ _ => rfl, by rw [z5.cell (by omega)]; simp, by rw [z5.cell (by omega)]; simp, z5.frozen 1, World.ownsRow_nil _ _ _ _⟩
  have HO5 : Hid (w3.heap.size < W5.heap.size) := by show _ < _; omega
  have HFX : Hid (∀ W, Below w3.heap.size w3 W → (W.cell? ⟨w.heap.size, 0, none⟩ = some (.slice a1 SA c1) ∧ W.cell? ⟨w.heap.size, 1, none⟩ = some (.slice a2 CA c2)) ∧ (W.cell? ⟨w.heap.size + 1, 0, none⟩ = some (.slice b1 SB l1) ∧ W.cell? ⟨w.heap.size + 1, 1, none⟩ = some (.slice b2 CB l2)) ∧ W.rowIs (w.heap.size + 2) 25 2 (fun _ => .slice none 0 0)) := fun W h => HK.out W (hb3.trans (h.mono hb3.size))
  have HL1 : Hid (w.heap.size + 3 ≤ w3.heap.size) := by have := HS3.out; show _ ≤ _; omega
  clear HK HBB hb1 hb2 hb3 kz hsz3 OWN RW hown4 hown4' hRow z4 b14 b15 s4 s5 z5
  go_wp2_with fail
  rw [← e5]
  clear e5 y0 y1 g0 g1 hb4 k1 k2 k3 k4
  go_loopw [15] (fun i wr => ∃ (j : Nat) (v : Value), j ≤ N ∧ i = .int .i64 (j : Int) ∧ Below w3.heap.size w3 wr ∧ Grows W5 w3.heap.size (.slice ga nn gc) (numT V) j v wr ∧ firstUp E j = 0) (fun i _ => N - (intOf i).toNat)
  case atStart => exact ⟨0, _, Nat.zero_le _, rfl, HB15.out, HST.out, rfl⟩
  case round =>
    clear HST HB15
    obtain ⟨j, v, hj, rfl, hnx, hgr, h0⟩ := hrel
    have H0 := hide h0
    clear h0
    obtain ⟨⟨x0, x1⟩, ⟨x2, x3⟩, xz⟩ := HFX.out wr hnx
    have bwr := bW.trans (hnx.mono bW.size)
    by_cases hlt : j < N
    · obtain ⟨b, off, k, z, ab, nb, cb, ix, rfl, hix, r1, r2, hcell, g, goff, q, vv2, gb, ng, cg, iy, rfl, hiy, r3, r4, hcell', C⟩ := HC.out j hlt
      obtain ⟨p0, p1, p2⟩ := hcell wr bwr
      have hlx := HLX.out.1
      have hly := HLX.out.2
      have HR : Hid (E j ≠ 0 → firstUp E N = E j) := fun h => firstUp_hit H0.out h N hlt
      have HS : Hid (firstUp E (j + 1) = E j) := firstUp_step H0.out
      have HN : Hid (rowT (numT V) (j + 1) = rowT (numT V) j ++ [.int .i64 0, .int .i64 (V j), .slice none 0 0]) := rowT_step _ _
      generalize hu : E j = u at *
      generalize V j = vv at *
      clear hu
      have HCC := hide C
      have HCY := hide hcell'
      have hixZ : (0 : Int) ≤ (ix : Int) := by omega
      have hixN : (ix : Int) < (CA : Int) := by omega
      have hiyZ : (0 : Int) ≤ (iy : Int) := by omega
      have hiyN : (iy : Int) < (CB : Int) := by omega
      clear C HC hcell'
      have hca : ((CA : Int) == 0) = false := beq_eq_false_iff_ne.2 (by omega)
      have hcb : ((CB : Int) == 0) = false := beq_eq_false_iff_ne.2 (by omega)
      have hca1 : ¬ CA = 0 := by omega
      have hcb1 : ¬ CB = 0 := by omega
      have hca2 : ¬ (CA : Int) = 0 := by omega
      have hcb2 : ¬ (CB : Int) = 0 := by omega
      have HKA : Hid (∀ o, (wr.drew.alloc o).cell? ⟨w.heap.size, 1, none⟩ = some (.slice (some ⟨b, off, none⟩) CA c2) ∧ (wr.drew.alloc o).cell? ⟨b, off + ix * 3, none⟩ = some (.int .i64 k) ∧ (wr.drew.alloc o).cell? ⟨b, off + ix * 3 + 1, none⟩ = some (.int .i64 z) ∧ (wr.drew.alloc o).cell? ⟨b, off + ix * 3 + 2, none⟩ = some (.slice ab nb cb)) := by
        intro o
        have bo := (Below.refl wr.heap.size wr).drew.alloc (Nat.le_refl _) o
        exact ⟨(HFX.out _ (hnx.trans (bo.mono hnx.size))).1.2, hcell _ (bwr.trans (bo.mono bwr.size))⟩
      have HKR : Hid (wr.drew.cell? ⟨w.heap.size, 1, none⟩ = some (.slice (some ⟨b, off, none⟩) CA c2) ∧ wr.drew.cell? ⟨b, off + ix * 3, none⟩ = some (.int .i64 k) ∧ wr.drew.cell? ⟨b, off + ix * 3 + 1, none⟩ = some (.int .i64 z) ∧ wr.drew.cell? ⟨b, off + ix * 3 + 2, none⟩ = some (.slice ab nb cb)) := ⟨x1, p0, p1, p2⟩
      go_wp2_with fail
      go_cut [16] from 65 to 104 (fun s16 wx => s16 = .pointer (some ⟨wr.heap.size, 0, none⟩) ∧ wx = (wr.alloc (.cells #[.int .i64 k, .int .i64 z, .slice ab nb cb] 35)).drew)
      case first =>
        go_region_held3 (fun W => W.cell? ⟨w.heap.size, 1, none⟩ = some (.slice (some ⟨b, off, none⟩) CA c2) ∧ W.cell? ⟨b, off + ix * 3, none⟩ = some (.int .i64 k) ∧ W.cell? ⟨b, off + ix * 3 + 1, none⟩ = some (.int .i64 z) ∧ W.cell? ⟨b, off + ix * 3 + 2, none⟩ = some (.slice ab nb cb))
          (first | exact HKR.out | exact HKA.out _) (fail)
        all_goals
          go_wp2
          go_meet
          case rel => exact ⟨rfl, rfl⟩
      case rest =>
      obtain ⟨rfl, rfl⟩ := hcut
      clear HKA HKR x0 x1 x2 x3 p0 p1 p2
      obtain ⟨W6, e6⟩ : ∃ W6, W6 = (wr.alloc (.cells #[.int .i64 k, .int .i64 z, .slice ab nb cb] 35)).drew := ⟨_, rfl⟩
      rw [← e6]
      have b6 : Below wr.heap.size wr W6 := by rw [e6]; exact (one_alloc _ _).drew
      have s6 : W6.heap.size = wr.heap.size + 1 := by rw [e6]; exact size_alloc1' _ _
      have u6 : ∀ i v, #[Value.int .i64 k, .int .i64 z, .slice ab nb cb][i]? = some v → W6.cell? ⟨wr.heap.size, i, none⟩ = some v := fun i v hv => by rw [e6]; exact cell_new0 wr _ 35 i v hv
      clear e6
      have n6 := hnx.trans (b6.mono hnx.size)
      have bw6 := bwr.trans (b6.mono bwr.size)
      have hg6 := hgr.next HO5.out b6
      have HU6 := hide u6
      have HS6 := hide s6
      clear u6 s6
      obtain ⟨p0, p1, p2⟩ := HCY.out W6 bw6
      obtain ⟨-, ⟨x2, x3⟩, xz6⟩ := HFX.out W6 n6
      have HKA : Hid (∀ o, (W6.drew.alloc o).cell? ⟨w.heap.size + 1, 1, none⟩ = some (.slice (some ⟨g, goff, none⟩) CB l2) ∧ (W6.drew.alloc o).cell? ⟨g, goff + iy * 3, none⟩ = some (.int .i64 q) ∧ (W6.drew.alloc o).cell? ⟨g, goff + iy * 3 + 1, none⟩ = some (.int .i64 vv2) ∧ (W6.drew.alloc o).cell? ⟨g, goff + iy * 3 + 2, none⟩ = some (.slice gb ng cg)) := by
        intro o
        have bo := (Below.refl W6.heap.size W6).drew.alloc (Nat.le_refl _) o
        exact ⟨(HFX.out _ (n6.trans (bo.mono n6.size))).2.1.2, HCY.out _ (bw6.trans (bo.mono bw6.size))⟩
      have HKR : Hid (W6.drew.cell? ⟨w.heap.size + 1, 1, none⟩ = some (.slice (some ⟨g, goff, none⟩) CB l2) ∧ W6.drew.cell? ⟨g, goff + iy * 3, none⟩ = some (.int .i64 q) ∧ W6.drew.cell? ⟨g, goff + iy * 3 + 1, none⟩ = some (.int .i64 vv2) ∧ W6.drew.cell? ⟨g, goff + iy * 3 + 2, none⟩ = some (.slice gb ng cg)) := ⟨x3, p0, p1, p2⟩
      clear xz
      go_wp2_with fail
      go_cut [17] from 65 to 104 (fun s17 wx => s17 = .pointer (some ⟨W6.heap.size, 0, none⟩) ∧ wx = (W6.alloc (.cells #[.int .i64 q, .int .i64 vv2, .slice gb ng cg] 35)).drew)
      case first =>
        go_region_held3 (fun W => W.cell? ⟨w.heap.size + 1, 1, none⟩ = some (.slice (some ⟨g, goff, none⟩) CB l2) ∧ W.cell? ⟨g, goff + iy * 3, none⟩ = some (.int .i64 q) ∧ W.cell? ⟨g, goff + iy * 3 + 1, none⟩ = some (.int .i64 vv2) ∧ W.cell? ⟨g, goff + iy * 3 + 2, none⟩ = some (.slice gb ng cg))
          (first | exact HKR.out | exact HKA.out _) (fail)
        all_goals
          go_wp2
          go_meet
          case rel => exact ⟨rfl, rfl⟩
      case rest =>
      obtain ⟨rfl, rfl⟩ := hcut
      clear HKA HKR x2 x3 p0 p1 p2
      obtain ⟨W7, e7⟩ : ∃ W7, W7 = (W6.alloc (.cells #[.int .i64 q, .int .i64 vv2, .slice gb ng cg] 35)).drew := ⟨_, rfl⟩
      rw [← e7]
      have b7 : Below W6.heap.size W6 W7 := by rw [e7]; exact (one_alloc _ _).drew
      have s7 : W7.heap.size = W6.heap.size + 1 := by rw [e7]; exact size_alloc1' _ _
      have u7 : ∀ i v, #[Value.int .i64 q, .int .i64 vv2, .slice gb ng cg][i]? = some v → W7.cell? ⟨W6.heap.size, i, none⟩ = some v := fun i v hv => by rw [e7]; exact cell_new0 W6 _ 35 i v hv
      clear e7
      have o0 := (b7.cell (p := ⟨wr.heap.size, 0, none⟩) (by have := HS6.out; show wr.heap.size < _; omega)).trans (HU6.out 0 _ rfl)
      have o1 := (b7.cell (p := ⟨wr.heap.size, 1, none⟩) (by have := HS6.out; show wr.heap.size < _; omega)).trans (HU6.out 1 _ rfl)
      have o2 := (b7.cell (p := ⟨wr.heap.size, 2, none⟩) (by have := HS6.out; show wr.heap.size < _; omega)).trans (HU6.out 2 _ rfl)
      have o3 := u7 0 _ rfl
      have o4 := u7 1 _ rfl
      have o5 := u7 2 _ rfl
      have n7 := n6.trans (b7.mono n6.size)
      have bw7 := bw6.trans (b7.mono bw6.size)
      have hg7 := hg6.next HO5.out b7
      obtain ⟨-, -, xz7⟩ := HFX.out W7 n7
      clear u7 HU6 b6 b7 HS6 s7 n6 bw6 hg6 hgr hnx bwr xz6
      by_cases hu0 : u = 0
      · subst hu0
        go_wp2_with fail
        clear o0 o1 o2 o3 o4 o5
        refine (HCC.out _).mono ?_
        rintro e w6 ⟨rfl, hb6⟩
        have hg8' := hg7.next HO5.out hb6
        have n8 := n7.trans (hb6.mono n7.size)
        have o6 : w3.heap.size < w6.heap.size := Nat.lt_of_lt_of_le HO5.out hg8'.size
        have c1' := hg8'.c1
        have f1' := hg8'.f1
        have hg8 := hg8'.next HO5.out (two_allocs w6 (.cells #[.int .i64 0, .int .i64 vv, .slice none 0 0] 35) (.cells #[.int .i64 0, .int .i64 vv, .slice none 0 0] 35))
        have OWN8 := hg8.own
        have hs8 := size_two w6 (.cells #[.int .i64 0, .int .i64 vv, .slice none 0 0] 35) (.cells #[.int .i64 0, .int .i64 vv, .slice none 0 0] 35)
        have HG8 := hide hg8
        have HN8 := hide (n8.trans ((two_allocs w6 (.cells #[.int .i64 0, .int .i64 vv, .slice none 0 0] 35) (.cells #[.int .i64 0, .int .i64 vv, .slice none 0 0] 35)).mono n8.size))
        have HZ8 := hide (Nat.le_trans hg8'.size (show w6.heap.size ≤ ((w6.alloc (.cells #[.int .i64 0, .int .i64 vv, .slice none 0 0] 35)).alloc (.cells #[.int .i64 0, .int .i64 vv, .slice none 0 0] 35)).heap.size by rw [hs8]; omega))
        have HNW : Hid (∀ i u, [Value.int .i64 0, .int .i64 vv, .slice none 0 0][i]? = some u → ((w6.alloc (.cells #[.int .i64 0, .int .i64 vv, .slice none 0 0] 35)).alloc (.cells #[.int .i64 0, .int .i64 vv, .slice none 0 0] 35)).cell? ((⟨w6.heap.size + 1, 0, none⟩ : Addr).add i) = some u) := by
          intro i u hu
          rw [add_off, Nat.zero_add]
          exact cell_new2 w6 _ 35 (0, 0) _ i u (by simpa using hu)
        clear hg8 hs8 hg8' n8 hg7 n7 hb6 HCC xz7 HR bw7
        go_wp2_with (at_builtin; refine wpList_append_B rfl _ _ 23 rfl W5.heap.size 35 i0 (.agg #[.int .i64 0, .int .i64 0, .slice none 0 0]) 3 40 Tryd.underlying23 hi hz0 hz1 hz2 rfl (by decide) _ _ _ rfl OWN8 ⟨w6.heap.size + 1, 0, none⟩ 1 1 [.int .i64 0, .int .i64 vv, .slice none 0 0] rfl rfl HNW.out ?c2 ?c3 ?c4 HZ8.out ?_)
        case c2 =>
          intro u hu
          simp at hu
          rcases hu with rfl | rfl | rfl <;> rfl
        case c3 => unfold maxLen; omega
        case c4 => omega
        intro v' w9 hown9 hb9
        obtain ⟨g', cp, rfl, -⟩ := owns_form hown9 (Nat.succ_pos j)
        have hown9' : w9.ownsRow W5.heap.size 35 3 (.slice (some ⟨g', 0, none⟩) (j + 1) cp) (j + 1) (rowT (numT V) (j + 1)) := by rw [HN.out]; exact hown9
        have HF := hide (HG8.out.step HO5.out hb9 hown9')
        have HFB := hide ((HN8.out.trans (hb9.mono (Nat.le_of_lt HO5.out))).setCell (p := ⟨w3.heap.size, 1, none⟩) (Nat.le_refl _) (.slice (some ⟨g', 0, none⟩) (j + 1) cp))
        have c9 : w9.cell? ⟨w3.heap.size, 1, none⟩ = some v := (hb9.cell (p := ⟨w3.heap.size, 1, none⟩) HO5.out).trans HG8.out.c1
        have f9 : w9.frozen? ⟨w3.heap.size, 1, none⟩ = false := (hb9.frozen (p := ⟨w3.heap.size, 1, none⟩) HO5.out).trans HG8.out.f1
        clear hown9 hown9' hb9 HG8 HN8 HZ8 HNW OWN8 c1' f1' HN
        go_wp2
        go_roundw
        case rel => exact ⟨j + 1, _, by omega, by go_num, HFB.out, HF.out, HS.out⟩
        case measure => simp [intOf]; omega
      · have HU := hide hu0
        have hub : (u == 0) = false := beq_eq_false_iff_ne.2 hu0
        have HFU := hide (HR.out HU.out)
        have HQ : Hid (∀ W, Below w.heap.size w W → GivesE (m + 1) w.heap.size MA ME w (.returned (.tuple #[.agg #[.slice none 0 0, .slice none 0 0], .int .i64 u])) W) := fun W h => (congrArg (fun t => GivesE (m + 1) w.heap.size MA ME w (.returned (.tuple #[.agg #[.slice none 0 0, .slice none 0 0], .int .i64 t])) W) HFU.out).mp (HBAD.out W h (by rw [HFU.out]; exact HU.out))
        clear HR HS HN hu0 HBAD HEND
        go_wp2_with fail
        clear o0 o1 o2 o3 o4 o5
        refine (HCC.out _).mono ?_
        rintro e w6 ⟨rfl, hb6⟩
        have hl1 := HL1.out
        have z6 : w6.rowIs (w.heap.size + 2) 25 2 (fun _ => .slice none 0 0) := xz7.of_block (hb6.block _ (by have := n7.size; omega))
        have hzz : w.heap.size + 2 < w6.heap.size := by have := n7.size; have := hb6.size; omega
        have b6 := bw7.trans (hb6.mono bw7.size)
        have y0 := z6.cell (i := 0) (by omega)
        have y1 := z6.cell (i := 1) (by omega)
        have g0 := z6.frozen 0
        have g1 := z6.frozen 1
        have HT2 : ∀ o i, i < 2 → (((w6.setCell ⟨w.heap.size + 2, 0, none⟩ (.slice none 0 0)).setCell ⟨w.heap.size + 2, 1, none⟩ (.slice none 0 0)).alloc o).cell? ⟨w.heap.size + 2, i, none⟩ = some (.slice none 0 0) := by
          intro o i hi
          have zz := (z6.set 0 (.slice none 0 0)).set 1 (.slice none 0 0)
          have bb := one_alloc ((w6.setCell ⟨w.heap.size + 2, 0, none⟩ (.slice none 0 0)).setCell ⟨w.heap.size + 2, 1, none⟩ (.slice none 0 0)) o
          have hss : ((w6.setCell ⟨w.heap.size + 2, 0, none⟩ (.slice none 0 0)).setCell ⟨w.heap.size + 2, 1, none⟩ (.slice none 0 0)).heap.size = w6.heap.size := by simp
          rw [bb.cell (p := ⟨w.heap.size + 2, i, none⟩) (by show w.heap.size + 2 < _; omega), zz.cell hi]
          simp
        have HT := hide (And.intro (fun o => HT2 o 0 (by omega)) (fun o => HT2 o 1 (by omega)))
        have HLB : Hid (∀ o, Below w.heap.size w (((w6.setCell ⟨w.heap.size + 2, 0, none⟩ (.slice none 0 0)).setCell ⟨w.heap.size + 2, 1, none⟩ (.slice none 0 0)).alloc o)) := fun o => (below_set2 b6 (by omega)).alloc (below_set2 b6 (by omega)).size o
        clear HT2 z6 hg7 n7 hb6 b6 xz7 HCC bw7 bW
        go_wp2
        exact bodyPost_ret (v := .tuple #[.agg #[.slice none 0 0, .slice none 0 0], .int .i64 u]) (by simp [results, Tryd.results19, go_sem, HT.out.1, HT.out.2]) rfl (HQ.out _ (HLB.out _))
    · have hje : j = N := by omega
      subst hje
      obtain ⟨a2', cp, rfl, hcs⟩ := owns_nums (n := m) V hgr.own
      have q0 := hgr.c0
      have q1 := hgr.c1
      have hl1 := HL1.out
      have y0 := xz.cell (i := 0) (by omega)
      have y1 := xz.cell (i := 1) (by omega)
      have g0 := xz.frozen 0
      have g1 := xz.frozen 1
      have HT := hide (two_read xz (.slice ga nn gc) (.slice a2' j cp))
      have HQ := hide (HEND.out wr (w3.heap.size + 1) ga nn gc a2' cp bwr (by omega) H0.out HNN.out (HRow5.out.keeps hgr.keeps) (hcs.mono HO5.out (Below.refl _ _)))
      clear hgr hcs HBAD HEND HC HFX xz
      go_wp2
      exact bodyPost_ret (v := .tuple #[.agg #[.slice ga nn gc, .slice a2' j cp], .int .i64 0]) (by simp [results, Tryd.results19, go_sem, HT.out.1, HT.out.2]) rfl HQ.out
end Go.Proofs.YtkigfmfegldhcaaDoor
