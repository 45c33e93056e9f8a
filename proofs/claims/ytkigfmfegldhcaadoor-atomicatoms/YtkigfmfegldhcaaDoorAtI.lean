/-
  The contract of layer 4's Dy; for all arrays of 64 bits, the table of layer 4 in its place.
-/
import Derived.Test.YtkigfmfegldhcaaDoorAtH
namespace Go.Proofs.YtkigfmfegldhcaaDoor
open Go.ChangeShapes Go.WideShapes Go.ChangeAt Go.RowKit
open Num (resV resE In64 sgnI absI)
set_option linter.unusedVariables false
theorem dy_chk1 {op : Int} {x y : Ar} (h : chkA 8 x ≠ 0) : dyE op x y = chkA 8 x ∧ dyA op x y = .mk [] [] := by
  have : dyE op x y = chkA 8 x := by unfold dyE; rw [if_pos h]
  exact ⟨this, by unfold dyA; rw [this, if_neg h]⟩
theorem dy_chk2 {op : Int} {x y : Ar} (h : chkA 8 x = 0) (h2 : chkA 8 y ≠ 0) : dyE op x y = chkA 8 y ∧ dyA op x y = .mk [] [] := by
  have : dyE op x y = chkA 8 y := by unfold dyE; rw [if_neg (fun k => k h), if_pos h2]
  exact ⟨this, by unfold dyA; rw [this, if_neg h2]⟩
theorem dy_nonce {x y : Ar} (h : chkA 8 x = 0) (h2 : chkA 8 y = 0) : dyE 54 x y = 10 ∧ dyA 54 x y = .mk [] [] := by
  have : dyE 54 x y = 10 := by unfold dyE; rw [if_neg (fun k => k h), if_neg (fun k => k h2), if_pos rfl]
  exact ⟨this, by unfold dyA; rw [this, if_neg (by decide)]⟩
theorem dy_arg {op : Int} {x y : Ar} (h : chkA 8 x = 0) (h2 : chkA 8 y = 0) (h3 : ¬ op = 54) (h4 : isOp op = false) : dyE op x y = 1 ∧ dyA op x y = .mk [] [] := by
  have : dyE op x y = 1 := by unfold dyE; rw [if_neg (fun k => k h), if_neg (fun k => k h2), if_neg h3, if_pos h4]
  exact ⟨this, by unfold dyA; rw [this, if_neg (by decide)]⟩
theorem dy_agr {op : Int} {x y : Ar} (h : chkA 8 x = 0) (h2 : chkA 8 y = 0) (h3 : ¬ op = 54) (h4 : isOp op = true) (h5 : agrE x.shape y.shape ≠ 0) : dyE op x y = agrE x.shape y.shape ∧ dyA op x y = .mk [] [] := by
  have : dyE op x y = agrE x.shape y.shape := by unfold dyE; rw [if_neg (fun k => k h), if_neg (fun k => k h2), if_neg h3, if_neg (by rw [h4]; decide), if_pos h5]
  exact ⟨this, by unfold dyA; rw [this, if_neg h5]⟩
theorem dy_do {op : Int} {x y : Ar} (h : chkA 8 x = 0) (h2 : chkA 8 y = 0) (h3 : ¬ op = 54) (h4 : isOp op = true) (h5 : agrE x.shape y.shape = 0) : dyE op x y = firstUp (fun i => c2E op (sideC x i) (sideC y i)) (dyN x y) := by
  unfold dyE; rw [if_neg (fun k => k h), if_neg (fun k => k h2), if_neg h3, if_neg (by rw [h4]; decide), if_neg (fun k => k h5)]
theorem agr_ok {l m : List Int} (h : agrE l m = 0) (h1 : l ≠ []) (h2 : m ≠ []) : l = m := by
  unfold agrE at h
  rw [if_neg h1, if_neg h2] at h
  by_cases h3 : l.length = m.length
  · rw [if_pos h3] at h
    by_cases h4 : l = m
    · exact h4
    · rw [if_neg h4] at h; omega
  · rw [if_neg h3] at h; omega
theorem side_x {x y : Ar} {i : Nat} (h : chkA 8 x = 0) (hi : i < dyN x y) : (if x.shape = [] then 0 else i) < x.cells.length := by
  unfold dyN at hi
  split
  · have := chk_atomic h ‹_›; omega
  · rw [if_neg ‹_›] at hi; exact hi
theorem side_y {x y : Ar} {i : Nat} (h : chkA 8 x = 0) (h2 : chkA 8 y = 0) (ha : agrE x.shape y.shape = 0) (hi : i < dyN x y) : (if y.shape = [] then 0 else i) < y.cells.length := by
  unfold dyN at hi
  split
  · have := chk_atomic h2 ‹_›; omega
  · rename_i hy
    by_cases hx : x.shape = []
    · rw [if_pos hx] at hi; exact hi
    · rw [if_neg hx] at hi
      have e := agr_ok ha hx hy
      have s1 := (chk_size h).2
      have s2 := (chk_size h2).2
      rw [e] at s1
      omega
theorem sideC_at (x : Ar) (i : Nat) : sideC x i = cAt x.cells (if x.shape = [] then 0 else i) := by
  unfold sideC; split <;> rfl
/-- What a closure finds of a boxed array whose cells lie in memory. -/
theorem side_of {n lo : Nat} {w w' : World} {x : Ar} {i A : Nat} {a1 a2 : Option Addr} {c1 c2 : Nat} (hc : CellsIn n lo w x.cells a2) (hl : x.cells.length ≤ 5864062014805) (hs : Snd x) (hi : (if x.shape = [] then 0 else i) < x.cells.length) (hw : Below w.heap.size w w') (hA : A < w'.heap.size)
    (f0 : w'.cell? ⟨A, 0, none⟩ = some (.slice a1 x.shape.length c1)) (f1 : w'.cell? ⟨A, 1, none⟩ = some (.slice a2 x.cells.length c2)) :
    ∃ b off k z ab nb cb, a2 = some ⟨b, off, none⟩ ∧ Side x i A a1 x.shape.length c1 x.cells.length c2 b off k z ab nb cb w' := by
  obtain ⟨b, off, z0, z1, ab, nb, cb, rfl, hcs⟩ := cells_at hc _ hi
  obtain ⟨g0, g1, g2, g3⟩ := hcs w' hw
  obtain ⟨u0, u1, -⟩ := g3
  simp only [Value.int.injEq, true_and] at u0 u1
  have hbw : b < w'.heap.size := by
    rcases Nat.lt_or_ge b w'.heap.size with hh | hh
    · exact hh
    · have : w'.heap[b]? = none := Array.getElem?_eq_none hh
      simp [World.cell?, this] at g0
  refine ⟨b, off, z0, z1, ab, nb, cb, rfl, f0, f1, hA, hbw, rfl, hl, hi, g0, g1, g2, ?_, ?_⟩
  · rw [sideC_at]; exact ⟨u0.symm, u1.symm⟩
  · rw [u1]; exact (hs.cell (mem_cAt hi)).2.1
theorem four_allocs (w : World) (o1 o2 o3 o4 : Obj) : Below w.heap.size w ((((w.alloc o1).alloc o2).alloc o3).alloc o4) := (three_allocs w o1 o2 o3).trans ((one_alloc _ o4).mono (three_allocs w o1 o2 o3).size)
theorem size_four (w : World) (o1 o2 o3 o4 : Obj) : ((((w.alloc o1).alloc o2).alloc o3).alloc o4).heap.size = w.heap.size + 4 := by simp
set_option maxRecDepth 20000 in
set_option maxHeartbeats 8000000 in
theorem dy_any (m n n' lo lo' : Nat) (op : Int) (x y : Ar) (va vb : Value) (w : World) (T : Tab w) (hx : ArIn n lo w x va) (hy : ArIn n' lo' w y vb) (hsx : Snd x) (hsy : Snd y) :
    Calls Tryd.prog 18 #[.int .i64 op, va, vb] w fun e w' => GivesE (m + 1) w.heap.size (dyA op x y) (dyE op x y) w e w' := by
  cases n with
  | zero => exact hx.elim
  | succ n =>
  cases n' with
  | zero => exact hy.elim
  | succ n' =>
  obtain ⟨a1, c1, a2, c2, rfl⟩ := hx.form
  obtain ⟨b1, l1, b2, l2, rfl⟩ := hy.form
  obtain ⟨-, -, hRx, hlx, hcx⟩ := cells_of hx
  obtain ⟨-, -, hRy, hly, hcy⟩ := cells_of hy
  obtain ⟨W4, e4⟩ : ∃ W4, W4 = (((w.alloc (.cells #[.int .i64 op] 3)).alloc (.cells #[.slice a1 x.shape.length c1, .slice a2 x.cells.length c2] 25)).alloc (.cells #[.slice b1 y.shape.length l1, .slice b2 y.cells.length l2] 25)).alloc (.cells #[.slice none 0 0, .slice none 0 0] 25) := ⟨_, rfl⟩
  have B4 : Below w.heap.size w W4 := by rw [e4]; exact four_allocs _ _ _ _ _
  have s4 : W4.heap.size = w.heap.size + 4 := by rw [e4]; exact size_four _ _ _ _ _
  have s3 := size_three w (.cells #[.int .i64 op] 3) (.cells #[.slice a1 x.shape.length c1, .slice a2 x.cells.length c2] 25) (.cells #[.slice b1 y.shape.length l1, .slice b2 y.cells.length l2] 25)
  have s2 := size_two w (.cells #[.int .i64 op] 3) (.cells #[.slice a1 x.shape.length c1, .slice a2 x.cells.length c2] 25)
  have up : ∀ b i v, b < w.heap.size + 3 → (((w.alloc (.cells #[.int .i64 op] 3)).alloc (.cells #[.slice a1 x.shape.length c1, .slice a2 x.cells.length c2] 25)).alloc (.cells #[.slice b1 y.shape.length l1, .slice b2 y.cells.length l2] 25)).cell? ⟨b, i, none⟩ = some v → W4.cell? ⟨b, i, none⟩ = some v := by
    intro b i v hb hv
    rw [e4]
    exact ((one_alloc _ _).cell (p := ⟨b, i, none⟩) (by rw [s3]; exact hb)).trans hv
  have up2 : ∀ b i v, b < w.heap.size + 2 → ((w.alloc (.cells #[.int .i64 op] 3)).alloc (.cells #[.slice a1 x.shape.length c1, .slice a2 x.cells.length c2] 25)).cell? ⟨b, i, none⟩ = some v → W4.cell? ⟨b, i, none⟩ = some v := fun b i v hb hv => up b i v (by omega) (((one_alloc _ _).cell (p := ⟨b, i, none⟩) (by rw [s2]; exact hb)).trans hv)
  have d0 : W4.cell? ⟨w.heap.size, 0, none⟩ = some (.int .i64 op) := up2 _ _ _ (by omega) (cell_new1 w _ 3 (0, 0) _ 0 _ rfl)
  have d1 : ∀ i v, #[Value.slice a1 x.shape.length c1, .slice a2 x.cells.length c2][i]? = some v → W4.cell? ⟨w.heap.size + 1, i, none⟩ = some v := fun i v hv => up2 _ _ _ (by omega) (cell_new2 w _ 25 (0, 0) _ i _ hv)
  have d2 : ∀ i v, #[Value.slice b1 y.shape.length l1, .slice b2 y.cells.length l2][i]? = some v → W4.cell? ⟨w.heap.size + 2, i, none⟩ = some v := fun i v hv => up _ _ _ (by omega) (by
    have := cell_new0 ((w.alloc (.cells #[.int .i64 op] 3)).alloc (.cells #[.slice a1 x.shape.length c1, .slice a2 x.cells.length c2] 25)) #[.slice b1 y.shape.length l1, .slice b2 y.cells.length l2] 25 i v hv
    rw [s2] at this
    exact this)
  have dz : W4.rowIs (w.heap.size + 3) 25 2 (fun _ => .slice none 0 0) := by
    rw [e4, ← s3]
    exact nil_row _
  clear up up2 s2
  have HBB : Hid (∀ W, Below W4.heap.size W4 W → Below w.heap.size w W) := fun W h => B4.trans (h.mono B4.size)
  have C0 := hide (check_any (n + 1) x lo _ W4 (hx.next B4))
  have C1 : Hid (∀ W, Below W4.heap.size W4 W → Calls Tryd.prog 27 #[.agg #[.slice b1 y.shape.length l1, .slice b2 y.cells.length l2]] W fun e w' => e = .returned (.int .i64 (chkA 8 y)) ∧ Below W4.heap.size W4 w') := fun W h => (check_any (n' + 1) y lo' _ W (hy.next (HBB.out W h))).mono fun e w' ⟨he, hb⟩ => ⟨he, h.trans (hb.mono h.size)⟩
  have HK : Hid (∀ W, Below W4.heap.size W4 W → W.cell? ⟨w.heap.size, 0, none⟩ = some (.int .i64 op) ∧ (W.cell? ⟨w.heap.size + 1, 0, none⟩ = some (.slice a1 x.shape.length c1) ∧ W.cell? ⟨w.heap.size + 1, 1, none⟩ = some (.slice a2 x.cells.length c2)) ∧ (W.cell? ⟨w.heap.size + 2, 0, none⟩ = some (.slice b1 y.shape.length l1) ∧ W.cell? ⟨w.heap.size + 2, 1, none⟩ = some (.slice b2 y.cells.length l2)) ∧ W.rowIs (w.heap.size + 3) 25 2 (fun _ => .slice none 0 0)) := by
    intro W h
    have t : ∀ b i v, b < w.heap.size + 4 → W4.cell? ⟨b, i, none⟩ = some v → W.cell? ⟨b, i, none⟩ = some v := fun b i v hb hv => (h.cell (p := ⟨b, i, none⟩) (by rw [s4]; exact hb)).trans hv
    exact ⟨t _ _ _ (by omega) d0, ⟨t _ _ _ (by omega) (d1 0 _ rfl), t _ _ _ (by omega) (d1 1 _ rfl)⟩, ⟨t _ _ _ (by omega) (d2 0 _ rfl), t _ _ _ (by omega) (d2 1 _ rfl)⟩, dz.of_block (h.block _ (by omega))⟩
  have HNIL : Hid (∀ W, Below W4.heap.size W4 W → ∀ u, dyE op x y = u → dyA op x y = .mk [] [] → GivesE (m + 1) w.heap.size (dyA op x y) (dyE op x y) w (.returned (.tuple #[.agg #[.slice none 0 0, .slice none 0 0], .int .i64 u])) ((W.setCell ⟨w.heap.size + 3, 0, none⟩ (.slice none 0 0)).setCell ⟨w.heap.size + 3, 1, none⟩ (.slice none 0 0))) := by
    intro W h u hu ha
    rw [hu, ha]
    exact ⟨⟨_, rfl, nil_arr _ _ _⟩, below_set2 (HBB.out W h) (by omega)⟩
  have CI := hide (fun W => is_any op W)
  by_cases hck : chkA 8 x = 0
  case neg =>
    obtain ⟨q1, q2⟩ := dy_chk1 (op := op) (y := y) hck
    have HQ := hide (fun W h => HNIL.out W h _ q1 q2)
    generalize chkA 8 x = E at *
    have hE : (E == 0) = false := beq_eq_false_iff_ne.2 hck
    clear q1 q2 hck C1 CI
    clear hRx hRy hlx hly hcx hcy hx hy hsx hsy d0 d1 d2 dz B4 s3 HNIL HBB T
    generalize x.shape.length = SA at *
    generalize x.cells.length = CA at *
    generalize y.shape.length = SB at *
    generalize y.cells.length = CB at *
    go_enter Tryd.func18, Tryd.ntmps18
    go_wp2_with fail
    rw [← e4]
    refine C0.out.mono ?_
    rintro e w1 ⟨rfl, hb1⟩
    obtain ⟨k0, ⟨k1, k2⟩, ⟨k3, k4⟩, kz⟩ := HK.out w1 hb1
    have y0 := kz.cell (i := 0) (by omega)
    have y1 := kz.cell (i := 1) (by omega)
    have g0 := kz.frozen 0
    have g1 := kz.frozen 1
    have HT := hide (two_read kz (.slice none 0 0) (.slice none 0 0))
    have HF := hide (HQ.out w1 hb1)
    clear HQ HK kz
    go_wp2
    exact bodyPost_ret (v := .tuple #[.agg #[.slice none 0 0, .slice none 0 0], .int .i64 E]) (by simp [results, Tryd.results18, go_sem, HT.out.1, HT.out.2]) rfl HF.out
  case pos =>
  by_cases hcl : chkA 8 y = 0
  case neg =>
    obtain ⟨q1, q2⟩ := dy_chk2 (op := op) hck hcl
    have HQ := hide (fun W h => HNIL.out W h _ q1 q2)
    rw [hck] at C0
    generalize chkA 8 y = E at *
    have hE : (E == 0) = false := beq_eq_false_iff_ne.2 hcl
    clear q1 q2 hck hcl CI
    clear hRx hRy hlx hly hcx hcy hx hy hsx hsy d0 d1 d2 dz B4 s3 HNIL HBB T
    generalize x.shape.length = SA at *
    generalize x.cells.length = CA at *
    generalize y.shape.length = SB at *
    generalize y.cells.length = CB at *
    go_enter Tryd.func18, Tryd.ntmps18
    go_wp2_with fail
    rw [← e4]
    refine C0.out.mono ?_
    rintro e w1 ⟨rfl, hb1⟩
    obtain ⟨k0, ⟨k1, k2⟩, ⟨k3, k4⟩, kz⟩ := HK.out w1 hb1
    clear kz
    go_wp2_with fail
    refine (C1.out _ hb1).mono ?_
    rintro e w2 ⟨rfl, hb2⟩
    clear k0 k1 k2 k3 k4
    obtain ⟨k0, ⟨k1, k2⟩, ⟨k3, k4⟩, kz⟩ := HK.out w2 hb2
    have y0 := kz.cell (i := 0) (by omega)
    have y1 := kz.cell (i := 1) (by omega)
    have g0 := kz.frozen 0
    have g1 := kz.frozen 1
    have HT := hide (two_read kz (.slice none 0 0) (.slice none 0 0))
    have HF := hide (HQ.out w2 hb2)
    clear HQ HK kz
    go_wp2
    exact bodyPost_ret (v := .tuple #[.agg #[.slice none 0 0, .slice none 0 0], .int .i64 E]) (by simp [results, Tryd.results18, go_sem, HT.out.1, HT.out.2]) rfl HF.out
  case pos =>
  rw [hck] at C0
  rw [hcl] at C1
  by_cases h54 : op = 54
  case pos =>
    subst h54
    obtain ⟨q1, q2⟩ := dy_nonce hck hcl
    have HQ := hide (fun W h => HNIL.out W h _ q1 q2)
    clear q1 q2 hck hcl CI
    clear hRx hRy hlx hly hcx hcy hx hy hsx hsy d0 d1 d2 dz B4 s3 HNIL HBB T
    generalize x.shape.length = SA at *
    generalize x.cells.length = CA at *
    generalize y.shape.length = SB at *
    generalize y.cells.length = CB at *
    go_enter Tryd.func18, Tryd.ntmps18
    go_wp2_with fail
    rw [← e4]
    refine C0.out.mono ?_
    rintro e w1 ⟨rfl, hb1⟩
    obtain ⟨k0, ⟨k1, k2⟩, ⟨k3, k4⟩, kz⟩ := HK.out w1 hb1
    clear kz
    go_wp2_with fail
    refine (C1.out _ hb1).mono ?_
    rintro e w2 ⟨rfl, hb2⟩
    clear k0 k1 k2 k3 k4
    obtain ⟨k0, ⟨k1, k2⟩, ⟨k3, k4⟩, kz⟩ := HK.out w2 hb2
    have y0 := kz.cell (i := 0) (by omega)
    have y1 := kz.cell (i := 1) (by omega)
    have g0 := kz.frozen 0
    have g1 := kz.frozen 1
    have HT := hide (two_read kz (.slice none 0 0) (.slice none 0 0))
    have HF := hide (HQ.out w2 hb2)
    clear HQ HK kz
    go_wp2
    exact bodyPost_ret (v := .tuple #[.agg #[.slice none 0 0, .slice none 0 0], .int .i64 10]) (by simp [results, Tryd.results18, go_sem, HT.out.1, HT.out.2]) rfl HF.out
  case neg =>
  have g54 : (op == 54) = false := beq_eq_false_iff_ne.2 h54
  by_cases hop : isOp op = true
  case neg =>
    have hop' : isOp op = false := by simpa using hop
    obtain ⟨q1, q2⟩ := dy_arg hck hcl h54 hop'
    have HQ := hide (fun W h => HNIL.out W h _ q1 q2)
    rw [hop'] at CI
    clear q1 q2 hck hcl hop hop'
    clear hRx hRy hlx hly hcx hcy hx hy hsx hsy d0 d1 d2 dz B4 s3 HNIL HBB T
    generalize x.shape.length = SA at *
    generalize x.cells.length = CA at *
    generalize y.shape.length = SB at *
    generalize y.cells.length = CB at *
    go_enter Tryd.func18, Tryd.ntmps18
    go_wp2_with fail
    rw [← e4]
    refine C0.out.mono ?_
    rintro e w1 ⟨rfl, hb1⟩
    obtain ⟨k0, ⟨k1, k2⟩, ⟨k3, k4⟩, kz⟩ := HK.out w1 hb1
    clear kz
    go_wp2_with fail
    refine (C1.out _ hb1).mono ?_
    rintro e w2 ⟨rfl, hb2⟩
    clear k0 k1 k2 k3 k4
    obtain ⟨k0, ⟨k1, k2⟩, ⟨k3, k4⟩, kz⟩ := HK.out w2 hb2
    go_wp2_with fail
    refine (CI.out _).mono ?_
    rintro e w3 ⟨rfl, hw⟩
    rw [hw]
    clear hw
    have y0 := kz.cell (i := 0) (by omega)
    have y1 := kz.cell (i := 1) (by omega)
    have g0 := kz.frozen 0
    have g1 := kz.frozen 1
    have HT := hide (two_read kz (.slice none 0 0) (.slice none 0 0))
    have HF := hide (HQ.out w2 hb2)
    clear HQ HK kz
    go_wp2
    exact bodyPost_ret (v := .tuple #[.agg #[.slice none 0 0, .slice none 0 0], .int .i64 1]) (by simp [results, Tryd.results18, go_sem, HT.out.1, HT.out.2]) rfl HF.out
  case pos =>
  rw [hop] at CI
  obtain ⟨f1, -, hS8, hC16, -⟩ := chk_ok hck
  obtain ⟨f2, -, hS8', hC16', -⟩ := chk_ok hcl
  have CG : Hid (∀ W, Below W4.heap.size W4 W → Calls Tryd.prog 20 #[.slice a1 x.shape.length c1, .slice b1 y.shape.length l1] W fun e w' => (∃ t n c, e = .returned (.tuple #[.slice t n c, .int .i64 (agrE x.shape y.shape)]) ∧ (agrL x.shape y.shape).length = n ∧ Row W4.heap.size w' t (agrL x.shape y.shape)) ∧ Below W4.heap.size W4 w') := by
    intro W h
    refine (agree_any x.shape y.shape _ _ rfl rfl (by omega) (by omega) a1 b1 c1 l1 W (hRx.next (HBB.out W h)) (hRy.next (HBB.out W h))).mono ?_
    rintro e w' ⟨⟨t, n, c, he, hn, hr⟩, hb⟩
    exact ⟨⟨t, n, c, he, hn, hr.low h.size⟩, h.trans (hb.mono h.size)⟩
  by_cases hag : agrE x.shape y.shape = 0
  case neg =>
    obtain ⟨q1, q2⟩ := dy_agr hck hcl h54 hop hag
    have HQ := hide (fun W h => HNIL.out W h _ q1 q2)
    generalize agrE x.shape y.shape = E at *
    have hE : (E == 0) = false := beq_eq_false_iff_ne.2 hag
    clear q1 q2 hck hcl hop hag hS8 hC16 hS8' hC16' f1 f2
    clear hRx hRy hlx hly hcx hcy hx hy hsx hsy d0 d1 d2 dz B4 s3 HNIL HBB T
    generalize x.shape.length = SA at *
    generalize x.cells.length = CA at *
    generalize y.shape.length = SB at *
    generalize y.cells.length = CB at *
    go_enter Tryd.func18, Tryd.ntmps18
    go_wp2_with fail
    rw [← e4]
    refine C0.out.mono ?_
    rintro e w1 ⟨rfl, hb1⟩
    obtain ⟨k0, ⟨k1, k2⟩, ⟨k3, k4⟩, kz⟩ := HK.out w1 hb1
    clear kz
    go_wp2_with fail
    refine (C1.out _ hb1).mono ?_
    rintro e w2 ⟨rfl, hb2⟩
    clear k0 k1 k2 k3 k4
    obtain ⟨k0, ⟨k1, k2⟩, ⟨k3, k4⟩, kz⟩ := HK.out w2 hb2
    go_wp2_with fail
    refine (CI.out _).mono ?_
    rintro e w3 ⟨rfl, hw⟩
    rw [hw]
    clear hw
    go_wp2_with fail
    refine (CG.out _ hb2).mono ?_
    rintro e w3 ⟨⟨t, n1, c, rfl, -, -⟩, hb3⟩
    clear k0 k1 k2 k3 k4 kz
    obtain ⟨k0, ⟨k1, k2⟩, ⟨k3, k4⟩, kz⟩ := HK.out w3 hb3
    have y0 := kz.cell (i := 0) (by omega)
    have y1 := kz.cell (i := 1) (by omega)
    have g0 := kz.frozen 0
    have g1 := kz.frozen 1
    have HT := hide (two_read kz (.slice none 0 0) (.slice none 0 0))
    have HF := hide (HQ.out w3 hb3)
    clear HQ HK kz
    go_wp2
    exact bodyPost_ret (v := .tuple #[.agg #[.slice none 0 0, .slice none 0 0], .int .i64 E]) (by simp [results, Tryd.results18, go_sem, HT.out.1, HT.out.2]) rfl HF.out
  case pos =>
  have CL : ∀ i, i < dyN x y → ∀ w', Below W4.heap.size W4 w' → Calls Tryd.prog 44 #[.int .i64 (i : Int), .pointer (some ⟨w.heap.size, 0, none⟩), .pointer (some ⟨w.heap.size + 1, 0, none⟩), .pointer (some ⟨w.heap.size + 2, 0, none⟩)] w' fun r w'' => r = .returned (.tuple #[.agg #[.int .i64 0, .int .i64 (c2V op (sideC x i) (sideC y i)), .slice none 0 0], .int .i64 (c2E op (sideC x i) (sideC y i))]) ∧ Below w'.heap.size w' w'' := by
    intro i hi w' h
    obtain ⟨t0, ⟨t1, t2⟩, ⟨t3, t4⟩, -⟩ := HK.out w' h
    have hsz := h.size
    obtain ⟨b, off, k, z, ab, nb, cb, rfl, SX⟩ := side_of hcx hlx hsx (side_x hck hi) (HBB.out w' h) (by omega) t1 t2
    obtain ⟨g, goff, q, v, gb, ng, cg, rfl, SY⟩ := side_of hcy hly hsy (side_y hck hcl hag hi) (HBB.out w' h) (by omega) t3 t4
    exact dyOf_any op x y i w.heap.size (w.heap.size + 1) (w.heap.size + 2) a1 _ _ _ _ b off k z ab nb cb b1 _ _ _ _ g goff q v gb ng cg w' (T.next (HBB.out w' h)) (by omega) t0 SX SY
  have hN : dyN x y ≤ 16384 := by unfold dyN; split <;> omega
  have C2 : Hid (∀ W t n c, Below W4.heap.size W4 W → (agrL x.shape y.shape).length = n → Row W4.heap.size W t (agrL x.shape y.shape) → Calls Tryd.prog 28 #[.slice t n c, .int .i64 ((dyN x y : Nat) : Int), .func (.func 44) #[] #[.pointer (some ⟨w.heap.size, 0, none⟩), .pointer (some ⟨w.heap.size + 1, 0, none⟩), .pointer (some ⟨w.heap.size + 2, 0, none⟩)]] W fun e w' =>
      (∃ t1 n1 t2 n2 t3 n3, e = .returned (.tuple #[.agg #[.slice t1 n1 t2, .slice n2 t3 n3], .int .i64 (dyE op x y)]) ∧ ArIn (m + 1) W4.heap.size w' (dyA op x y) (.agg #[.slice t1 n1 t2, .slice n2 t3 n3])) ∧ Below W4.heap.size W4 w') := by
    intro W t n c h hn hr
    have := fillDy_any m (agrL x.shape y.shape) t n c (fun i => c2V op (sideC x i) (sideC y i)) (fun i => c2E op (sideC x i) (sideC y i)) (dyN x y) hN (.pointer (some ⟨w.heap.size, 0, none⟩)) (.pointer (some ⟨w.heap.size + 1, 0, none⟩)) (.pointer (some ⟨w.heap.size + 2, 0, none⟩)) W h.size hn hr
      (fun i hi w' hw => CL i hi w' (h.trans (hw.mono h.size)))
    rw [← dy_do hck hcl h54 hop hag] at this
    have ea : (if dyE op x y = 0 then Ar.mk (agrL x.shape y.shape) (numCs 0 ((List.range (dyN x y)).map fun i => c2V op (sideC x i) (sideC y i))) else .mk [] []) = dyA op x y := rfl
    rw [ea] at this
    refine this.mono ?_
    rintro e w' ⟨⟨v, rfl, hv⟩, hb⟩
    obtain ⟨t1, t2, n2, n3, rfl⟩ := hv.form
    exact ⟨⟨t1, _, t2, n2, _, n3, rfl, hv⟩, h.trans (hb.mono h.size)⟩
  have HGO : Hid (∀ W t1 n1 t2 n2 t3 n3, Below W4.heap.size W4 W → ArIn (m + 1) W4.heap.size W (dyA op x y) (.agg #[.slice t1 n1 t2, .slice n2 t3 n3]) → GivesE (m + 1) w.heap.size (dyA op x y) (dyE op x y) w (.returned (.tuple #[.agg #[.slice t1 n1 t2, .slice n2 t3 n3], .int .i64 (dyE op x y)])) ((W.setCell ⟨w.heap.size + 3, 0, none⟩ (.slice t1 n1 t2)).setCell ⟨w.heap.size + 3, 1, none⟩ (.slice n2 t3 n3))) := fun W t1 n1 t2 n2 t3 n3 h hv => ⟨⟨_, rfl, fin_store hv (by omega) (by omega)⟩, below_set2 (HBB.out W h) (by omega)⟩
  rw [hag] at CG
  generalize dyE op x y = E at *
  generalize dyA op x y = RA at *
  generalize agrL x.shape y.shape = AL at *
  have hmf : ∀ (fn : Fn) (first cap : Array Value) (w : World), (Instr.makeFunc fn first cap).run Tryd.prog w = .ok (.func fn first cap) w := fun _ _ _ _ => rfl
  have HN0 : Hid (x.shape = [] → dyN x y = y.cells.length) := fun h => by unfold dyN; rw [if_pos h]
  have HN1 : Hid (¬ x.shape = [] → dyN x y = x.cells.length) := fun h => by unfold dyN; rw [if_neg h]
  have hE0 : x.shape = [] ↔ x.shape.length = 0 := ⟨fun h => by rw [h]; rfl, fun h => List.eq_nil_of_length_eq_zero h⟩
  by_cases hxs : x.shape = []
  · rw [HN0.out hxs] at C2
    have hz := hE0.1 hxs
    clear HN0 HN1 hE0 hxs hck hcl hop hag hS8 hC16 hS8' hC16' f1 f2 CL hN
    clear hRx hRy hlx hly hcx hcy hx hy hsx hsy d0 d1 d2 dz B4 s3 HNIL HBB T
    generalize x.shape.length = SA at *
    generalize x.cells.length = CA at *
    generalize y.shape.length = SB at *
    generalize y.cells.length = CB at *
    subst hz
    go_enter Tryd.func18, Tryd.ntmps18
    go_wp2_with fail
    rw [← e4]
    refine C0.out.mono ?_
    rintro e w1 ⟨rfl, hb1⟩
    obtain ⟨k0, ⟨k1, k2⟩, ⟨k3, k4⟩, kz⟩ := HK.out w1 hb1
    clear kz
    go_wp2_with fail
    refine (C1.out _ hb1).mono ?_
    rintro e w2 ⟨rfl, hb2⟩
    clear k0 k1 k2 k3 k4
    obtain ⟨k0, ⟨k1, k2⟩, ⟨k3, k4⟩, kz⟩ := HK.out w2 hb2
    go_wp2_with fail
    refine (CI.out _).mono ?_
    rintro e w3 ⟨rfl, hw⟩
    rw [hw]
    clear hw
    go_wp2_with fail
    refine (CG.out _ hb2).mono ?_
    rintro e w3 ⟨⟨t, nn, c, rfl, hnn, hrr⟩, hb3⟩
    clear k0 k1 k2 k3 k4 kz
    obtain ⟨k0, ⟨k1, k2⟩, ⟨k3, k4⟩, kz⟩ := HK.out w3 hb3
    have C3 := hide (C2.out w3 t nn c hb3 hnn hrr)
    clear C2 CG C0 C1 CI hnn hrr
    clear kz
    go_wp2_with fail
    refine C3.out.mono ?_
    rintro e w5 ⟨⟨t1, n1, t2, n2, t3, n3, rfl, hv5⟩, hb5⟩
    clear k0 k1 k2 k3 k4
    obtain ⟨k0, ⟨k1, k2⟩, ⟨k3, k4⟩, kz⟩ := HK.out w5 hb5
    have y0 := kz.cell (i := 0) (by omega)
    have y1 := kz.cell (i := 1) (by omega)
    have g0 := kz.frozen 0
    have g1 := kz.frozen 1
    have HT := hide (two_read kz (.slice t1 n1 t2) (.slice n2 t3 n3))
    have HF := hide (HGO.out _ _ _ _ _ _ _ hb5 hv5)
    clear HGO HK kz hv5 C3
    go_wp2
    exact bodyPost_ret (v := .tuple #[.agg #[.slice t1 n1 t2, .slice n2 t3 n3], .int .i64 E]) (by simp [results, Tryd.results18, go_sem, HT.out.1, HT.out.2]) rfl HF.out
  · rw [HN1.out hxs] at C2
    have hz : ((x.shape.length : Int) == 0) = false := beq_eq_false_iff_ne.2 (fun h => hxs (hE0.2 (by omega)))
    clear HN0 HN1 hE0 hxs hck hcl hop hag hS8 hC16 hS8' hC16' f1 f2 CL hN
    clear hRx hRy hlx hly hcx hcy hx hy hsx hsy d0 d1 d2 dz B4 s3 HNIL HBB T
    generalize x.shape.length = SA at *
    generalize x.cells.length = CA at *
    generalize y.shape.length = SB at *
    generalize y.cells.length = CB at *
    go_enter Tryd.func18, Tryd.ntmps18
    go_wp2_with fail
    rw [← e4]
    refine C0.out.mono ?_
    rintro e w1 ⟨rfl, hb1⟩
    obtain ⟨k0, ⟨k1, k2⟩, ⟨k3, k4⟩, kz⟩ := HK.out w1 hb1
    clear kz
    go_wp2_with fail
    refine (C1.out _ hb1).mono ?_
    rintro e w2 ⟨rfl, hb2⟩
    clear k0 k1 k2 k3 k4
    obtain ⟨k0, ⟨k1, k2⟩, ⟨k3, k4⟩, kz⟩ := HK.out w2 hb2
    go_wp2_with fail
    refine (CI.out _).mono ?_
    rintro e w3 ⟨rfl, hw⟩
    rw [hw]
    clear hw
    go_wp2_with fail
    refine (CG.out _ hb2).mono ?_
    rintro e w3 ⟨⟨t, nn, c, rfl, hnn, hrr⟩, hb3⟩
    clear k0 k1 k2 k3 k4 kz
    obtain ⟨k0, ⟨k1, k2⟩, ⟨k3, k4⟩, kz⟩ := HK.out w3 hb3
    have C3 := hide (C2.out w3 t nn c hb3 hnn hrr)
    clear C2 CG C0 C1 CI hnn hrr
    clear kz
    go_wp2_with fail
    refine C3.out.mono ?_
    rintro e w5 ⟨⟨t1, n1, t2, n2, t3, n3, rfl, hv5⟩, hb5⟩
    clear k0 k1 k2 k3 k4
    obtain ⟨k0, ⟨k1, k2⟩, ⟨k3, k4⟩, kz⟩ := HK.out w5 hb5
    have y0 := kz.cell (i := 0) (by omega)
    have y1 := kz.cell (i := 1) (by omega)
    have g0 := kz.frozen 0
    have g1 := kz.frozen 1
    have HT := hide (two_read kz (.slice t1 n1 t2) (.slice n2 t3 n3))
    have HF := hide (HGO.out _ _ _ _ _ _ _ hb5 hv5)
    clear HGO HK kz hv5 C3
    go_wp2
    exact bodyPost_ret (v := .tuple #[.agg #[.slice t1 n1 t2, .slice n2 t3 n3], .int .i64 E]) (by simp [results, Tryd.results18, go_sem, HT.out.1, HT.out.2]) rfl HF.out
end Go.Proofs.YtkigfmfegldhcaaDoor
