/-
  The contract of layer 3's Copy: the same array in memory of its own; for all arrays that may be.
-/
import Derived.Test.YtmjncdhahdpplaaOwnAA
import Derived.Laws.IdiomCopy
import Derived.Deep.Cut
namespace Go.Proofs.Ytmjncdhahdpplaa
open Go.ChangeShapes Go.WideShapes Go.ChangeAt Go.RowKit
set_option linter.unusedVariables false
set_option maxRecDepth 100000
theorem firstUp_none {f : Nat → Int} {m : Nat} (h : firstUp f m = 0) : ∀ i, i < m → f i = 0 := fun i hi => by
  rw [← firstUp_step (firstUp_zero h i (by omega))]
  exact firstUp_zero h (i + 1) hi
/-- What is known of an array that may be. -/
theorem chk_ok {r : Nat} {x : Ar} (h : chkA r x = 0) : ∃ f : Ar → Int, (∀ y, f y = 0 → ∃ r, chkA r y = 0) ∧ x.shape.length ≤ 8 ∧ x.cells.length ≤ 16384 ∧ ∀ i, i < x.cells.length → chkC f (cAt x.cells i) = 0 := by
  have key : ∀ f : Ar → Int, chkB f x = 0 → x.shape.length ≤ 8 ∧ x.cells.length ≤ 16384 ∧ ∀ i, i < x.cells.length → chkC f (cAt x.cells i) = 0 := by
    intro f hb
    unfold chkB at hb
    by_cases h1 : sizeE x.shape = 0
    · rw [if_neg (fun k => k h1)] at hb
      by_cases h2 : sizeV x.shape = x.cells.length
      · rw [if_neg (fun k => k h2)] at hb
        by_cases h3 : hasLong x.shape
        · rw [if_pos h3] at hb; omega
        · rw [if_neg h3] at hb
          obtain ⟨s1, s2, s3⟩ := sizeE_ok h1
          refine ⟨by omega, ?_, firstUp_none hb⟩
          rcases s3 with s3 | ⟨s3, s4⟩
          · have := (size_zero s1 s2 s3).1
            omega
          · have := (size_ok s1 s2 s3 (by omega)).1
            omega
      · rw [if_pos h2] at hb; omega
    · rw [if_pos h1] at hb; exact absurd hb h1
  cases r with
  | zero => exact ⟨fun _ => 15, fun y hy => absurd (show (15 : Int) = 0 from hy) (by decide), key _ h⟩
  | succ r => exact ⟨chkA r, fun y hy => ⟨r, hy⟩, key _ h⟩
theorem setCells_block (b : Nat) (vs : List Value) (o : Nat) (w : World) : (w.setCells b o vs).heap.size = w.heap.size ∧ ∀ k, k ≠ b → (w.setCells b o vs).heap[k]? = w.heap[k]? := by
  induction vs generalizing o w with
  | nil => exact ⟨rfl, fun _ _ => rfl⟩
  | cons v vs ih =>
    obtain ⟨h1, h2⟩ := ih (o + 1) (w.setCell ⟨b, o, none⟩ v)
    refine ⟨by show (((w.setCell ⟨b, o, none⟩ v).setCells b (o + 1) vs)).heap.size = _; rw [h1]; simp, fun k hk => ?_⟩
    show (((w.setCell ⟨b, o, none⟩ v).setCells b (o + 1) vs)).heap[k]? = _
    rw [h2 k hk]
    exact BelowS.heap_setCell w _ v k hk
theorem below_setCells {B : Nat} {a : World} (b : Nat) (hB : B ≤ b) (vs : List Value) (o : Nat) (w : World) (h : BelowS B a w) : BelowS B a (w.setCells b o vs) := by
  induction vs generalizing o w with
  | nil => exact h
  | cons v vs ih => exact ih (o + 1) _ (h.setCell (p := ⟨b, o, none⟩) hB v)
/-- copy into a row of the call's own, whatever the source. -/
theorem run_copy_any {P : Program} {w : World} (ty : TypeId) (hu : P.underlying 22 = some (.slice 3)) (hsz : (P.info? 3).map (·.size) = some 1)
    (b L dCap : Nat) (sp : Option Addr) (sCap : Nat) (cs : List Value) (hn : cs.length = L)
    (hsrc : 0 < cs.length → ∃ ad, sp = some ad ∧ ∀ j v, cs[j]? = some v → w.cell? (ad.add j) = some v) (hc : ∀ j, j < cs.length → (w.cell? ⟨b, 0 + j, none⟩).isSome = true) (hf : ∀ j, j < cs.length → w.frozen? ⟨b, 0 + j, none⟩ = false) (h1 : ∀ v ∈ cs, v.oneCell' = true) :
    (Builtin.copy_ #[22, 22] ty #[.slice (some ⟨b, 0, none⟩) L dCap, .slice sp L sCap]).run P w = .ok (goInt L) (w.setCells b 0 cs) := by
  subst hn
  by_cases h0 : cs.length = 0
  · have hcs : cs = [] := List.eq_nil_of_length_eq_zero h0
    subst hcs
    exact run_copy_none (P := P) w 22 22 ty 3 (some ⟨b, 0, none⟩) sp 0 dCap 0 sCap hu hsz rfl
  · obtain ⟨ad, rfl, hsr⟩ := hsrc (by omega)
    exact run_copy_cells (P := P) w 22 22 ty 3 b 0 cs.length dCap ad cs.length sCap cs hu hsz (Nat.min_self _).symm hsr hc hf h1
theorem size3 : (Try.prog.info? 3).map (·.size) = some 1 := by kernel_rfl
theorem alloc3 (W : World) (o1 o2 o3 : Obj) : (((W.alloc o1).alloc o2).alloc o3).drew.heap[W.heap.size]? = some o1 ∧ (((W.alloc o1).alloc o2).alloc o3).drew.heap[W.heap.size + 1]? = some o2 ∧ (((W.alloc o1).alloc o2).alloc o3).drew.heap[W.heap.size + 2]? = some o3 ∧ (((W.alloc o1).alloc o2).alloc o3).drew.heap.size = W.heap.size + 3 ∧ (softO o1 → softO o2 → softO o3 → BelowS W.heap.size W (((W.alloc o1).alloc o2).alloc o3).drew) := by
  have hh : (((W.alloc o1).alloc o2).alloc o3).drew.heap = ((W.heap.push o1).push o2).push o3 := rfl
  rw [hh]
  have z1 : (W.heap.push o1).size = W.heap.size + 1 := by simp
  have z2 : ((W.heap.push o1).push o2).size = W.heap.size + 2 := by simp
  refine ⟨?_, ?_, ?_, by simp, ?_⟩
  · rw [Array.getElem?_push, z2, if_neg (by omega), Array.getElem?_push, z1, if_neg (by omega), Array.getElem?_push, if_pos rfl]
  · rw [Array.getElem?_push, z2, if_neg (by omega), Array.getElem?_push, z1, if_pos rfl]
  · rw [Array.getElem?_push, z2, if_pos rfl]
  exact fun h1 h2 h3 => ((((BelowS.refl _ _).alloc (Nat.le_refl _) _ h1).alloc (by simp) _ h2).alloc (by simp; omega) _ h3).drew
/-- Where Copy stands when its memory is made: the shape's row, the cells' row, the answer, in whatever order they were made. -/
def Pre (w W2 : World) (SA CA bs bc bo : Nat) (W : World) : Prop :=
  W.heap.size = w.heap.size + 5 ∧ BelowS (w.heap.size + 2) W2 W ∧ ((w.heap.size + 2 ≤ bs ∧ bs < w.heap.size + 5) ∧ (w.heap.size + 2 ≤ bc ∧ bc < w.heap.size + 5) ∧ (w.heap.size + 2 ≤ bo ∧ bo < w.heap.size + 5) ∧ bs ≠ bc ∧ bs ≠ bo ∧ bc ≠ bo) ∧
  W.heap[bs]? = some (.cells (madeCells #[.int .i64 0] SA) 3) ∧ W.heap[bc]? = some (.cells (madeCells #[.int .i64 0, .int .i64 0, .slice none 0 0] (CA * 3)) 36) ∧ W.heap[bo]? = some (.cells #[.slice (some ⟨bs, 0, none⟩) SA SA, .slice (some ⟨bc, 0, none⟩) CA CA] 25)
/-- The copied cells so far, one more stored behind them. -/
theorem fam_step {n L : Nat} {wr w1 : World} {cs : List Ce} {bc CA j : Nat} {F : Nat → Value} (hL : bc < L) (hw : Below wr.heap.size wr w1) (hbw : bc < wr.heap.size) (hr : wr.rowIs bc 36 (CA * 3) F)
    (hF : ∀ i, i < j → CeIn (ArIn n L wr) L wr (cAt cs i) (F (i * 3)) (F (i * 3 + 1)) (F (i * 3 + 2))) (v0 v1 v2 : Value) (hnew : CeIn (ArIn n L w1) L w1 (cAt cs j) v0 v1 v2) :
    ∃ F', (((w1.setCell ⟨bc, j * 3, none⟩ v0).setCell ⟨bc, j * 3 + 1, none⟩ v1).setCell ⟨bc, j * 3 + 2, none⟩ v2).rowIs bc 36 (CA * 3) F' ∧
      ∀ i, i < j + 1 → CeIn (ArIn n L (((w1.setCell ⟨bc, j * 3, none⟩ v0).setCell ⟨bc, j * 3 + 1, none⟩ v1).setCell ⟨bc, j * 3 + 2, none⟩ v2)) L (((w1.setCell ⟨bc, j * 3, none⟩ v0).setCell ⟨bc, j * 3 + 1, none⟩ v1).setCell ⟨bc, j * 3 + 2, none⟩ v2) (cAt cs i) (F' (i * 3)) (F' (i * 3 + 1)) (F' (i * 3 + 2)) := by
  have r1 : w1.rowIs bc 36 (CA * 3) F := hr.of_block (hw.block bc hbw)
  have hk : Keeps L w1 (((w1.setCell ⟨bc, j * 3, none⟩ v0).setCell ⟨bc, j * 3 + 1, none⟩ v1).setCell ⟨bc, j * 3 + 2, none⟩ v2) := (((Keeps.refl _ _).setCell (p := ⟨bc, j * 3, none⟩) hL v0).setCell (p := ⟨bc, j * 3 + 1, none⟩) hL v1).setCell (p := ⟨bc, j * 3 + 2, none⟩) hL v2
  refine ⟨_, ((r1.set (j * 3) v0).set (j * 3 + 1) v1).set (j * 3 + 2) v2, ?_⟩
  intro i hi
  rcases Nat.lt_succ_iff_lt_or_eq.1 hi with h | rfl
  · have := ((hF i h).mono (Nat.le_refl _) hw fun x v hx => hx.next hw).keeps hk fun x v hx => hx.keeps hk
    have e0 : (if i * 3 = j * 3 + 2 then v2 else if i * 3 = j * 3 + 1 then v1 else if i * 3 = j * 3 then v0 else F (i * 3)) = F (i * 3) := by rw [if_neg (by omega), if_neg (by omega), if_neg (by omega)]
    have e1 : (if i * 3 + 1 = j * 3 + 2 then v2 else if i * 3 + 1 = j * 3 + 1 then v1 else if i * 3 + 1 = j * 3 then v0 else F (i * 3 + 1)) = F (i * 3 + 1) := by rw [if_neg (by omega), if_neg (by omega), if_neg (by omega)]
    have e2 : (if i * 3 + 2 = j * 3 + 2 then v2 else if i * 3 + 2 = j * 3 + 1 then v1 else if i * 3 + 2 = j * 3 then v0 else F (i * 3 + 2)) = F (i * 3 + 2) := by rw [if_neg (by omega), if_neg (by omega), if_neg (by omega)]
    rw [e0, e1, e2]
    exact this
  · have := hnew.keeps hk fun x v hx => hx.keeps hk
    have e0 : (if i * 3 = i * 3 + 2 then v2 else if i * 3 = i * 3 + 1 then v1 else if i * 3 = i * 3 then v0 else F (i * 3)) = v0 := by rw [if_neg (by omega), if_neg (by omega), if_pos rfl]
    have e1 : (if i * 3 + 1 = i * 3 + 2 then v2 else if i * 3 + 1 = i * 3 + 1 then v1 else if i * 3 + 1 = i * 3 then v0 else F (i * 3 + 1)) = v1 := by rw [if_neg (by omega), if_pos rfl]
    have e2 : (if i * 3 + 2 = i * 3 + 2 then v2 else if i * 3 + 2 = i * 3 + 1 then v1 else if i * 3 + 2 = i * 3 then v0 else F (i * 3 + 2)) = v2 := by rw [if_pos rfl]
    rw [e0, e1, e2]
    exact this
/-- The shape's row lies in a block of its own: the cells stay what they are whatever is written there. -/
def Apart (n lo : Nat) (w : World) (x : Ar) (v : Value) : Prop := ∃ bs bc, v = .agg #[.slice (some ⟨bs, 0, none⟩) x.shape.length x.shape.length, .slice (some ⟨bc, 0, none⟩) x.cells.length x.cells.length] ∧ lo ≤ bs ∧ bs < w.heap.size ∧ (∀ i, i < x.shape.length → w.cell? ⟨bs, i, none⟩ = some (.int .i64 (x.shape[i]?.getD 0))) ∧
  ∀ w' : World, w.heap.size ≤ w'.heap.size → (∀ k, k < w.heap.size → k ≠ bs → w'.heap[k]? = w.heap[k]?) → CellsIn n lo w' x.cells (some ⟨bc, 0, none⟩)
def GivesT (n : Nat) (x : Ar) (w : World) (e : Ending) (w' : World) : Prop := (∃ v, e = .returned v ∧ ArIn (n + 1) w.heap.size w' x v ∧ Apart n w.heap.size w' x v) ∧ BelowS w.heap.size w w'
set_option maxHeartbeats 8000000 in
theorem copy_own (n : Nat) (IH : CopyC n) : ∀ r x lo va w, chkA r x = 0 → ArIn (n + 1) lo w x va → Calls Try.prog 30 #[va] w fun e w' => GivesT n x w e w' := by
  intro r x lo va w hchk hx
  obtain ⟨a1, c1, a2, c2, rfl, R, hl, hc⟩ := hx
  obtain ⟨f, hf, hS8, hC16, hcs⟩ := chk_ok hchk
  have mk1 := run_make_row' (P := Try.prog) 22 3 (.int .i64 0) 8 Try.underlying22 int3 rfl .i64 .i64 x.shape.length (by omega) (by omega)
  have mk2 := make_cells x.cells.length hl
  obtain ⟨W2, e2⟩ : ∃ W2, W2 = (w.alloc (.cells #[.slice a1 x.shape.length c1, .slice a2 x.cells.length c2] 25)).alloc (.cells #[.slice none 0 0, .slice none 0 0] 25) := ⟨_, rfl⟩
  have B2 : BelowS w.heap.size w W2 := by rw [e2]; exact two_allocsS _ _ _
  have s2 : W2.heap.size = w.heap.size + 2 := by rw [e2]; exact size_two _ _ _
  have q0 : W2.cell? ⟨w.heap.size, 0, none⟩ = some (.slice a1 x.shape.length c1) := by rw [e2]; exact cell_new1 w _ 25 (0, 0) _ 0 _ rfl
  have q1 : W2.cell? ⟨w.heap.size, 1, none⟩ = some (.slice a2 x.cells.length c2) := by rw [e2]; exact cell_new1 w _ 25 (0, 0) _ 1 _ rfl
  have p0 : W2.cell? ⟨w.heap.size + 1, 0, none⟩ = some (.slice none 0 0) := by rw [e2]; exact cell_new2 w _ 25 (0, 0) _ 0 _ rfl
  have p1 : W2.cell? ⟨w.heap.size + 1, 1, none⟩ = some (.slice none 0 0) := by rw [e2]; exact cell_new2 w _ 25 (0, 0) _ 1 _ rfl
  have pf : ∀ i, W2.frozen? ⟨w.heap.size + 1, i, none⟩ = false := by
    intro i
    have := frozen_new (w.alloc (.cells #[.slice a1 x.shape.length c1, .slice a2 x.cells.length c2] 25)) #[.slice none 0 0, .slice none 0 0] 25 i
    have s1 : (w.alloc (.cells #[.slice a1 x.shape.length c1, .slice a2 x.cells.length c2] 25)).heap.size = w.heap.size + 1 := by simp
    rw [s1] at this
    rw [e2]
    exact this
  have HX : Hid (Row lo w a1 x.shape) := R
  have HCS : Hid (∀ i, i < x.cells.length → ∃ b off z0 z1 ab nb cb, a2 = some ⟨b, off, none⟩ ∧ ∀ wr, BelowS w.heap.size w wr → (wr.cell? ⟨b, off + i * 3, none⟩ = some (.int .i64 z0) ∧ wr.cell? ⟨b, off + i * 3 + 1, none⟩ = some (.int .i64 z1) ∧ wr.cell? ⟨b, off + i * 3 + 2, none⟩ = some (.slice ab nb cb)) ∧ Calls Try.prog 60 #[.agg #[.int .i64 z0, .int .i64 z1, .slice ab nb cb]] wr fun e w' => (∃ a' cap', e = .returned (.agg #[.int .i64 z0, .int .i64 z1, .slice a' nb cap']) ∧ CeIn (ArIn n wr.heap.size w') wr.heap.size w' (cAt x.cells i) (.int .i64 z0) (.int .i64 z1) (.slice a' nb cap')) ∧ BelowS wr.heap.size wr w') := by
    intro i hi
    obtain ⟨b, off, z0, z1, ab, nb, cb, ha, h⟩ := cells_at hc i hi
    refine ⟨b, off, z0, z1, ab, nb, cb, ha, fun wr hw => ?_⟩
    obtain ⟨g0, g1, g2, g3⟩ := h wr hw.b
    refine ⟨⟨g0, g1, g2⟩, (copyCell_any n IH f hf _ (hcs i hi) lo wr _ _ _ g3).mono ?_⟩
    obtain ⟨h0, h1, a', cap', h2, -⟩ := g3
    simp only [Value.int.injEq, true_and, Value.slice.injEq] at h0 h1 h2
    obtain ⟨-, rfl, -⟩ := h2
    subst h0 h1
    exact fun e w' h => h
  have HL := hide R.1
  clear R hc IH hcs hchk hf
  have HAR : Hid (∀ (W : World) (a1' a2' : Option Addr) (k1 k2 : Nat), Row w.heap.size W a1' x.shape → CellsIn n w.heap.size W x.cells a2' → ArIn (n + 1) w.heap.size W x (.agg #[.slice a1' x.shape.length k1, .slice a2' x.cells.length k2])) := fun W a1' a2' k1 k2 hr hcc => arIn_mk hr hl hcc rfl rfl
  generalize hSA : x.shape.length = SA at *
  generalize hCA : x.cells.length = CA at *
  go_enter Try.func30, Try.ntmps30
  go_wp2
  go_cut [3] from 6 (fun s3 wx => ∃ bs bc bo, s3 = .pointer (some ⟨bo, 0, none⟩) ∧ Pre w W2 SA CA bs bc bo wx)
  case first =>
    have AL := fun o1 o2 o3 => alloc3 W2 o1 o2 o3
    rw [s2] at AL
    have HAL := hide AL
    clear AL
    go_region
    all_goals
      go_wp2
      go_meet
    all_goals
      case rel =>
        rw [← e2]
        obtain ⟨A, B, C, D, E⟩ := HAL.out _ _ _
        first
          | exact ⟨w.heap.size + 2, w.heap.size + 3, w.heap.size + 4, rfl, D, E rfl rfl rfl, by omega, A, B, C⟩
          | exact ⟨w.heap.size + 2, w.heap.size + 4, w.heap.size + 3, rfl, D, E rfl rfl rfl, by omega, A, C, B⟩
          | exact ⟨w.heap.size + 3, w.heap.size + 2, w.heap.size + 4, rfl, D, E rfl rfl rfl, by omega, B, A, C⟩
          | exact ⟨w.heap.size + 4, w.heap.size + 2, w.heap.size + 3, rfl, D, E rfl rfl rfl, by omega, C, A, B⟩
          | exact ⟨w.heap.size + 3, w.heap.size + 4, w.heap.size + 2, rfl, D, E rfl rfl rfl, by omega, B, C, A⟩
          | exact ⟨w.heap.size + 4, w.heap.size + 3, w.heap.size + 2, rfl, D, E rfl rfl rfl, by omega, C, B, A⟩
  case rest =>
    obtain ⟨bs, bc, bo, rfl, hz, E, ⟨⟨i1, i2⟩, ⟨i3, i4⟩, ⟨i5, i6⟩, i7, i8, i9⟩, hbs, hbc, hbo⟩ := hcut
    have cellof : ∀ (b i : Nat) (cs : Array Value) (t : TypeId) (v : Value), wc.heap[b]? = some (.cells cs t) → cs[i]? = some v → wc.cell? ⟨b, i, none⟩ = some v := by
      intro b i cs t v h hi
      unfold World.cell?
      simp only [h, hi]
      rfl
    have Q0 : wc.cell? ⟨w.heap.size, 0, none⟩ = some (.slice a1 SA c1) := (E.cell (p := ⟨w.heap.size, 0, none⟩) (by show w.heap.size < _; omega)).trans q0
    have O0 : wc.cell? ⟨bo, 0, none⟩ = some (.slice (some ⟨bs, 0, none⟩) SA SA) := cellof _ _ _ _ _ hbo rfl
    have RB : wc.rowIs bs 3 SA (fun _ => .int .i64 0) := ⟨_, hbs, size_madeCells _ _, fun i hi => by simp [madeCells, hi, Nat.mod_one]⟩
    have BW : BelowS w.heap.size w wc := B2.trans (E.mono (by omega))
    have HSRC : Hid (0 < (x.shape.map (Value.int .i64)).length → ∃ ad, a1 = some ad ∧ ∀ j v, (x.shape.map (Value.int .i64))[j]? = some v → wc.cell? (ad.add j) = some v) := by
      intro h0
      rcases HX.out.2 with h | ⟨b, off, ha, hlo, hb, hcell⟩
      · rw [h] at h0; simp at h0
      · refine ⟨⟨b, off, none⟩, ha, fun j v hv => ?_⟩
        have hj : j < x.shape.length := by
          rcases Nat.lt_or_ge j x.shape.length with h' | h'
          · exact h'
          · simp [List.getElem?_eq_none h'] at hv
        have ea : (⟨b, off, none⟩ : Addr).add j = ⟨b, off + j, none⟩ := by
          unfold Addr.add
          split
          · subst_vars; rfl
          · rfl
        rw [ea]
        refine (BW.cell (p := ⟨b, off + j, none⟩) hb).trans ((hcell j hj).trans ?_)
        rw [List.getElem?_map, List.getElem?_eq_getElem hj] at hv
        rw [List.getElem?_eq_getElem hj]
        simpa using hv
    have hml : (x.shape.map (Value.int .i64)).length = SA := by rw [List.length_map]; exact hSA
    have HC1 : Hid (∀ j, j < (x.shape.map (Value.int .i64)).length → (wc.cell? ⟨bs, 0 + j, none⟩).isSome = true) := by
      intro j hj
      rw [Nat.zero_add, RB.cell (by omega)]; rfl
    have HF1 : Hid (∀ j, j < (x.shape.map (Value.int .i64)).length → wc.frozen? ⟨bs, 0 + j, none⟩ = false) := by
      intro j hj
      rw [Nat.zero_add]; exact RB.frozen j
    have HO1 : Hid (∀ v ∈ x.shape.map (Value.int .i64), v.oneCell' = true) := by
      intro v hv
      obtain ⟨z, _, rfl⟩ := List.mem_map.1 hv
      rfl
    have hrun := run_copy_any (P := Try.prog) (w := wc) 3 Try.underlying22 size3 bs SA SA a1 c1 (x.shape.map (Value.int .i64)) hml HSRC.out HC1.out HF1.out HO1.out
    have SB := setCells_block bs (x.shape.map (Value.int .i64)) 0 wc
    have SIN := World.cell?_setCells_in bs (x.shape.map (Value.int .i64)) 0 wc (fun j hj => HC1.out j hj)
    have BB := below_setCells bs (show w.heap.size ≤ bs by omega) (x.shape.map (Value.int .i64)) 0 wc BW
    have hROW : ∀ i, i < x.shape.length → (wc.setCells bs 0 (x.shape.map (Value.int .i64))).cell? ⟨bs, i, none⟩ = some (.int .i64 (x.shape[i]?.getD 0)) := by
      intro i hi
      have := SIN i (by simpa using hi)
      rw [Nat.zero_add] at this
      rw [this]
      simp [hi]
    generalize wc.setCells bs 0 (x.shape.map (Value.int .i64)) = w3 at hrun SB BB hROW
    have HROW := hide hROW
    have tr3 : ∀ b i v, b ≠ bs → wc.cell? ⟨b, i, none⟩ = some v → w3.cell? ⟨b, i, none⟩ = some v := fun b i v hne hv => by
      rw [World.cell?_of_block (w := wc) (SB.2 b hne)]; exact hv
    have tf3 : ∀ b i, b ≠ bs → wc.frozen? ⟨b, i, none⟩ = false → w3.frozen? ⟨b, i, none⟩ = false := fun b i hne hv => by
      rw [World.frozen?_of_block (w := wc) (SB.2 b hne)]; exact hv
    have Q1 : w3.cell? ⟨w.heap.size, 1, none⟩ = some (.slice a2 CA c2) := tr3 _ _ _ (by omega) ((E.cell (p := ⟨w.heap.size, 1, none⟩) (by show w.heap.size < _; omega)).trans q1)
    have O3 : w3.cell? ⟨bo, 0, none⟩ = some (.slice (some ⟨bs, 0, none⟩) SA SA) := tr3 _ _ _ (by omega) O0
    have O4 : w3.cell? ⟨bo, 1, none⟩ = some (.slice (some ⟨bc, 0, none⟩) CA CA) := tr3 _ _ _ (by omega) (cellof _ _ _ _ _ hbo rfl)
    have P3 : w3.cell? ⟨w.heap.size + 1, 0, none⟩ = some (.slice none 0 0) := tr3 _ _ _ (by omega) ((E.cell (p := ⟨w.heap.size + 1, 0, none⟩) (by show w.heap.size + 1 < _; omega)).trans p0)
    have P4 : w3.cell? ⟨w.heap.size + 1, 1, none⟩ = some (.slice none 0 0) := tr3 _ _ _ (by omega) ((E.cell (p := ⟨w.heap.size + 1, 1, none⟩) (by show w.heap.size + 1 < _; omega)).trans p1)
    have P5 : ∀ i, w3.frozen? ⟨w.heap.size + 1, i, none⟩ = false := fun i => tf3 _ _ (by omega) ((E.frozen (p := ⟨w.heap.size + 1, i, none⟩) (by show w.heap.size + 1 < _; omega)).trans (pf i))
    have hz3 : w3.heap.size = w.heap.size + 5 := SB.1.trans hz
    have RC : w3.rowIs bc 36 (CA * 3) zero3 := by
      have h0 : wc.rowIs bc 36 (CA * 3) zero3 := by
        obtain ⟨c, h1, h2, h3⟩ := rowIs_made3 wc (CA * 3)
        have e : c = madeCells #[.int .i64 0, .int .i64 0, .slice none 0 0] (CA * 3) := by
          have h4 : (wc.alloc (.cells (madeCells #[.int .i64 0, .int .i64 0, .slice none 0 0] (CA * 3)) 36)).heap[wc.heap.size]? = some (.cells (madeCells #[.int .i64 0, .int .i64 0, .slice none 0 0] (CA * 3)) 36) := by
            show (wc.heap.push _)[wc.heap.size]? = _
            simp
          rw [h4] at h1
          simp only [Option.some.injEq, Obj.cells.injEq, true_and] at h1
          exact h1.1.symm
        exact ⟨c, by rw [e]; exact hbc, h2, h3⟩
      exact h0.of_block (SB.2 bc (fun h => i7 h.symm))
    /- What a world in the loop still holds of the memory that was made before. -/
    have HKP : Hid (∀ wr : World, (∀ k, k < w.heap.size + 5 → k ≠ bc → wr.heap[k]? = w3.heap[k]?) → wr.cell? ⟨bo, 0, none⟩ = some (.slice (some ⟨bs, 0, none⟩) SA SA) ∧ wr.cell? ⟨bo, 1, none⟩ = some (.slice (some ⟨bc, 0, none⟩) CA CA) ∧ wr.cell? ⟨w.heap.size + 1, 0, none⟩ = some (.slice none 0 0) ∧ wr.cell? ⟨w.heap.size + 1, 1, none⟩ = some (.slice none 0 0) ∧ (∀ i, wr.frozen? ⟨w.heap.size + 1, i, none⟩ = false) ∧ ∀ i, i < x.shape.length → wr.cell? ⟨bs, i, none⟩ = some (.int .i64 (x.shape[i]?.getD 0))) := by
      intro wr h
      have t : ∀ b i v, b < w.heap.size + 5 → b ≠ bc → w3.cell? ⟨b, i, none⟩ = some v → wr.cell? ⟨b, i, none⟩ = some v := fun b i v h1 h2 h3 => by
        rw [World.cell?_of_block (w := w3) (h b h1 h2)]; exact h3
      exact ⟨t _ _ _ (by omega) (by omega) O3, t _ _ _ (by omega) (by omega) O4, t _ _ _ (by omega) (by omega) P3, t _ _ _ (by omega) (by omega) P4, fun i => by
        rw [World.frozen?_of_block (w := w3) (h (w.heap.size + 1) (by omega) (by omega))]; exact P5 i, fun i hi => t _ _ _ (by omega) (by omega) (HROW.out i hi)⟩
    have HBB := hide BB
    have HZ3 := hide hz3
    have HRC := hide RC
    have HLT : Hid (w.heap.size + 2 ≤ bs ∧ w.heap.size + 2 ≤ bc ∧ bs < w.heap.size + 5 ∧ bc < w.heap.size + 5 ∧ bo < w.heap.size + 5 ∧ bs ≠ bc ∧ bo ≠ bc ∧ w.heap.size + 2 ≤ bo) := ⟨i1, i3, i2, i4, i6, i7, fun h => i9 h.symm, i5⟩
    clear cellof RB BW HSRC hml HC1 HF1 HO1 SB SIN BB hROW tr3 tf3 O3 O4 P3 P4 P5 hz3 RC HROW HX E hbs hbc hbo q0 q1 p0 p1 pf B2 s2 e2 mk1 mk2 hz
    go_wp2
    go_loopw [23] (fun i wr => ∃ j : Nat, j ≤ CA ∧ i = .int .i64 (j : Int) ∧ BelowS w.heap.size w wr ∧ w.heap.size + 5 ≤ wr.heap.size ∧ (∀ k, k < w.heap.size + 5 → k ≠ bc → wr.heap[k]? = w3.heap[k]?) ∧ ∃ F, wr.rowIs bc 36 (CA * 3) F ∧ ∀ i, i < j → CeIn (ArIn n (w.heap.size + 5) wr) (w.heap.size + 5) wr (cAt x.cells i) (F (i * 3)) (F (i * 3 + 1)) (F (i * 3 + 2))) (fun i _ => CA - (intOf i).toNat)
    case atStart => exact ⟨0, Nat.zero_le _, rfl, HBB.out, by rw [HZ3.out]; exact Nat.le_refl _, fun _ _ _ => rfl, zero3, HRC.out, fun i hi => absurd hi (by omega)⟩
    case round =>
      obtain ⟨j, hj, rfl, hnx, hsz, hkeep, F, hr, hF⟩ := hrel
      obtain ⟨t0, t1, t2, t3, t4, t5⟩ := HKP.out wr hkeep
      by_cases hlt : j < CA
      · obtain ⟨b, off, z0, z1, ab, nb, cb, rfl, hcs⟩ := HCS.out j hlt
        obtain ⟨⟨k0, k1, k2⟩, -⟩ := hcs wr hnx
        have hal := hnx.alloc hnx.size (.cells #[.int .i64 z0, .int .i64 z1, .slice ab nb cb] 36)
        have hsa : ((wr.alloc (.cells #[.int .i64 z0, .int .i64 z1, .slice ab nb cb] 36)).drew).heap.size = wr.heap.size + 1 := by
          have : (wr.alloc (.cells #[.int .i64 z0, .int .i64 z1, .slice ab nb cb] 36)).heap.size = wr.heap.size + 1 := by simp
          exact this
        have C : Hid (Calls Try.prog 60 #[.agg #[.int .i64 z0, .int .i64 z1, .slice ab nb cb]] (wr.alloc (.cells #[.int .i64 z0, .int .i64 z1, .slice ab nb cb] 36)).drew fun e w' => (∃ a' cap', e = .returned (.agg #[.int .i64 z0, .int .i64 z1, .slice a' nb cap']) ∧ CeIn (ArIn n (w.heap.size + 5) w') (w.heap.size + 5) w' (cAt x.cells j) (.int .i64 z0) (.int .i64 z1) (.slice a' nb cap')) ∧ BelowS wr.heap.size wr w' ∧ w'.cell? ⟨wr.heap.size, 0, none⟩ = some (.int .i64 z0) ∧ w'.cell? ⟨wr.heap.size, 1, none⟩ = some (.int .i64 z1) ∧ w'.cell? ⟨wr.heap.size, 2, none⟩ = some (.slice ab nb cb)) := by
          refine ((hcs _ hal.drew).2).mono ?_
          rintro e w' ⟨⟨a', cap', he, hce⟩, hb'⟩
          rw [hsa] at hce hb'
          have tr : ∀ i v, #[Value.int .i64 z0, .int .i64 z1, .slice ab nb cb][i]? = some v → w'.cell? ⟨wr.heap.size, i, none⟩ = some v := fun i v hi => (hb'.cell (p := ⟨wr.heap.size, i, none⟩) (by show wr.heap.size < _; omega)).trans (cell_new0 wr _ 36 i v hi)
          exact ⟨⟨a', cap', he, hce.mono (by omega) (Below.refl _ _) fun x v hx => hx.mono (by omega) (Below.refl _ _)⟩, ((one_allocS wr _).drew).trans (hb'.mono (by omega)), tr 0 _ rfl, tr 1 _ rfl, tr 2 _ rfl⟩
        have hbcw : bc < wr.heap.size := by have := HLT.out; omega
        have HD : Hid (∀ w1 : World, BelowS wr.heap.size wr w1 → w1.cell? ⟨bc, j * 3, none⟩ = some (F (j * 3)) ∧ w1.cell? ⟨bc, j * 3 + 1, none⟩ = some (F (j * 3 + 1)) ∧ w1.cell? ⟨bc, j * 3 + 2, none⟩ = some (F (j * 3 + 2)) ∧ w1.frozen? ⟨bc, j * 3, none⟩ = false ∧ w1.frozen? ⟨bc, j * 3 + 1, none⟩ = false ∧ w1.frozen? ⟨bc, j * 3 + 2, none⟩ = false) := by
          intro w1 h
          have r1 : w1.rowIs bc 36 (CA * 3) F := hr.of_block (h.block bc hbcw)
          exact ⟨r1.cell (by omega), r1.cell (by omega), r1.cell (by omega), r1.frozen _, r1.frozen _, r1.frozen _⟩
        have KS : Hid (∀ w1 : World, BelowS wr.heap.size wr w1 → w1.cell? ⟨wr.heap.size, 0, none⟩ = some (.int .i64 z0) → w1.cell? ⟨wr.heap.size, 1, none⟩ = some (.int .i64 z1) → w1.cell? ⟨wr.heap.size, 2, none⟩ = some (.slice ab nb cb) → (w1.cell? ⟨bo, 1, none⟩ = some (.slice (some ⟨bc, 0, none⟩) CA CA) ∧ w1.cell? ⟨wr.heap.size, 0, none⟩ = some (.int .i64 z0) ∧ w1.cell? ⟨wr.heap.size, 1, none⟩ = some (.int .i64 z1) ∧ w1.cell? ⟨wr.heap.size, 2, none⟩ = some (.slice ab nb cb))) := fun w1 h x0 x1 x2 => ⟨(h.cell (p := ⟨bo, 1, none⟩) (by have := HLT.out; show bo < _; omega)).trans t1, x0, x1, x2⟩
        have D0 : Hid (BelowS wr.heap.size wr (wr.alloc (.cells #[.int .i64 z0, .int .i64 z1, .slice ab nb cb] 36)).drew ∧ (wr.alloc (.cells #[.int .i64 z0, .int .i64 z1, .slice ab nb cb] 36)).drew.cell? ⟨wr.heap.size, 0, none⟩ = some (.int .i64 z0) ∧ (wr.alloc (.cells #[.int .i64 z0, .int .i64 z1, .slice ab nb cb] 36)).drew.cell? ⟨wr.heap.size, 1, none⟩ = some (.int .i64 z1) ∧ (wr.alloc (.cells #[.int .i64 z0, .int .i64 z1, .slice ab nb cb] 36)).drew.cell? ⟨wr.heap.size, 2, none⟩ = some (.slice ab nb cb)) := ⟨(one_allocS _ _).drew, cell_new0 wr _ 36 0 _ rfl, cell_new0 wr _ 36 1 _ rfl, cell_new0 wr _ 36 2 _ rfl⟩
        have KT : Hid (∀ (w1 : World) (v0 v1 v2 : Value), (w1.cell? ⟨bo, 1, none⟩ = some (.slice (some ⟨bc, 0, none⟩) CA CA) ∧ w1.cell? ⟨wr.heap.size, 0, none⟩ = some (.int .i64 z0) ∧ w1.cell? ⟨wr.heap.size, 1, none⟩ = some (.int .i64 z1) ∧ w1.cell? ⟨wr.heap.size, 2, none⟩ = some (.slice ab nb cb)) → ((((w1.setCell ⟨bc, j * 3, none⟩ v0).setCell ⟨bc, j * 3 + 1, none⟩ v1).setCell ⟨bc, j * 3 + 2, none⟩ v2).cell? ⟨bo, 1, none⟩ = some (.slice (some ⟨bc, 0, none⟩) CA CA) ∧ (((w1.setCell ⟨bc, j * 3, none⟩ v0).setCell ⟨bc, j * 3 + 1, none⟩ v1).setCell ⟨bc, j * 3 + 2, none⟩ v2).cell? ⟨wr.heap.size, 0, none⟩ = some (.int .i64 z0) ∧ (((w1.setCell ⟨bc, j * 3, none⟩ v0).setCell ⟨bc, j * 3 + 1, none⟩ v1).setCell ⟨bc, j * 3 + 2, none⟩ v2).cell? ⟨wr.heap.size, 1, none⟩ = some (.int .i64 z1) ∧ (((w1.setCell ⟨bc, j * 3, none⟩ v0).setCell ⟨bc, j * 3 + 1, none⟩ v1).setCell ⟨bc, j * 3 + 2, none⟩ v2).cell? ⟨wr.heap.size, 2, none⟩ = some (.slice ab nb cb))) := by
          rintro w1 v0 v1 v2 ⟨g0, g1, g2, g3⟩
          have ap : ∀ (b i : Nat) (v : Value), b ≠ bc → w1.cell? ⟨b, i, none⟩ = some v → (((w1.setCell ⟨bc, j * 3, none⟩ v0).setCell ⟨bc, j * 3 + 1, none⟩ v1).setCell ⟨bc, j * 3 + 2, none⟩ v2).cell? ⟨b, i, none⟩ = some v := fun b i v hne hv => cell_apart (p := ⟨b, i, none⟩) (q := ⟨bc, j * 3 + 2, none⟩) hne _ (cell_apart (p := ⟨b, i, none⟩) (q := ⟨bc, j * 3 + 1, none⟩) hne _ (cell_apart (p := ⟨b, i, none⟩) (q := ⟨bc, j * 3, none⟩) hne _ hv))
          have hl := HLT.out
          exact ⟨ap _ _ _ (by omega) g0, ap _ _ _ (by omega) g1, ap _ _ _ (by omega) g2, ap _ _ _ (by omega) g3⟩
        have HEND : Hid (∀ w1 v0 v1 v2, BelowS wr.heap.size wr w1 → CeIn (ArIn n (w.heap.size + 5) w1) (w.heap.size + 5) w1 (cAt x.cells j) v0 v1 v2 → BelowS w.heap.size w (((w1.setCell ⟨bc, j * 3, none⟩ v0).setCell ⟨bc, j * 3 + 1, none⟩ v1).setCell ⟨bc, j * 3 + 2, none⟩ v2) ∧ w.heap.size + 5 ≤ (((w1.setCell ⟨bc, j * 3, none⟩ v0).setCell ⟨bc, j * 3 + 1, none⟩ v1).setCell ⟨bc, j * 3 + 2, none⟩ v2).heap.size ∧ (∀ k, k < w.heap.size + 5 → k ≠ bc → (((w1.setCell ⟨bc, j * 3, none⟩ v0).setCell ⟨bc, j * 3 + 1, none⟩ v1).setCell ⟨bc, j * 3 + 2, none⟩ v2).heap[k]? = w3.heap[k]?) ∧ ∃ F', (((w1.setCell ⟨bc, j * 3, none⟩ v0).setCell ⟨bc, j * 3 + 1, none⟩ v1).setCell ⟨bc, j * 3 + 2, none⟩ v2).rowIs bc 36 (CA * 3) F' ∧ ∀ i, i < j + 1 → CeIn (ArIn n (w.heap.size + 5) (((w1.setCell ⟨bc, j * 3, none⟩ v0).setCell ⟨bc, j * 3 + 1, none⟩ v1).setCell ⟨bc, j * 3 + 2, none⟩ v2)) (w.heap.size + 5) (((w1.setCell ⟨bc, j * 3, none⟩ v0).setCell ⟨bc, j * 3 + 1, none⟩ v1).setCell ⟨bc, j * 3 + 2, none⟩ v2) (cAt x.cells i) (F' (i * 3)) (F' (i * 3 + 1)) (F' (i * 3 + 2))) := by
          intro w1 v0 v1 v2 hb hnew
          have hl := HLT.out
          have hlo : w.heap.size ≤ bc := by omega
          refine ⟨(((hnx.trans (hb.mono hnx.size)).setCell (p := ⟨bc, j * 3, none⟩) hlo v0).setCell (p := ⟨bc, j * 3 + 1, none⟩) hlo v1).setCell (p := ⟨bc, j * 3 + 2, none⟩) hlo v2, ?_, ?_, fam_step (by omega) hb.b hbcw hr hF v0 v1 v2 hnew⟩
          · have : (((w1.setCell ⟨bc, j * 3, none⟩ v0).setCell ⟨bc, j * 3 + 1, none⟩ v1).setCell ⟨bc, j * 3 + 2, none⟩ v2).heap.size = w1.heap.size := by simp
            rw [this]; exact Nat.le_trans hsz hb.size
          · intro k h1 h2
            rw [BelowS.heap_setCell _ _ _ _ h2, BelowS.heap_setCell _ _ _ _ h2, BelowS.heap_setCell _ _ _ _ h2, hb.block k (by omega)]
            exact hkeep k h1 h2
        clear hcs hal hsa hr hF hkeep t0 t2 t3 t4 t5
        go_wp2
        go_region_held3 (fun W => W.cell? ⟨bo, 1, none⟩ = some (.slice (some ⟨bc, 0, none⟩) CA CA) ∧ W.cell? ⟨wr.heap.size, 0, none⟩ = some (.int .i64 z0) ∧ W.cell? ⟨wr.heap.size, 1, none⟩ = some (.int .i64 z1) ∧ W.cell? ⟨wr.heap.size, 2, none⟩ = some (.slice ab nb cb))
          (first | exact KS.out _ D0.out.1 D0.out.2.1 D0.out.2.2.1 D0.out.2.2.2 | exact KS.out _ (by assumption) (by assumption) (by assumption) (by assumption) | exact KT.out _ _ _ _ (by assumption))
          (first
            | (go_at_call 60; refine C.out.mono ?_; rintro e w1 ⟨⟨a', cap', rfl, hce⟩, hb1, hq0, hq1, hq2⟩; obtain ⟨y0, y1, y2, y3, y4, y5⟩ := HD.out _ hb1))
        have HFIN := hide (HEND.out w1 _ _ _ hb1 hce)
        clear HEND KT KS D0 HD C y0 y1 y2 y3 y4 y5 hq0 hq1 hq2 hce hb1
        go_wp2
        go_roundw
        case rel => exact ⟨j + 1, by omega, by go_num, HFIN.out⟩
        case measure => simp [intOf]; omega
      · have hje : j = CA := by omega
        subst hje
        have HFIN : Hid (∀ u v, GivesT n x w (.returned (.agg #[.slice (some ⟨bs, 0, none⟩) SA SA, .slice (some ⟨bc, 0, none⟩) j j])) ((wr.setCell ⟨w.heap.size + 1, 0, none⟩ u).setCell ⟨w.heap.size + 1, 1, none⟩ v)) := by
          intro u v
          have hl := HLT.out
          have hk : Keeps (w.heap.size + 2) wr ((wr.setCell ⟨w.heap.size + 1, 0, none⟩ u).setCell ⟨w.heap.size + 1, 1, none⟩ v) := ((Keeps.refl _ _).setCell (p := ⟨w.heap.size + 1, 0, none⟩) (by show w.heap.size + 1 < _; omega) u).setCell (p := ⟨w.heap.size + 1, 1, none⟩) (by show w.heap.size + 1 < _; omega) v
          refine ⟨⟨_, rfl, HAR.out _ _ _ _ _ ?_ ?_, ?_⟩, (hnx.setCell (p := ⟨w.heap.size + 1, 0, none⟩) (by show w.heap.size ≤ w.heap.size + 1; omega) u).setCell (p := ⟨w.heap.size + 1, 1, none⟩) (by show w.heap.size ≤ w.heap.size + 1; omega) v⟩
          · have hrow : Row (w.heap.size + 2) wr (some ⟨bs, 0, none⟩) x.shape := ⟨by rw [hSA]; exact HL.out, Or.inr ⟨bs, 0, rfl, by omega, by omega, fun i hi => by rw [Nat.zero_add]; exact t5 i hi⟩⟩
            exact (hrow.keeps hk).low (by omega)
          · have hcc : CellsIn n (w.heap.size + 2) wr x.cells (some ⟨bc, 0, none⟩) := by
              refine Or.inr ⟨bc, 0, rfl, by omega, by omega, fun i hi => ?_⟩
              rw [hCA] at hi
              rw [Nat.zero_add]
              exact ⟨_, _, _, hr.cell (by omega), hr.cell (by omega), hr.cell (by omega), (hF i hi).mono (by omega) (Below.refl _ _) fun x v hx => hx.mono (by omega) (Below.refl _ _)⟩
            exact (hcc.keeps hk).mono (by omega) (Below.refl _ _)
          · refine ⟨bs, bc, by rw [hSA, hCA], by omega, by have := hk.1; omega, fun i hi => ?_, fun w' hsz' hoff => ?_⟩
            · exact (hk.cell (p := ⟨bs, i, none⟩) (by show w.heap.size + 2 ≤ bs; omega) (by show bs < _; omega)).trans (t5 i hi)
            · have hss : ((wr.setCell ⟨w.heap.size + 1, 0, none⟩ u).setCell ⟨w.heap.size + 1, 1, none⟩ v).heap.size = wr.heap.size := by simp
              have hs1 : wr.heap.size ≤ w'.heap.size := by rw [hss] at hsz'; exact hsz'
              have hof : ∀ k, k < wr.heap.size → k ≠ bs → k ≠ w.heap.size + 1 → w'.heap[k]? = wr.heap[k]? := fun k h0 h1 h2 => by
                rw [hoff k (by rw [hss]; exact h0) h1, BelowS.heap_setCell _ _ _ _ h2, BelowS.heap_setCell _ _ _ _ h2]
              have hr' : w'.rowIs bc 36 (j * 3) F := hr.of_block (hof bc (by omega) (by omega) (by omega))
              have hk' : Keeps (w.heap.size + 5) wr w' := ⟨by omega, fun b h1 h2 => hof b h2 (by omega) (by omega)⟩
              refine Or.inr ⟨bc, 0, rfl, by omega, by omega, fun i hi => ?_⟩
              rw [hCA] at hi
              rw [Nat.zero_add]
              exact ⟨_, _, _, hr'.cell (by omega), hr'.cell (by omega), hr'.cell (by omega), ((hF i hi).keeps hk' fun x v hx => hx.keeps hk').mono (by omega) (Below.refl _ _) fun x v hx => hx.mono (by omega) (Below.refl _ _)⟩
        have HT := hide (set_two t2 t3 (.slice (some ⟨bs, 0, none⟩) SA SA) (.slice (some ⟨bc, 0, none⟩) j j))
        have f0 := t4 0
        have f1 := t4 1
        clear hr hF hkeep t4 t5 HCS HKP
        go_wp2
        exact bodyPost_ret (v := .agg #[.slice (some ⟨bs, 0, none⟩) SA SA, .slice (some ⟨bc, 0, none⟩) j j]) (by simp [results, Try.results30, go_sem, HT.out.1, HT.out.2]) rfl (HFIN.out _ _)
theorem copy_step (n : Nat) (IH : CopyC n) : CopyC (n + 1) := fun r x lo va w h hx => (copy_own n IH r x lo va w h hx).mono fun e w' ⟨⟨v, he, hv, _⟩, hb⟩ => ⟨⟨v, he, hv⟩, hb⟩
theorem copy_any (n : Nat) : CopyC n := by
  induction n with
  | zero => intro r x lo va w _ hx; exact hx.elim
  | succ n ih => exact copy_step n ih
/-- Copy, with what is known of where its answer lies. -/
theorem copy_at (n : Nat) : ∀ r x lo va w, chkA r x = 0 → ArIn (n + 1) lo w x va → Calls Try.prog 30 #[va] w fun e w' => GivesT n x w e w' := copy_own n (copy_any n)
end Go.Proofs.Ytmjncdhahdpplaa
