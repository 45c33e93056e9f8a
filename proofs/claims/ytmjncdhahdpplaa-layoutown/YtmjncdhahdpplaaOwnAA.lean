/-
  The contract of layer 3's copy of a cell, given that of the array in its box: the same cell, its box in memory of its own; for all cells that may be.
-/
import Derived.Test.YtmjncdhahdpplaaOwnW
import Derived.Deep.RegionHeld3
namespace Go.Proofs.Ytmjncdhahdpplaa
open Go.ChangeShapes Go.WideShapes Go.ChangeAt Go.RowKit
set_option linter.unusedVariables false
theorem info25 : (Try.prog.info? 25).map (fun i => (i.zero, i.size, i.bytes)) = some (some (.agg #[.slice none 0 0, .slice none 0 0]), 2, 48) := by kernel_rfl
theorem make_one (w : World) : (Instr.makeSlice 34 (.int .i64 1) (.int .i64 1)).run Try.prog w = .ok (.slice (some ⟨w.heap.size, 0, none⟩) 1 1) (w.alloc (.cells #[.slice none 0 0, .slice none 0 0] 25)) := by
  obtain ⟨i, hi, hzz⟩ := Option.map_eq_some_iff.1 info25
  simp only [Prod.mk.injEq] at hzz
  obtain ⟨hz, hs, hb⟩ := hzz
  have hr := run_make (P := Try.prog) w 34 25 i _ Try.underlying34 hi hz .i64 .i64 1 1 (by omega) (Int.le_refl _) (by rw [hb]; omega) (by omega)
  simp only [hs] at hr
  rw [hr]
  have e : madeCells (Value.agg #[.slice none 0 0, .slice none 0 0]).cells ((1 : Int).toNat * 2) = #[.slice none 0 0, .slice none 0 0] := by
    apply Array.ext
    · simp [madeCells]
    · intro i h1 h2
      have : i = 0 ∨ i = 1 := by simp at h2; omega
      rcases this with rfl | rfl <;> simp [madeCells, Value.cells]
  rw [e]
  rfl
/-- What the copy of a cell hands back. -/
def GivesC (n : Nat) (c : Ce) (w : World) (e : Ending) (w' : World) : Prop := (∃ a cap, e = .returned (.agg #[.int .i64 c.1, .int .i64 c.2.1, .slice a c.2.2.length cap]) ∧ CeIn (ArIn n w.heap.size w') w.heap.size w' c (.int .i64 c.1) (.int .i64 c.2.1) (.slice a c.2.2.length cap)) ∧ BelowS w.heap.size w w'
set_option maxHeartbeats 2000000 in
theorem copyCell_none (n : Nat) (k N : Int) (ab : Option Addr) (cb : Nat) (w : World) :
    Calls Try.prog 60 #[.agg #[.int .i64 k, .int .i64 N, .slice ab 0 cb]] w fun e w' => GivesC n (k, N, []) w e w' := by
  go_enter Try.func60, Try.ntmps60
  go_wp2
  refine bodyPost_ret (v := .agg #[.int .i64 k, .int .i64 N, .slice none 0 0]) (by simp [results, Try.results60, go_sem]) rfl ⟨⟨none, 0, rfl, rfl, rfl, none, 0, rfl, by simp, Or.inl rfl⟩, ?_⟩
  exact (two_allocsS _ _ _).trans ((one_allocS _ _).mono (by simp; omega))
set_option maxHeartbeats 4000000 in
theorem copyCell_one (n : Nat) (k N : Int) (y : Ar) (bb ob cb : Nat) (u0 u1 : Value) (lo : Nat) (w : World) (hb : bb < w.heap.size) (g0 : w.cell? ⟨bb, ob, none⟩ = some u0) (g1 : w.cell? ⟨bb, ob + 1, none⟩ = some u1) (hy : ArIn n lo w y (.agg #[u0, u1]))
    (IH : ∀ lo vb w, ArIn n lo w y vb → Calls Try.prog 30 #[vb] w fun e w' => GivesS n y w e w') :
    Calls Try.prog 60 #[.agg #[.int .i64 k, .int .i64 N, .slice (some ⟨bb, ob, none⟩) 1 cb]] w fun e w' => GivesC n (k, N, [y]) w e w' := by
  cases n with
  | zero => exact hy.elim
  | succ n =>
  have hy' := hy
  obtain ⟨a1, k1, a2, k2, hv, -⟩ := hy'
  simp only [Value.agg.injEq, Array.mk.injEq, List.cons.injEq, and_true] at hv
  obtain ⟨rfl, rfl⟩ := hv
  generalize hSA : y.shape.length = SA at *
  generalize hCA : y.cells.length = CA at *
  have mk := make_one
  obtain ⟨W4, e4⟩ : ∃ W4, W4 = (((w.alloc (.cells #[.int .i64 k, .int .i64 N, .slice (some ⟨bb, ob, none⟩) 1 cb] 36)).alloc (.cells #[.int .i64 0, .int .i64 0, .slice none 0 0] 36)).alloc (.cells #[.int .i64 k, .int .i64 N, .slice (some ⟨w.heap.size + 1 + 1 + 1, 0, none⟩) 1 1] 36)).alloc (.cells #[.slice none 0 0, .slice none 0 0] 25) := ⟨_, rfl⟩
  have B4 : BelowS w.heap.size w W4 := by rw [e4]; exact (two_allocsS _ _ _).trans ((two_allocsS _ _ _).mono (by simp; omega))
  have s4 : W4.heap.size = w.heap.size + 4 := by rw [e4]; simp
  have s2 := size_two w (.cells #[.int .i64 k, .int .i64 N, .slice (some ⟨bb, ob, none⟩) 1 cb] 36) (.cells #[.int .i64 0, .int .i64 0, .slice none 0 0] 36)
  have r0 : ∀ i v, #[Value.int .i64 0, .int .i64 0, .slice none 0 0][i]? = some v → W4.cell? ⟨w.heap.size + 1, i, none⟩ = some v := by
    intro i v hi
    rw [e4]
    exact ((two_allocsS _ _ _).cell (p := ⟨w.heap.size + 1, i, none⟩) (by rw [s2]; show w.heap.size + 1 < _; omega)).trans (cell_new2 w _ 36 (0, 0) _ i v hi)
  have r1 : ∀ i v, #[Value.int .i64 k, .int .i64 N, .slice (some ⟨w.heap.size + 1 + 1 + 1, 0, none⟩) 1 1][i]? = some v → W4.cell? ⟨w.heap.size + 1 + 1, i, none⟩ = some v := by
    intro i v hi
    rw [e4]
    have := cell_new1 ((w.alloc (.cells #[.int .i64 k, .int .i64 N, .slice (some ⟨bb, ob, none⟩) 1 cb] 36)).alloc (.cells #[.int .i64 0, .int .i64 0, .slice none 0 0] 36)) #[Value.int .i64 k, .int .i64 N, .slice (some ⟨w.heap.size + 1 + 1 + 1, 0, none⟩) 1 1] 36 (0, 0) (.cells #[.slice none 0 0, .slice none 0 0] 25) i v hi
    rw [s2] at this
    exact this
  have r2 : ∀ i v, #[Value.slice none 0 0, .slice none 0 0][i]? = some v → W4.cell? ⟨w.heap.size + 1 + 1 + 1, i, none⟩ = some v := by
    intro i v hi
    rw [e4]
    have := cell_new2 ((w.alloc (.cells #[.int .i64 k, .int .i64 N, .slice (some ⟨bb, ob, none⟩) 1 cb] 36)).alloc (.cells #[.int .i64 0, .int .i64 0, .slice none 0 0] 36)) #[Value.slice none 0 0, .slice none 0 0] 25 (0, 0) (.cells #[.int .i64 k, .int .i64 N, .slice (some ⟨w.heap.size + 1 + 1 + 1, 0, none⟩) 1 1] 36) i v hi
    rw [s2] at this
    exact this
  have f0 : ∀ i, W4.frozen? ⟨w.heap.size + 1, i, none⟩ = false := by
    intro i
    rw [e4]
    have := frozen_new (w.alloc (.cells #[.int .i64 k, .int .i64 N, .slice (some ⟨bb, ob, none⟩) 1 cb] 36)) #[.int .i64 0, .int .i64 0, .slice none 0 0] 36 i
    have s1 : (w.alloc (.cells #[.int .i64 k, .int .i64 N, .slice (some ⟨bb, ob, none⟩) 1 cb] 36)).heap.size = w.heap.size + 1 := by simp
    rw [s1] at this
    exact ((two_allocsS _ _ _).frozen (p := ⟨w.heap.size + 1, i, none⟩) (by rw [s2]; show w.heap.size + 1 < _; omega)).trans this
  have f2 : ∀ i, W4.frozen? ⟨w.heap.size + 1 + 1 + 1, i, none⟩ = false := by
    intro i
    rw [e4]
    have := frozen_new (((w.alloc (.cells #[.int .i64 k, .int .i64 N, .slice (some ⟨bb, ob, none⟩) 1 cb] 36)).alloc (.cells #[.int .i64 0, .int .i64 0, .slice none 0 0] 36)).alloc (.cells #[.int .i64 k, .int .i64 N, .slice (some ⟨w.heap.size + 1 + 1 + 1, 0, none⟩) 1 1] 36)) #[.slice none 0 0, .slice none 0 0] 25 i
    have s3 : (((w.alloc (.cells #[.int .i64 k, .int .i64 N, .slice (some ⟨bb, ob, none⟩) 1 cb] 36)).alloc (.cells #[.int .i64 0, .int .i64 0, .slice none 0 0] 36)).alloc (.cells #[.int .i64 k, .int .i64 N, .slice (some ⟨w.heap.size + 1 + 1 + 1, 0, none⟩) 1 1] 36)).heap.size = w.heap.size + 1 + 1 + 1 := by simp
    rw [s3] at this
    exact this
  have h0 : W4.cell? ⟨bb, ob, none⟩ = some (.slice a1 SA k1) := (B4.cell (p := ⟨bb, ob, none⟩) hb).trans g0
  have h1 : W4.cell? ⟨bb, ob + 1, none⟩ = some (.slice a2 CA k2) := (B4.cell (p := ⟨bb, ob + 1, none⟩) hb).trans g1
  have C : Hid (Calls Try.prog 30 #[.agg #[.slice a1 SA k1, .slice a2 CA k2]] (W4.alloc (.cells #[.slice a1 SA k1, .slice a2 CA k2] 25)).drew fun e w' => (∃ p1 pc1 p2 pc2, e = .returned (.agg #[.slice p1 SA pc1, .slice p2 CA pc2]) ∧ ArIn (n + 1) W4.heap.size w' y (.agg #[.slice p1 SA pc1, .slice p2 CA pc2])) ∧ BelowS W4.heap.size W4 w' ∧ W4.heap.size + 1 ≤ w'.heap.size ∧ w'.cell? ⟨W4.heap.size, 0, none⟩ = some (.slice a1 SA k1) ∧ w'.cell? ⟨W4.heap.size, 1, none⟩ = some (.slice a2 CA k2)) := by
    have b := (one_allocS W4 (.cells #[.slice a1 SA k1, .slice a2 CA k2] 25)).drew
    have hs : ((W4.alloc (.cells #[.slice a1 SA k1, .slice a2 CA k2] 25)).drew).heap.size = W4.heap.size + 1 := by
      have : (W4.alloc (.cells #[.slice a1 SA k1, .slice a2 CA k2] 25)).heap.size = W4.heap.size + 1 := by simp
      exact this
    refine (IH lo _ _ (hy.next (B4.trans (b.mono B4.size)).b)).mono ?_
    rintro e w' ⟨⟨v, rfl, hv⟩, hb'⟩
    rw [hs] at hv hb'
    have hv' := hv
    obtain ⟨p1, pc1, p2, pc2, rfl, -⟩ := hv'
    rw [hSA, hCA] at hv ⊢
    refine ⟨⟨p1, pc1, p2, pc2, rfl, hv.mono (by omega) (Below.refl _ _)⟩, b.trans (hb'.mono (by omega)), by have := hb'.size; rw [hs] at this; exact this, ?_, ?_⟩
    · exact (hb'.cell (p := ⟨W4.heap.size, 0, none⟩) (by show W4.heap.size < _; omega)).trans (cell_new0 W4 _ 25 0 _ rfl)
    · exact (hb'.cell (p := ⟨W4.heap.size, 1, none⟩) (by show W4.heap.size < _; omega)).trans (cell_new0 W4 _ 25 1 _ rfl)
  have HF : Hid (∀ w1, BelowS W4.heap.size W4 w1 → (w1.cell? ⟨w.heap.size + 1 + 1 + 1, 0, none⟩ = some (.slice none 0 0) ∧ w1.cell? ⟨w.heap.size + 1 + 1 + 1, 1, none⟩ = some (.slice none 0 0) ∧ w1.frozen? ⟨w.heap.size + 1 + 1 + 1, 0, none⟩ = false ∧ w1.frozen? ⟨w.heap.size + 1 + 1 + 1, 1, none⟩ = false) ∧ (∀ i v, #[Value.int .i64 k, .int .i64 N, .slice (some ⟨w.heap.size + 1 + 1 + 1, 0, none⟩) 1 1][i]? = some v → w1.cell? ⟨w.heap.size + 1 + 1, i, none⟩ = some v) ∧ (∀ i v, #[Value.int .i64 0, .int .i64 0, .slice none 0 0][i]? = some v → w1.cell? ⟨w.heap.size + 1, i, none⟩ = some v) ∧ ∀ i, w1.frozen? ⟨w.heap.size + 1, i, none⟩ = false) := by
    intro w1 h
    have tr : ∀ b i v, b < w.heap.size + 4 → W4.cell? ⟨b, i, none⟩ = some v → w1.cell? ⟨b, i, none⟩ = some v := fun b i v hb hh => (h.cell (p := ⟨b, i, none⟩) (by rw [s4]; exact hb)).trans hh
    have tf : ∀ b i, b < w.heap.size + 4 → W4.frozen? ⟨b, i, none⟩ = false → w1.frozen? ⟨b, i, none⟩ = false := fun b i hb hh => (h.frozen (p := ⟨b, i, none⟩) (by rw [s4]; exact hb)).trans hh
    exact ⟨⟨tr _ _ _ (by omega) (r2 0 _ rfl), tr _ _ _ (by omega) (r2 1 _ rfl), tf _ _ (by omega) (f2 0), tf _ _ (by omega) (f2 1)⟩, fun i v hi => tr _ _ _ (by omega) (r1 i v hi), fun i v hi => tr _ _ _ (by omega) (r0 i v hi), fun i => tf _ _ (by omega) (f0 i)⟩
  have HB4 := hide B4
  have HS4 := hide s4
  have hs2 : W4.cell? ⟨w.heap.size + 1 + 1, 2, none⟩ = some (.slice (some ⟨w.heap.size + 1 + 1 + 1, 0, none⟩) 1 1) := r1 2 _ rfl
  clear r0 r1 r2 f0 f2 B4 s4 s2 IH hy g0 g1 hSA hCA
  go_enter Try.func60, Try.ntmps60
  go_wp2
  rw [← e4]
  clear e4 mk
  go_loopw [24] (fun i wr => (i = .int .i64 0 ∧ wr = W4) ∨ (i = .int .i64 1 ∧ ∃ w1 p1 pc1 p2 pc2, wr = (w1.setCell ⟨w.heap.size + 1 + 1 + 1, 0, none⟩ (.slice p1 SA pc1)).setCell ⟨w.heap.size + 1 + 1 + 1, 1, none⟩ (.slice p2 CA pc2) ∧ BelowS W4.heap.size W4 w1 ∧ ArIn (n + 1) W4.heap.size w1 y (.agg #[.slice p1 SA pc1, .slice p2 CA pc2]))) (fun i _ => 1 - (intOf i).toNat)
  case atStart => exact Or.inl ⟨rfl, rfl⟩
  case round =>
    rcases hrel with ⟨rfl, rfl⟩ | ⟨rfl, w1, p1, pc1, p2, pc2, rfl, hb1, hP⟩
    · have KS : Hid (∀ w1 : World, BelowS wr.heap.size wr w1 → w1.cell? ⟨wr.heap.size, 0, none⟩ = some (.slice a1 SA k1) → w1.cell? ⟨wr.heap.size, 1, none⟩ = some (.slice a2 CA k2) → (w1.cell? ⟨w.heap.size + 1 + 1, 2, none⟩ = some (.slice (some ⟨w.heap.size + 1 + 1 + 1, 0, none⟩) 1 1) ∧ w1.cell? ⟨wr.heap.size, 0, none⟩ = some (.slice a1 SA k1) ∧ w1.cell? ⟨wr.heap.size, 1, none⟩ = some (.slice a2 CA k2))) := fun w1 h x y => ⟨(HF.out w1 h).2.1 2 _ rfl, x, y⟩
      have D0 : Hid (BelowS wr.heap.size wr (wr.alloc (.cells #[.slice a1 SA k1, .slice a2 CA k2] 25)).drew ∧ (wr.alloc (.cells #[.slice a1 SA k1, .slice a2 CA k2] 25)).drew.cell? ⟨wr.heap.size, 0, none⟩ = some (.slice a1 SA k1) ∧ (wr.alloc (.cells #[.slice a1 SA k1, .slice a2 CA k2] 25)).drew.cell? ⟨wr.heap.size, 1, none⟩ = some (.slice a2 CA k2)) := ⟨(one_allocS _ _).drew, cell_new0 wr _ 25 0 _ rfl, cell_new0 wr _ 25 1 _ rfl⟩
      have KT : Hid (∀ (w1 : World) (x y : Value), (w1.cell? ⟨w.heap.size + 1 + 1, 2, none⟩ = some (.slice (some ⟨w.heap.size + 1 + 1 + 1, 0, none⟩) 1 1) ∧ w1.cell? ⟨wr.heap.size, 0, none⟩ = some (.slice a1 SA k1) ∧ w1.cell? ⟨wr.heap.size, 1, none⟩ = some (.slice a2 CA k2)) → (((w1.setCell ⟨w.heap.size + 1 + 1 + 1, 0, none⟩ x).setCell ⟨w.heap.size + 1 + 1 + 1, 1, none⟩ y).cell? ⟨w.heap.size + 1 + 1, 2, none⟩ = some (.slice (some ⟨w.heap.size + 1 + 1 + 1, 0, none⟩) 1 1) ∧ ((w1.setCell ⟨w.heap.size + 1 + 1 + 1, 0, none⟩ x).setCell ⟨w.heap.size + 1 + 1 + 1, 1, none⟩ y).cell? ⟨wr.heap.size, 0, none⟩ = some (.slice a1 SA k1) ∧ ((w1.setCell ⟨w.heap.size + 1 + 1 + 1, 0, none⟩ x).setCell ⟨w.heap.size + 1 + 1 + 1, 1, none⟩ y).cell? ⟨wr.heap.size, 1, none⟩ = some (.slice a2 CA k2))) := by
        rintro w1 x y ⟨e1, e2, e3⟩
        have ne := HS4.out
        exact ⟨cell_apart (p := ⟨w.heap.size + 1 + 1, 2, none⟩) (q := ⟨w.heap.size + 1 + 1 + 1, 1, none⟩) (by show w.heap.size + 1 + 1 ≠ w.heap.size + 1 + 1 + 1; omega) _ (cell_apart (p := ⟨w.heap.size + 1 + 1, 2, none⟩) (q := ⟨w.heap.size + 1 + 1 + 1, 0, none⟩) (by show w.heap.size + 1 + 1 ≠ w.heap.size + 1 + 1 + 1; omega) _ e1),
          cell_apart (p := ⟨wr.heap.size, 0, none⟩) (q := ⟨w.heap.size + 1 + 1 + 1, 1, none⟩) (by show wr.heap.size ≠ w.heap.size + 1 + 1 + 1; omega) _ (cell_apart (p := ⟨wr.heap.size, 0, none⟩) (q := ⟨w.heap.size + 1 + 1 + 1, 0, none⟩) (by show wr.heap.size ≠ w.heap.size + 1 + 1 + 1; omega) _ e2),
          cell_apart (p := ⟨wr.heap.size, 1, none⟩) (q := ⟨w.heap.size + 1 + 1 + 1, 1, none⟩) (by show wr.heap.size ≠ w.heap.size + 1 + 1 + 1; omega) _ (cell_apart (p := ⟨wr.heap.size, 1, none⟩) (q := ⟨w.heap.size + 1 + 1 + 1, 0, none⟩) (by show wr.heap.size ≠ w.heap.size + 1 + 1 + 1; omega) _ e3)⟩
      go_wp2
      go_region_held3 (fun W => W.cell? ⟨w.heap.size + 1 + 1, 2, none⟩ = some (.slice (some ⟨w.heap.size + 1 + 1 + 1, 0, none⟩) 1 1) ∧ W.cell? ⟨wr.heap.size, 0, none⟩ = some (.slice a1 SA k1) ∧ W.cell? ⟨wr.heap.size, 1, none⟩ = some (.slice a2 CA k2))
        (first | exact KS.out _ D0.out.1 D0.out.2.1 D0.out.2.2 | exact KS.out _ (by assumption) (by assumption) (by assumption) | exact KT.out _ _ _ (by assumption))
        (first
          | (go_at_call 30; refine C.out.mono ?_; rintro e w1 ⟨⟨p1, pc1, p2, pc2, rfl, hP⟩, hb1, hz1, hq0, hq1⟩; obtain ⟨⟨t0, t1, t2, t3⟩, -⟩ := HF.out _ hb1))
      go_wp2
      go_roundw
      case rel => exact Or.inr ⟨by go_num, w1, p1, pc1, p2, pc2, rfl, hb1, hP⟩
      case measure => simp [intOf]
    · obtain ⟨⟨t0, t1, t2, t3⟩, tc, td, tf⟩ := HF.out _ hb1
      have ne1 : (⟨w.heap.size + 1 + 1, 0, none⟩ : Addr).block ≠ (⟨w.heap.size + 1 + 1 + 1, 0, none⟩ : Addr).block := by show w.heap.size + 1 + 1 ≠ w.heap.size + 1 + 1 + 1; omega
      have AP : ∀ (b i : Nat) (v : Value), b ≠ w.heap.size + 1 + 1 + 1 → w1.cell? ⟨b, i, none⟩ = some v → ((w1.setCell ⟨w.heap.size + 1 + 1 + 1, 0, none⟩ (.slice p1 SA pc1)).setCell ⟨w.heap.size + 1 + 1 + 1, 1, none⟩ (.slice p2 CA pc2)).cell? ⟨b, i, none⟩ = some v := fun b i v hne hv => cell_apart (p := ⟨b, i, none⟩) (q := ⟨w.heap.size + 1 + 1 + 1, 1, none⟩) hne _ (cell_apart (p := ⟨b, i, none⟩) (q := ⟨w.heap.size + 1 + 1 + 1, 0, none⟩) hne _ hv)
      have x0 := AP (w.heap.size + 1 + 1) 0 _ (by omega) (tc 0 _ rfl)
      have x1 := AP (w.heap.size + 1 + 1) 1 _ (by omega) (tc 1 _ rfl)
      have x2 := AP (w.heap.size + 1 + 1) 2 _ (by omega) (tc 2 _ rfl)
      have y0 := AP (w.heap.size + 1) 0 _ (by omega) (td 0 _ rfl)
      have y1 := AP (w.heap.size + 1) 1 _ (by omega) (td 1 _ rfl)
      have y2 := AP (w.heap.size + 1) 2 _ (by omega) (td 2 _ rfl)
      have z : ∀ i, ((w1.setCell ⟨w.heap.size + 1 + 1 + 1, 0, none⟩ (.slice p1 SA pc1)).setCell ⟨w.heap.size + 1 + 1 + 1, 1, none⟩ (.slice p2 CA pc2)).frozen? ⟨w.heap.size + 1, i, none⟩ = false := fun i => by simpa using tf i
      have z0 := z 0
      have z1 := z 1
      have z2 := z 2
      have hT := set_two t0 t1 (.slice p1 SA pc1) (.slice p2 CA pc2)
      have q0 : ((w1.setCell ⟨w.heap.size + 1 + 1 + 1, 0, none⟩ (.slice p1 SA pc1)).setCell ⟨w.heap.size + 1 + 1 + 1, 1, none⟩ (.slice p2 CA pc2)).cell? ⟨w.heap.size + 1 + 1 + 1, 0, none⟩ = some (.slice p1 SA pc1) := by
        rw [World.cell?_setCell_other _ _ _ _ (by simp)]; exact hT.1
      have HK : Hid (Keeps (w.heap.size + 4) w1 ((w1.setCell ⟨w.heap.size + 1 + 1 + 1, 0, none⟩ (.slice p1 SA pc1)).setCell ⟨w.heap.size + 1 + 1 + 1, 1, none⟩ (.slice p2 CA pc2))) := ((Keeps.refl _ _).setCell (p := ⟨w.heap.size + 1 + 1 + 1, 0, none⟩) (by show w.heap.size + 1 + 1 + 1 < _; omega) _).setCell (p := ⟨w.heap.size + 1 + 1 + 1, 1, none⟩) (by show w.heap.size + 1 + 1 + 1 < _; omega) _
      have HBW : Hid (BelowS w.heap.size w ((w1.setCell ⟨w.heap.size + 1 + 1 + 1, 0, none⟩ (.slice p1 SA pc1)).setCell ⟨w.heap.size + 1 + 1 + 1, 1, none⟩ (.slice p2 CA pc2))) := ((HB4.out.trans (hb1.mono HB4.out.size)).setCell (p := ⟨w.heap.size + 1 + 1 + 1, 0, none⟩) (by show w.heap.size ≤ w.heap.size + 1 + 1 + 1; omega) _).setCell (p := ⟨w.heap.size + 1 + 1 + 1, 1, none⟩) (by show w.heap.size ≤ w.heap.size + 1 + 1 + 1; omega) _
      have HSZ : Hid (w.heap.size + 4 ≤ w1.heap.size) := by have := hb1.size; rw [HS4.out] at this; exact this
      have HP := hide hP
      have HQ := hide (And.intro q0 hT.2)
      generalize ew : (w1.setCell ⟨w.heap.size + 1 + 1 + 1, 0, none⟩ (.slice p1 SA pc1)).setCell ⟨w.heap.size + 1 + 1 + 1, 1, none⟩ (.slice p2 CA pc2) = wr at *
      have HFIN : Hid (∀ a b c, GivesC (n + 1) (k, N, [y]) w (.returned (.agg #[.int .i64 k, .int .i64 N, .slice (some ⟨w.heap.size + 1 + 1 + 1, 0, none⟩) 1 1])) (((wr.setCell ⟨w.heap.size + 1, 0, none⟩ a).setCell ⟨w.heap.size + 1, 1, none⟩ b).setCell ⟨w.heap.size + 1, 2, none⟩ c)) := by
        intro a b c
        have hk2 : Keeps (w.heap.size + 2) wr (((wr.setCell ⟨w.heap.size + 1, 0, none⟩ a).setCell ⟨w.heap.size + 1, 1, none⟩ b).setCell ⟨w.heap.size + 1, 2, none⟩ c) := (((Keeps.refl _ _).setCell (p := ⟨w.heap.size + 1, 0, none⟩) (by show w.heap.size + 1 < _; omega) _).setCell (p := ⟨w.heap.size + 1, 1, none⟩) (by show w.heap.size + 1 < _; omega) _).setCell (p := ⟨w.heap.size + 1, 2, none⟩) (by show w.heap.size + 1 < _; omega) _
        have hbw : BelowS w.heap.size w (((wr.setCell ⟨w.heap.size + 1, 0, none⟩ a).setCell ⟨w.heap.size + 1, 1, none⟩ b).setCell ⟨w.heap.size + 1, 2, none⟩ c) := ((HBW.out.setCell (p := ⟨w.heap.size + 1, 0, none⟩) (by show w.heap.size ≤ w.heap.size + 1; omega) _).setCell (p := ⟨w.heap.size + 1, 1, none⟩) (by show w.heap.size ≤ w.heap.size + 1; omega) _).setCell (p := ⟨w.heap.size + 1, 2, none⟩) (by show w.heap.size ≤ w.heap.size + 1; omega) _
        have hsz := HSZ.out
        have hszr := HK.out.1
        refine ⟨⟨_, _, rfl, rfl, rfl, _, _, rfl, by simp, Or.inr ⟨w.heap.size + 1 + 1 + 1, 0, rfl, by omega, Nat.lt_of_lt_of_le (by omega) hk2.1, ?_⟩⟩, hbw⟩
        intro j hj
        have hj0 : j = 0 := by simpa using hj
        subst hj0
        refine ⟨_, _, (hk2.cell (p := ⟨w.heap.size + 1 + 1 + 1, 0 + 0 * 2, none⟩) (by show w.heap.size + 2 ≤ w.heap.size + 1 + 1 + 1; omega) (by show w.heap.size + 1 + 1 + 1 < _; omega)).trans HQ.out.1, (hk2.cell (p := ⟨w.heap.size + 1 + 1 + 1, 0 + 0 * 2 + 1, none⟩) (by show w.heap.size + 2 ≤ w.heap.size + 1 + 1 + 1; omega) (by show w.heap.size + 1 + 1 + 1 < _; omega)).trans HQ.out.2, ?_⟩
        have h4 := HP.out
        rw [HS4.out] at h4
        have h5 : ArIn (n + 1) (w.heap.size + 4) wr y (.agg #[.slice p1 SA pc1, .slice p2 CA pc2]) := h4.keeps HK.out
        exact ((h5.mono (lo' := w.heap.size + 2) (by omega) (Below.refl _ _)).keeps hk2).mono (by omega) (Below.refl _ _)
      have HR : Hid ((wr.setCell ⟨w.heap.size + 1, 0, none⟩ (.int .i64 k)).cell? ⟨w.heap.size + 1, 0, none⟩ = some (.int .i64 k) ∧ ((wr.setCell ⟨w.heap.size + 1, 0, none⟩ (.int .i64 k)).setCell ⟨w.heap.size + 1, 1, none⟩ (.int .i64 N)).cell? ⟨w.heap.size + 1, 1, none⟩ = some (.int .i64 N) ∧ (((wr.setCell ⟨w.heap.size + 1, 0, none⟩ (.int .i64 k)).setCell ⟨w.heap.size + 1, 1, none⟩ (.int .i64 N)).setCell ⟨w.heap.size + 1, 2, none⟩ (.slice (some ⟨w.heap.size + 1 + 1 + 1, 0, none⟩) 1 1)).cell? ⟨w.heap.size + 1, 2, none⟩ = some (.slice (some ⟨w.heap.size + 1 + 1 + 1, 0, none⟩) 1 1)) := by
        have t := set_two y0 y1 (.int .i64 k) (.int .i64 N)
        refine ⟨t.1, t.2, World.cell?_setCell_same' _ _ _ ?_⟩
        rw [World.cell?_setCell_other _ _ _ _ (by simp), World.cell?_setCell_other _ _ _ _ (by simp), y2]
        rfl
      clear AP tc td tf z hT q0 hP hb1 t0 t1 t2 t3 HK HBW HSZ HP HQ HF HB4 HS4 C h0 h1 hs2 ne1 ew
      go_wp2
      exact bodyPost_ret (v := .agg #[.int .i64 k, .int .i64 N, .slice (some ⟨w.heap.size + 1 + 1 + 1, 0, none⟩) 1 1]) (by simp [results, Try.results60, go_sem, HR.out.1, HR.out.2.1, HR.out.2.2]) rfl (HFIN.out _ _ _)
/-- What the copy of an array that may be promises. -/
def CopyC (n : Nat) : Prop := ∀ r x lo va w, chkA r x = 0 → ArIn n lo w x va → Calls Try.prog 30 #[va] w fun e w' => GivesS n x w e w'
theorem copyCell_any (n : Nat) (IH : CopyC n) (f : Ar → Int) (hf : ∀ y, f y = 0 → ∃ r, chkA r y = 0) (c : Ce) (hc : chkC f c = 0) (lo : Nat) (w : World) (v0 v1 v2 : Value) (h : CeIn (ArIn n lo w) lo w c v0 v1 v2) :
    Calls Try.prog 60 #[.agg #[v0, v1, v2]] w fun e w' => GivesC n c w e w' := by
  obtain ⟨rfl, rfl, a, cap, rfl, hl, hx⟩ := h
  obtain ⟨k, N, box⟩ := c
  simp only at hl hx hc ⊢
  unfold chkC at hc
  by_cases h1 : k = 2 ∧ N = 0 ∧ box.length = 1
  · rw [if_pos h1] at hc
    obtain ⟨-, -, hb1⟩ := h1
    rcases hx with hx | ⟨b, off, rfl, hlo, hb, hx⟩
    · subst hx; simp at hb1
    · obtain ⟨u0, u1, e0, e1, e2⟩ := hx 0 (by omega)
      simp only [Nat.zero_mul, Nat.add_zero] at e0 e1
      obtain ⟨r, hr⟩ := hf _ hc
      have hbox : box = [bAt box 0] := by
        match box, hb1 with
        | [y], _ => rfl
      have := copyCell_one n k N (bAt box 0) b off cap u0 u1 lo w hb e0 e1 e2 fun lo vb w hy => IH r _ lo vb w hr hy
      rw [hbox]
      exact this
  · rw [if_neg h1] at hc
    by_cases h2 : box.length = 0 ∧ (k = 0 ∨ k = 1 ∧ Good N)
    · have hb : box = [] := List.eq_nil_of_length_eq_zero h2.1
      subst hb
      exact copyCell_none n k N a cap w
    · simp only at hc
      rw [if_neg h2] at hc
      omega
end Go.Proofs.Ytmjncdhahdpplaa
