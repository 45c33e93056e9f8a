/-
  The contract of layer 5's copyCell.
-/
import Derived.Test.YtmjncdhahdpplaaLyN
import Derived.Test.YtmjncdhahdpplaaLyO
namespace Go.Proofs.Ytmjncdhahdpplaa
open Go.ChangeShapes Go.WideShapes Go.ChangeAt Go.RowKit
set_option linter.unusedVariables false
set_option maxRecDepth 100000
theorem set_three {w : World} {s : Nat} {a b c : Value} (h0 : w.cell? ⟨s, 0, none⟩ = some a) (h1 : w.cell? ⟨s, 1, none⟩ = some b) (h2 : w.cell? ⟨s, 2, none⟩ = some c) (x y z : Value) : (w.setCell ⟨s, 0, none⟩ x).cell? ⟨s, 0, none⟩ = some x ∧ ((w.setCell ⟨s, 0, none⟩ x).setCell ⟨s, 1, none⟩ y).cell? ⟨s, 1, none⟩ = some y ∧ (((w.setCell ⟨s, 0, none⟩ x).setCell ⟨s, 1, none⟩ y).setCell ⟨s, 2, none⟩ z).cell? ⟨s, 2, none⟩ = some z := by
  have t := set_two h0 h1 x y
  refine ⟨t.1, t.2, World.cell?_setCell_same' _ _ _ ?_⟩
  rw [World.cell?_setCell_other _ _ _ _ (by simp), World.cell?_setCell_other _ _ _ _ (by simp), h2]
  rfl
def GivesCB (n : Nat) (c : Ce) (w : World) (e : Ending) (w' : World) : Prop := (∃ a cap, e = .returned (.agg #[.int .i64 c.1, .int .i64 c.2.1, .slice a c.2.2.length cap]) ∧ CeIn (ArIn n w.heap.size w') w.heap.size w' c (.int .i64 c.1) (.int .i64 c.2.1) (.slice a c.2.2.length cap)) ∧ Below w.heap.size w w'
theorem one_chk {r : Nat} {c : Ce} (h : chkC (inF r) c = 0) : chkA r (.mk [] [c]) = 0 := by
  rw [chkA_iff]
  refine ⟨by show sizeE [] = 0; decide, by show sizeV [] = ((1 : Nat) : Int); decide, by show ¬ hasLong []; decide, fun i hi => ?_⟩
  have : i = 0 := by simpa [Ar.cells] using hi
  subst this
  exact h
set_option maxHeartbeats 2000000 in
theorem lcopyCell_any {n lo : Nat} {c : Ce} {ab : Option Addr} {cb : Nat} {w : World} (hc : CeIn (ArIn n lo w) lo w c (.int .i64 c.1) (.int .i64 c.2.1) (.slice ab c.2.2.length cb)) (hlo : lo ≤ w.heap.size) (hchk : chkC (inF 8) c = 0) : Calls Try.prog 57 #[.agg #[.int .i64 c.1, .int .i64 c.2.1, .slice ab c.2.2.length cb]] w fun e w' => GivesCB n c w e w' := by
  obtain ⟨nb, hnb⟩ : ∃ nb, c.2.2.length = nb := ⟨_, rfl⟩
  rw [hnb] at hc ⊢
  have B2 := two_allocs w (.cells #[.int .i64 c.1, .int .i64 c.2.1, .slice ab nb cb] 36) (.cells #[.int .i64 0, .int .i64 0, .slice none 0 0] 36)
  have z2 := size_two w (.cells #[.int .i64 c.1, .int .i64 c.2.1, .slice ab nb cb] 36) (.cells #[.int .i64 0, .int .i64 0, .slice none 0 0] 36)
  have q0 : ((w.alloc (.cells #[.int .i64 c.1, .int .i64 c.2.1, .slice ab nb cb] 36)).alloc (.cells #[.int .i64 0, .int .i64 0, .slice none 0 0] 36)).cell? ⟨w.heap.size, 0, none⟩ = some (.int .i64 c.1) := cell_new1 w _ 36 (0, 0) _ 0 _ rfl
  have q1 : ((w.alloc (.cells #[.int .i64 c.1, .int .i64 c.2.1, .slice ab nb cb] 36)).alloc (.cells #[.int .i64 0, .int .i64 0, .slice none 0 0] 36)).cell? ⟨w.heap.size, 1, none⟩ = some (.int .i64 c.2.1) := cell_new1 w _ 36 (0, 0) _ 1 _ rfl
  have q2 : ((w.alloc (.cells #[.int .i64 c.1, .int .i64 c.2.1, .slice ab nb cb] 36)).alloc (.cells #[.int .i64 0, .int .i64 0, .slice none 0 0] 36)).cell? ⟨w.heap.size, 2, none⟩ = some (.slice ab nb cb) := cell_new1 w _ 36 (0, 0) _ 2 _ rfl
  have p0 : ((w.alloc (.cells #[.int .i64 c.1, .int .i64 c.2.1, .slice ab nb cb] 36)).alloc (.cells #[.int .i64 0, .int .i64 0, .slice none 0 0] 36)).cell? ⟨w.heap.size + 1, 0, none⟩ = some (.int .i64 0) := cell_new2 w _ 36 (0, 0) _ 0 _ rfl
  have p1 : ((w.alloc (.cells #[.int .i64 c.1, .int .i64 c.2.1, .slice ab nb cb] 36)).alloc (.cells #[.int .i64 0, .int .i64 0, .slice none 0 0] 36)).cell? ⟨w.heap.size + 1, 1, none⟩ = some (.int .i64 0) := cell_new2 w _ 36 (0, 0) _ 1 _ rfl
  have p2 : ((w.alloc (.cells #[.int .i64 c.1, .int .i64 c.2.1, .slice ab nb cb] 36)).alloc (.cells #[.int .i64 0, .int .i64 0, .slice none 0 0] 36)).cell? ⟨w.heap.size + 1, 2, none⟩ = some (.slice none 0 0) := cell_new2 w _ 36 (0, 0) _ 2 _ rfl
  have pf : ∀ i, ((w.alloc (.cells #[.int .i64 c.1, .int .i64 c.2.1, .slice ab nb cb] 36)).alloc (.cells #[.int .i64 0, .int .i64 0, .slice none 0 0] 36)).frozen? ⟨w.heap.size + 1, i, none⟩ = false := fun i => frozen_new1 _ _ _ _ _
  obtain ⟨W2, e2⟩ : ∃ W2, (w.alloc (.cells #[.int .i64 c.1, .int .i64 c.2.1, .slice ab nb cb] 36)).alloc (.cells #[.int .i64 0, .int .i64 0, .slice none 0 0] 36) = W2 := ⟨_, rfl⟩
  rw [e2] at B2 z2 q0 q1 q2 p0 p1 p2 pf
  obtain ⟨W3, e3⟩ : ∃ W3, W2.alloc (.cells #[.int .i64 c.1, .int .i64 c.2.1, .slice ab nb cb] 36) = W3 := ⟨_, rfl⟩
  have B3 : Below W2.heap.size W2 W3 := by rw [← e3]; exact one_alloc _ _
  have z3 : W3.heap.size = w.heap.size + 3 := by rw [← e3]; simp [z2]
  have s0 : W3.cell? ⟨w.heap.size + 2, 0, none⟩ = some (.int .i64 c.1) := by rw [← z2, ← e3]; exact cell_new0 W2 _ 36 0 _ rfl
  have s1 : W3.cell? ⟨w.heap.size + 2, 1, none⟩ = some (.int .i64 c.2.1) := by rw [← z2, ← e3]; exact cell_new0 W2 _ 36 1 _ rfl
  have s2 : W3.cell? ⟨w.heap.size + 2, 2, none⟩ = some (.slice ab nb cb) := by rw [← z2, ← e3]; exact cell_new0 W2 _ 36 2 _ rfl
  have B23 : Below w.heap.size w W3 := B2.trans (B3.mono (by omega))
  have A3 : ArIn (n + 1) lo W3 (.mk [] [c]) (.agg #[.slice none 0 0, .slice (some ⟨w.heap.size + 2, 0, none⟩) 1 1]) := by
    refine arIn_mk (x := .mk [] [c]) (row_nil _ _ _) (by simp [Ar.cells]) (Or.inr ⟨w.heap.size + 2, 0, rfl, by omega, by omega, fun i hi => ?_⟩) rfl rfl
    have hi0 : i = 0 := by simpa [Ar.cells] using hi
    subst hi0
    exact ⟨_, _, _, s0, s1, s2, hc.mono (Nat.le_refl _) B23 fun x v h => h.next B23⟩
  have CC := copyA (one_chk hchk) A3
  have HB := hide (And.intro B23 (And.intro z3 (And.intro z2 B3)))
  have HP := hide (And.intro p0 (And.intro p1 (And.intro p2 pf)))
  have HNB := hide hnb
  have FL := field25
  clear A3 s0 s1 s2 B2 B3 B23 z3 hc hchk p0 p1 p2 pf hnb
  go_enter Try.func57, Try.ntmps57
  go_wp2_with fail
  clear e2 e3 q0 q1 q2 z2
  refine CC.mono ?_
  rintro e w1 ⟨⟨v, rfl, hv⟩, hb1⟩
  obtain ⟨y1, m1, y2, m2, rfl, -, hcs⟩ := hv.form
  obtain ⟨ab', cb', hcf⟩ := cells_fn hcs
  obtain ⟨d, o, rfl, hd0, hd1, hcells⟩ := hcf (by simp [Ar.cells])
  obtain ⟨g0, g1, g2, g3⟩ := hcells 0 (by simp [Ar.cells])
  have ec : cAt (Ar.mk [] [c]).cells 0 = c := rfl
  rw [ec, HNB.out] at g2
  rw [ec] at g0 g1 g3
  simp only [Nat.zero_mul, Nat.add_zero] at g0 g1 g2
  obtain ⟨k1, k2, k3, k4⟩ := HB.out
  obtain ⟨p0, p1, p2, pf⟩ := HP.out
  have BB : Below (w.heap.size + 2) W2 w1 := (k4.mono (by omega)).trans (hb1.mono (by omega))
  have t0 := (BB.cell (p := ⟨w.heap.size + 1, 0, none⟩) (by show w.heap.size + 1 < _; omega)).trans p0
  have t1 := (BB.cell (p := ⟨w.heap.size + 1, 1, none⟩) (by show w.heap.size + 1 < _; omega)).trans p1
  have t2 := (BB.cell (p := ⟨w.heap.size + 1, 2, none⟩) (by show w.heap.size + 1 < _; omega)).trans p2
  have f0 := (BB.frozen (p := ⟨w.heap.size + 1, 0, none⟩) (by show w.heap.size + 1 < _; omega)).trans (pf 0)
  have f1 := (BB.frozen (p := ⟨w.heap.size + 1, 1, none⟩) (by show w.heap.size + 1 < _; omega)).trans (pf 1)
  have f2 := (BB.frozen (p := ⟨w.heap.size + 1, 2, none⟩) (by show w.heap.size + 1 < _; omega)).trans (pf 2)
  generalize ab' 0 = ab0 at *
  generalize cb' 0 = cb0 at *
  have HT := hide (set_three t0 t1 t2 (.int .i64 c.1) (.int .i64 c.2.1) (.slice ab0 nb cb0))
  have HF : Hid (∀ u v z, GivesCB n c w (.returned (.agg #[.int .i64 c.1, .int .i64 c.2.1, .slice ab0 nb cb0])) (((w1.setCell ⟨w.heap.size + 1, 0, none⟩ u).setCell ⟨w.heap.size + 1, 1, none⟩ v).setCell ⟨w.heap.size + 1, 2, none⟩ z)) := by
    intro u v z
    have hk : Keeps (w.heap.size + 2) w1 (((w1.setCell ⟨w.heap.size + 1, 0, none⟩ u).setCell ⟨w.heap.size + 1, 1, none⟩ v).setCell ⟨w.heap.size + 1, 2, none⟩ z) := (((Keeps.refl _ _).setCell (p := ⟨w.heap.size + 1, 0, none⟩) (by show w.heap.size + 1 < _; omega) _).setCell (p := ⟨w.heap.size + 1, 1, none⟩) (by show w.heap.size + 1 < _; omega) _).setCell (p := ⟨w.heap.size + 1, 2, none⟩) (by show w.heap.size + 1 < _; omega) _
    have hbw : Below w.heap.size w (((w1.setCell ⟨w.heap.size + 1, 0, none⟩ u).setCell ⟨w.heap.size + 1, 1, none⟩ v).setCell ⟨w.heap.size + 1, 2, none⟩ z) := (((k1.trans (hb1.mono (by omega))).setCell (p := ⟨w.heap.size + 1, 0, none⟩) (by show w.heap.size ≤ w.heap.size + 1; omega) _).setCell (p := ⟨w.heap.size + 1, 1, none⟩) (by show w.heap.size ≤ w.heap.size + 1; omega) _).setCell (p := ⟨w.heap.size + 1, 2, none⟩) (by show w.heap.size ≤ w.heap.size + 1; omega) _
    refine ⟨⟨ab0, cb0, by rw [HNB.out], ?_⟩, hbw⟩
    have h1 := (g3.mono (lo' := w.heap.size + 2) (by omega) (Below.refl _ _) fun x v h => h.mono (lo' := w.heap.size + 2) (by omega) (Below.refl _ _)).keeps hk fun x v h => h.keeps hk
    exact h1.mono (by omega) (Below.refl _ _) fun x v h => h.mono (by omega) (Below.refl _ _)
  clear hv hcs hcf hcells hb1 BB CC HB HP k1 k2 k3 k4 p0 p1 p2 pf g3 hd0 hd1
  simp only [Ar.shape, Ar.cells, List.length_cons, List.length_nil, Nat.zero_add] at *
  go_wp2
  exact bodyPost_ret (v := .agg #[.int .i64 c.1, .int .i64 c.2.1, .slice ab0 nb cb0]) (by simp [results, Try.results57, go_sem, HT.out.1, HT.out.2.1, HT.out.2.2]) rfl (HF.out _ _ _)
end Go.Proofs.Ytmjncdhahdpplaa
