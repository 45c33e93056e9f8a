/-
  What a store of a number into a copy leaves as it was: all that is no number, and all outside the copy's own memory; and what of a copied array is written so.
-/
import Derived.Test.YtkigfmfegldhcaaOwnP
namespace Go.Proofs.Ytkigfmfegldhcaa
open Go.ChangeShapes Go.WideShapes Go.ChangeAt Go.RowKit
set_option linter.unusedVariables false
/-- From W0 to wr: nothing below block s0 has turned, none of the blocks that were there from s1 on; between them numbers alone. -/
structure Sf (s0 s1 : Nat) (W0 wr : World) : Prop where
  below : Below s0 W0 wr
  keeps : Keeps s1 W0 wr
  frz : ∀ p : Addr, p.block < W0.heap.size → wr.frozen? p = W0.frozen? p
  same : ∀ (p : Addr) (v : Value), W0.cell? p = some v → wr.cell? p = some v ∨ ∃ z z', v = .int .i64 z ∧ wr.cell? p = some (.int .i64 z')
theorem cell_in {w : World} {p : Addr} {v : Value} (h : w.cell? p = some v) : p.block < w.heap.size := by
  refine Decidable.byContradiction fun hb => ?_
  have : w.heap[p.block]? = none := Array.getElem?_eq_none (by omega)
  simp [World.cell?, this] at h
namespace Sf
variable {s0 s1 : Nat} {W0 wr : World}
theorem refl (s0 s1 : Nat) (W0 : World) : Sf s0 s1 W0 W0 := ⟨Below.refl _ _, Keeps.refl _ _, fun _ _ => rfl, fun _ _ h => Or.inl h⟩
theorem slice (h : Sf s0 s1 W0 wr) {p : Addr} {a : Option Addr} {n c : Nat} (hp : W0.cell? p = some (.slice a n c)) : wr.cell? p = some (.slice a n c) := by
  rcases h.same p _ hp with h | ⟨z, z', e, _⟩
  · exact h
  · cases e
theorem int (h : Sf s0 s1 W0 wr) {p : Addr} {z : Int} (hp : W0.cell? p = some (.int .i64 z)) : ∃ z', wr.cell? p = some (.int .i64 z') := by
  rcases h.same p _ hp with h | ⟨_, z', _, h⟩
  · exact ⟨_, h⟩
  · exact ⟨_, h⟩
theorem store (h : Sf s0 s1 W0 wr) {p : Addr} {z : Int} (hp : W0.cell? p = some (.int .i64 z)) (h0 : s0 ≤ p.block) (h1 : p.block < s1) (z' : Int) : Sf s0 s1 W0 (wr.setCell p (.int .i64 z')) := by
  refine ⟨h.below.setCell h0 _, h.keeps.setCell h1 _, fun q hq => by simpa using h.frz q hq, fun q v hq => ?_⟩
  by_cases e : p = q
  · subst e
    right
    rw [hp] at hq
    cases hq
    obtain ⟨z2, hz2⟩ := h.int hp
    exact ⟨z, z', rfl, World.cell?_setCell_same' _ _ _ (by rw [hz2]; rfl)⟩
  · rw [World.cell?_setCell_other _ _ _ _ e]
    exact h.same q v hq
theorem alloc (h : Sf s0 s1 W0 wr) (hs : s0 ≤ W0.heap.size) (o : Obj) : Sf s0 s1 W0 (wr.alloc o) := by
  have hz := h.below.size
  refine ⟨h.below.alloc (Nat.le_trans hs hz) o, ⟨Nat.le_trans h.keeps.1 (by simp), fun b h1 h2 => ?_⟩, fun p hp => ?_, fun p v hp => ?_⟩
  · rw [Below.heap_alloc _ _ _ (Nat.lt_of_lt_of_le h2 hz)]
    exact h.keeps.2 b h1 h2
  · rw [World.frozen?_of_block (w := wr) (Below.heap_alloc _ _ _ (Nat.lt_of_lt_of_le hp hz))]
    exact h.frz p hp
  · rw [World.cell?_of_block (w := wr) (Below.heap_alloc _ _ _ (Nat.lt_of_lt_of_le (cell_in hp) hz))]
    exact h.same p v hp
theorem drew (h : Sf s0 s1 W0 wr) : Sf s0 s1 W0 wr.drew := ⟨h.below.drew, h.keeps, h.frz, h.same⟩
end Sf
/-- At this place lies a number that may be written. -/
def IntAt (R : World → Prop) (b o : Nat) : Prop := ∀ wr, R wr → (∃ z, wr.cell? ⟨b, o, none⟩ = some (.int .i64 z)) ∧ wr.frozen? ⟨b, o, none⟩ = false ∧ ∀ z, R (wr.setCell ⟨b, o, none⟩ (.int .i64 z))
theorem intAt_of {s0 s1 : Nat} {W0 : World} {b o : Nat} {z : Int} (hc : W0.cell? ⟨b, o, none⟩ = some (.int .i64 z)) (h0 : s0 ≤ b) (h1 : b < s1) (hf : W0.frozen? ⟨b, o, none⟩ = false) : IntAt (Sf s0 s1 W0) b o := fun wr h =>
  ⟨h.int hc, (h.frz ⟨b, o, none⟩ (cell_in hc)).trans hf, fun z' => h.store hc h0 h1 z'⟩
/-- What of a copied array is written: its axes, its cells' numbers, the numbers of the cells of the arrays in its boxes. -/
theorem copied {n s0 : Nat} {w1 W0 : World} {x : Ar} {p1 p2 : Option Addr} {SA CA k1 k2 : Nat} (hA : ArIn (n + 1) s0 w1 x (.agg #[.slice p1 SA k1, .slice p2 CA k2])) (hW : Below w1.heap.size w1 W0) (hf : ∀ p : Addr, s0 ≤ p.block → w1.frozen? p = false) :
    (∀ i, i < SA → ∃ b off, p1 = some ⟨b, off, none⟩ ∧ IntAt (Sf s0 w1.heap.size W0) b (off + i)) ∧
    ∀ i, i < CA → ∃ b off ab nb cb, p2 = some ⟨b, off, none⟩ ∧ IntAt (Sf s0 w1.heap.size W0) b (off + i * 3 + 1) ∧ nb ≤ 5864062014805 ∧ (∀ wr, Sf s0 w1.heap.size W0 wr → wr.cell? ⟨b, off + i * 3 + 2, none⟩ = some (.slice ab nb cb)) ∧
      ∀ k, k < nb → ∃ bb ob a1 l1 c1 a2 m c2, ab = some ⟨bb, ob, none⟩ ∧ m ≤ 5864062014805 ∧ (∀ wr, Sf s0 w1.heap.size W0 wr → wr.cell? ⟨bb, ob + k * 2, none⟩ = some (.slice a1 l1 c1) ∧ wr.cell? ⟨bb, ob + k * 2 + 1, none⟩ = some (.slice a2 m c2)) ∧
        ∀ j, j < m → ∃ b3 o3, a2 = some ⟨b3, o3, none⟩ ∧ b3 < w1.heap.size ∧ IntAt (Sf s0 w1.heap.size W0) b3 (o3 + j * 3 + 1) := by
  have go : ∀ {b o : Nat} {z : Int}, w1.cell? ⟨b, o, none⟩ = some (.int .i64 z) → s0 ≤ b → IntAt (Sf s0 w1.heap.size W0) b o := by
    intro b o z hc h0
    have hb : b < w1.heap.size := cell_in hc
    exact intAt_of ((hW.cell (p := ⟨b, o, none⟩) hb).trans hc) h0 hb ((hW.frozen (p := ⟨b, o, none⟩) hb).trans (hf ⟨b, o, none⟩ h0))
  have sl : ∀ {b o : Nat} {a : Option Addr} {l c : Nat}, w1.cell? ⟨b, o, none⟩ = some (.slice a l c) → ∀ wr, Sf s0 w1.heap.size W0 wr → wr.cell? ⟨b, o, none⟩ = some (.slice a l c) := by
    intro b o a l c hc wr h
    exact h.slice ((hW.cell (p := ⟨b, o, none⟩) (cell_in hc)).trans hc)
  obtain ⟨a1, c1, a2, c2, hv, R, hl, hc⟩ := hA
  simp only [Value.agg.injEq, Array.mk.injEq, List.cons.injEq, and_true, Value.slice.injEq] at hv
  obtain ⟨⟨rfl, rfl, rfl⟩, rfl, rfl, rfl⟩ := hv
  refine ⟨fun i hi => ?_, fun i hi => ?_⟩
  · rcases R.2 with h | ⟨b, off, rfl, hlo, hb, h⟩
    · rw [h] at hi; simp at hi
    · exact ⟨b, off, rfl, go (h i hi) hlo⟩
  · rcases hc with h | ⟨b, off, rfl, hlo, hb, h⟩
    · rw [h] at hi; simp at hi
    obtain ⟨v0, v1, v2, e0, e1, e2, rfl, rfl, ab, cb, rfl, hnl, hx⟩ := h i hi
    refine ⟨b, off, ab, _, cb, rfl, go e1 hlo, hnl, sl e2, fun k hk => ?_⟩
    rcases hx with hx | ⟨bb, ob, rfl, hlo', hbb, hx⟩
    · rw [hx] at hk; simp at hk
    obtain ⟨u0, u1, g0, g1, g2⟩ := hx k hk
    cases n with
    | zero => exact g2.elim
    | succ n =>
      obtain ⟨y1, d1, y2, d2, hv, R', hl', hc'⟩ := g2
      simp only [Value.agg.injEq, Array.mk.injEq, List.cons.injEq, and_true] at hv
      obtain ⟨rfl, rfl⟩ := hv
      refine ⟨bb, ob, y1, _, d1, y2, _, d2, rfl, hl', fun wr h => ⟨sl g0 wr h, sl g1 wr h⟩, fun j hj => ?_⟩
      rcases hc' with h' | ⟨b3, o3, rfl, hlo3, hb3, h'⟩
      · rw [h'] at hj; simp at hj
      obtain ⟨t0, t1, t2, f0, f1, f2, rfl, rfl, -⟩ := h' j hj
      exact ⟨b3, o3, rfl, hb3, go f1 hlo3⟩
end Go.Proofs.Ytkigfmfegldhcaa
