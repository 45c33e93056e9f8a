/-
  What a call of layer 4's statements is told of the table of layer 4: it lies as its text lays it; a world for the witness.
-/
import Derived.Test.YtkigfmfegldhcaaDoorAtJ
import Derived.Test.YtkigfmfegldhcaaDoorCards
import Derived.Test.YtkigfmfegldhcaaDoorTie
import Derived.Test.YtkigfmfegldhcaaDoorOwnV
import Derived.Test.YtkigfmfegldhcaaDoorOwnT
import Derived.Deep.DeepHandedRow
import Derived.Lib.LaidTab
namespace Go.Proofs.YtkigfmfegldhcaaDoor
open Go.ChangeShapes Go.WideShapes Go.ChangeAt Go.RowKit
set_option linter.unusedVariables false
theorem cells_of_tab2 {H : Type} {enc : TypeId × Value → H} {P : Program} {w : World} {base : Nat} {sp : Nat → Bool} {held : Bool} {fuel : Nat} {t e e2 : TypeId} {n m : Nat} {k : IntKind} {cs : List Value} {zss : List (List Int)} {p : List MemPlace}
    (ht : P.underlying t = some (.array n e)) (he : P.underlying e = some (.array m e2)) (he2 : P.underlying e2 = some (.int k)) (hc2 : P.cellsOf e2 = 1) (hce : P.cellsOf e = m)
    (h : DataW.trod enc P w base sp held fuel t cs = some (.agg (zss.map (Lib.tabData k)), p)) : ∀ i zs, i < n → zss[i]? = some zs → (cs.drop (i * m)).take m = zs.map fun z => Value.int k z := by
  cases fuel with
  | zero => simp [DataW.trod] at h
  | succ fuel =>
    simp only [DataW.trod, ht, hce] at h
    split at h
    · rename_i hl
      obtain ⟨xs, hm, hx⟩ := Option.map_eq_some_iff.1 h
      have hxs : xs.map (·.1) = zss.map (Lib.tabData (H := H) k) := by
        have := congrArg Prod.fst hx
        simpa using this
      intro i zs hi hz
      obtain ⟨b, hb, hf⟩ := Lib.mapM_at hm i i (by simp [hi])
      have h2 : (xs.map (·.1))[i]? = some b.1 := by simp [hb]
      rw [hxs] at h2
      simp only [List.getElem?_map, hz, Option.map_some, Option.some.injEq] at h2
      obtain ⟨b1, b2⟩ := b
      simp only at h2
      subst h2
      exact Lib.cells_of_tab he he2 hc2 hce hf
    · cases h
theorem gTab : Tryd.prog.globalNamed "triglyph/atomic.answers" = some 0 := by kernel_rfl
theorem gTabType : (Tryd.prog.globals[0]?).map (·.type) = some 74 := by kernel_rfl
theorem cells73 : Tryd.prog.cellsOf 73 = 3 := by kernel_rfl
theorem tab_of {W : World} (h : laidMetH Tryd.prog [("triglyph/atomic.answers", Rows.laid_triglyph_atomic_answers)] W) : Tab W := by
  obtain ⟨ps, ⟨g', t', cs, fuel, p, q, hg', ht', hvar, hd, _, _⟩, _⟩ := h
  obtain rfl := Option.some.inj (gTab.symm.trans hg')
  obtain rfl := Option.some.inj (gTabType.symm.trans ht')
  have key := cells_of_tab2 (zss := [[0, 1, 0], [1, 0, 1], [1, 0, 0], [0, 0, 1], [1, 1, 0], [0, 1, 1]]) Tryd.underlying74 Tryd.underlying73 Tryd.underlying2 cells2 cells73 hd
  have hcell : ∀ i j z, i < 6 → j < 3 → cs[i * 3 + j]? = some (.int .i64 z) → W.cell? ⟨0, i * 3 + j, none⟩ = some (.int .i64 z) := by
    intro i j z hi hj hz
    have := World.var?_cell gTab hvar (i * 3 + j)
    simpa [hz] using this
  have at' : ∀ i j z zs, i < 6 → j < 3 → [[0, 1, 0], [1, 0, 1], [1, 0, 0], [0, 0, 1], [1, 1, 0], [0, 1, 1]][i]? = some zs → zs[j]? = some z → cs[i * 3 + j]? = some (.int .i64 z) := by
    intro i j z zs hi hj h1 h2
    have := congrArg (·[j]?) (key i zs hi h1)
    simp only [List.getElem?_take, List.getElem?_drop, List.getElem?_map, h2] at this
    simpa [hj] using this
  have c : ∀ k, k < 18 → W.cell? ⟨0, k, none⟩ = some (.int .i64 (ansT k)) := by
    intro k hk
    have e : k = k / 3 * 3 + k % 3 := by omega
    have hi : k / 3 < 6 := by omega
    have hj : k % 3 < 3 := by omega
    have := hcell (k / 3) (k % 3) (ansT k) hi hj (at' _ _ _ _ hi hj (List.getElem?_eq_getElem (by simpa using hi)) ?_)
    · rw [← e] at this; exact this
    · have hk' : k = 0 ∨ k = 1 ∨ k = 2 ∨ k = 3 ∨ k = 4 ∨ k = 5 ∨ k = 6 ∨ k = 7 ∨ k = 8 ∨ k = 9 ∨ k = 10 ∨ k = 11 ∨ k = 12 ∨ k = 13 ∨ k = 14 ∨ k = 15 ∨ k = 16 ∨ k = 17 := by omega
      rcases hk' with rfl | rfl | rfl | rfl | rfl | rfl | rfl | rfl | rfl | rfl | rfl | rfl | rfl | rfl | rfl | rfl | rfl | rfl <;> rfl
  refine ⟨?_, c⟩
  have c0 := c 0 (by omega)
  refine Decidable.byContradiction fun hb => ?_
  have : W.heap[0]? = none := Array.getElem?_eq_none (by omega)
  simp [World.cell?, this] at c0
/-- A world for the witness: the settled one, the table (block 0) holding what its initialiser lays. -/
noncomputable def laidWorld (os : Os) : World :=
  { World.holding Tryd.prog os ⟨#[], #[], []⟩ with heap := (World.holding Tryd.prog os ⟨#[], #[], []⟩).heap.modify 0 fun
      | .cells _ t frozen => .cells #[.int .i64 0, .int .i64 1, .int .i64 0, .int .i64 1, .int .i64 0, .int .i64 1, .int .i64 1, .int .i64 0, .int .i64 0, .int .i64 0, .int .i64 0, .int .i64 1, .int .i64 1, .int .i64 1, .int .i64 0, .int .i64 0, .int .i64 1, .int .i64 1] t frozen
      | o => o }
end Go.Proofs.YtkigfmfegldhcaaDoor
