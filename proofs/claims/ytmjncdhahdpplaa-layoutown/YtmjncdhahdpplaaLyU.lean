/-
  An array that came in has slices that are no longer than their rows.
-/
import Derived.Test.YtmjncdhahdpplaaLyR
import Derived.Test.YtmjncdhahdpplaaOwnS
namespace Go.Proofs.Ytmjncdhahdpplaa
open Go.ChangeShapes Go.WideShapes Go.ChangeAt Go.RowKit Go.Deep
set_option linter.unusedVariables false
set_option maxRecDepth 100000
theorem arr_caps {H : Type} {enc : TypeId × Value → H} {W : World} {sp : Nat → Bool} {held : Bool} {d : DataW H} {c0 c1 : Value} {p : List MemPlace} (h : DataW.Trod enc Try.prog W 0 sp held 25 (.agg #[c0, c1]) d p) : Caps (.agg #[c0, c1]) := by
  obtain ⟨fuel, h⟩ := h
  obtain ⟨y0, y1, m, hx, hl, h0, h1⟩ := trod_struct2 Try.underlying25 h
  have hcs : (Value.agg #[c0, c1]).cells.toList = [c0, c1] := rfl
  rw [hcs] at h0 h1
  simp only [cells22, cells23, List.drop_zero, List.take_succ_cons, List.take_zero, List.drop_succ_cons] at h0 h1
  obtain ⟨a1, n1, k1, rfl, hk1⟩ : ∃ a1 n1 k1, c0 = .slice a1 n1 k1 ∧ n1 ≤ k1 := by
    rcases open_ints Try.underlying22 Try.underlying3 cells3 h0 with ⟨hcs, hx⟩ | ⟨a, l, c, zs, hcs, _, hlc, hm, hz, hx, hcell, hwz⟩
    · simp only [List.cons.injEq, and_true] at hcs
      exact ⟨none, 0, 0, hcs, Nat.le_refl _⟩
    · simp only [List.cons.injEq, and_true] at hcs
      exact ⟨_, _, _, hcs, hlc⟩
  obtain ⟨a2, n2, k2, rfl, hk2⟩ : ∃ a2 n2 k2, c1 = .slice a2 n2 k2 ∧ n2 ≤ k2 := by
    rcases open_slice Try.underlying23 h1 with ⟨hcs, hx⟩ | ⟨a, len, cap, mm, n, D, Pl, hcs, _, hlc, hm, hmm, hx, hel⟩
    · simp only [List.cons.injEq, and_true] at hcs
      exact ⟨none, 0, 0, hcs, Nat.le_refl _⟩
    · simp only [List.cons.injEq, and_true] at hcs
      exact ⟨_, _, _, hcs, hlc⟩
  exact ⟨a1, n1, k1, a2, n2, k2, rfl, hk1, hk2⟩
end Go.Proofs.Ytmjncdhahdpplaa
