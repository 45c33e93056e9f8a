/-
  Small things that layer 3's statements over arrays share: a value of two or three cells, what a call finds of its own boxed arguments later on.
-/
import Derived.Test.YtfhcdhkdcegieaaOwnS
import Derived.Test.YtfhcdhkdcegieaaOwnT
namespace Go.Proofs.Ytfhcdhkdcegieaa
open Go.ChangeShapes Go.WideShapes Go.ChangeAt Go.RowKit Go.Deep
set_option linter.unusedVariables false
theorem agg_two {v c0 c1 : Value} (h : v.cells.toList = [c0, c1]) : v = .agg #[c0, c1] := by
  cases v with
  | agg cs =>
    obtain ⟨l⟩ := cs
    simp [Value.cells] at h
    rw [h]
  | _ => simp [Value.cells] at h
theorem agg_three {v c0 c1 c2 : Value} (h : v.cells.toList = [c0, c1, c2]) : v = .agg #[c0, c1, c2] := by
  cases v with
  | agg cs =>
    obtain ⟨l⟩ := cs
    simp [Value.cells] at h
    rw [h]
  | _ => simp [Value.cells] at h
end Go.Proofs.Ytfhcdhkdcegieaa
