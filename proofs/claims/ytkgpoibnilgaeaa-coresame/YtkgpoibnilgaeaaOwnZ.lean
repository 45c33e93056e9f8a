/-
  An array is the same as itself, and the arrays that Atom and Nums make may be: the plain mathematics of it; and a slice of int64 that came in, as a row.
-/
import Derived.Test.YtkgpoibnilgaeaaOwnI
import Derived.Test.YtkgpoibnilgaeaaOwnM
import Derived.Test.YtkgpoibnilgaeaaOwnP
import Derived.Test.YtkgpoibnilgaeaaRows
import Derived.WalkKit
import Derived.ProofKit
import Derived.Below
import Derived.Deep.OwnRows
import Derived.Deep.QuietTactic
import Derived.BigQuiet
import Derived.Deep.RegionWith
import Derived.Laws.MakeOwn
import Derived.Deep.RegionHeld3
import Derived.OpenShut
import Derived.ChangeOld
import Derived.SizedLaws
import Derived.Deep.Slices
import Derived.Deep.Strs
import Derived.Deep.LoopGhost
namespace Go.Proofs.Ytkgpoibnilgaeaa
open Go.ChangeShapes Go.WideShapes Go.ChangeAt Go.RowKit
set_option linter.unusedVariables false
theorem firstUp_all {f : Nat → Int} {m : Nat} (h : ∀ i, i < m → f i = 0) : firstUp f m = 0 := by
  induction m with
  | zero => rfl
  | succ m ih => simp only [firstUp]; rw [ih fun i hi => h i (by omega), if_pos rfl]; exact h m (by omega)
theorem cmpC_self {f : Ar → Ar → Int} (hf : ∀ x, f x x = 0) (c : Ce) : cmpC f c c = 0 := by
  unfold cmpC
  simp [cmp3_self, hf]
theorem cmpA_self (n : Nat) (x : Ar) : cmpA n x x = 0 := by
  induction n generalizing x with
  | zero => rfl
  | succ n ih =>
    simp only [cmpA]
    rw [if_neg (by simp [cmp3_self]), if_neg (by
      have : firstUp (axF x x) x.shape.length = 0 := firstUp_all fun i _ => cmp3_self _
      simp [this]), if_neg (by
      have : firstUp (ceF (cmpA n) x x) (min x.cells.length x.cells.length) = 0 := firstUp_all fun i _ => cmpC_self ih _
      exact fun h => h this)]
    exact cmp3_self _
theorem chk_atom (z : Int) : chkA 8 (atomA z) = 0 := by
  have h1 : sizeE [] = 0 := by decide
  have h2 : sizeV [] = 1 := by decide
  have h3 : ¬ hasLong [] := by decide
  simp [chkA, chkB, atomA, Ar.shape, Ar.cells, numCs, h1, h2, h3, firstUp, chkF, chkC, cAt]
theorem chk_nums (l : List Int) (hl : l.length ≤ 16384) : chkA 8 (numsA l) = 0 := by
  have hn : ¬ hasNeg [(l.length : Int)] := by
    rintro ⟨z, hz, h⟩
    simp at hz
    omega
  have h3 : ¬ hasLong [(l.length : Int)] := by
    rintro ⟨z, hz, h⟩
    simp at hz
    omega
  have h12 : sizeE [(l.length : Int)] = 0 ∧ sizeV [(l.length : Int)] = (l.length : Int) := by
    by_cases h0 : hasZero [(l.length : Int)]
    · have hz := h0
      obtain ⟨z, hz, h⟩ := hz
      simp at hz
      have := size_zero (l := [(l.length : Int)]) (by simp) hn h0
      exact ⟨this.2, by rw [this.1]; omega⟩
    · have hp : prodL [(l.length : Int)] = (l.length : Int) := by simp [prodL]
      have := size_ok (l := [(l.length : Int)]) (by simp) hn h0 (by rw [hp]; omega)
      exact ⟨this.2, by rw [this.1, hp]⟩
  show chkB (chkA 7) (numsA l) = 0
  unfold chkB
  have e1 : (numsA l).shape = [(l.length : Int)] := rfl
  have e2 : (numsA l).cells = numCs 0 l := rfl
  rw [e1, e2, numCs_len, if_neg (by simp [h12.1]), if_neg (by simp [h12.2]), if_neg h3]
  refine firstUp_all fun i hi => ?_
  unfold chkF
  rw [e2, numCs_at 0 l i hi]
  simp [chkC]
theorem bytes2 : Try.prog.bytesOf 2 = 8 := by kernel_rfl
end Go.Proofs.Ytkgpoibnilgaeaa
