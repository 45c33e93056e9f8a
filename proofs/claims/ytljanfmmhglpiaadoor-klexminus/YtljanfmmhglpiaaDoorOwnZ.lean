/-
  An array is the same as itself, and the arrays that Atom and Nums make may be: the plain mathematics of it; and a slice of int64 that came in, as a row.
-/
import Derived.Test.YtljanfmmhglpiaaDoorOwnS
import Derived.Test.YtljanfmmhglpiaaDoorRows
import Derived.WalkKit
import Derived.ProofKit
import Derived.Below
import Derived.Deep.OwnRows
import Derived.Deep.QuietTactic
import Derived.BigQuiet
import Derived.Deep.RegionWith
import Derived.Laws.MakeOwn
import Derived.Deep.RegionHeld3
import Derived.OpenShut
import Derived.ChangeOld
import Derived.SizedLaws
import Derived.Deep.Slices
import Derived.Deep.Strs
import Derived.Deep.LoopGhost
namespace Go.Proofs.YtljanfmmhglpiaaDoor
open Go.ChangeShapes Go.WideShapes Go.ChangeAt Go.RowKit
set_option maxRecDepth 100000
set_option linter.unusedVariables false
theorem firstUp_all {f : Nat → Int} {m : Nat} (h : ∀ i, i < m → f i = 0) : firstUp f m = 0 := by
  induction m with
  | zero => rfl
  | succ m ih => simp only [firstUp]; rw [ih fun i hi => h i (by omega), if_pos rfl]; exact h m (by omega)
theorem cmpC_self {f : Ar → Ar → Int} (hf : ∀ x, f x x = 0) (c : Ce) : cmpC f c c = 0 := by
  unfold cmpC
  simp [cmp3_self, hf]
theorem cmpA_self (n : Nat) (x : Ar) : cmpA n x x = 0 := by
  induction n generalizing x with
  | zero => rfl
  | succ n ih =>
    simp only [cmpA]
    rw [if_neg (by simp [cmp3_self]), if_neg (by
      have : firstUp (axF x x) x.shape.length = 0 := firstUp_all fun i _ => cmp3_self _
      simp [this]), if_neg (by
      have : firstUp (ceF (cmpA n) x x) (min x.cells.length x.cells.length) = 0 := firstUp_all fun i _ => cmpC_self ih _
      exact fun h => h this)]
    exact cmp3_self _
theorem chk_atom (z : Int) : chkA 8 (atomA z) = 0 := by
  have h1 : sizeE [] = 0 := by decide
  have h2 : sizeV [] = 1 := by decide
  have h3 : ¬ hasLong [] := by decide
  simp [chkA, chkB, atomA, Ar.shape, Ar.cells, numCs, h1, h2, h3, firstUp, chkF, chkC, cAt]
theorem chk_nums (l : List Int) (hl : l.length ≤ 16384) : chkA 8 (numsA l) = 0 := by
  have hn : ¬ hasNeg [(l.length : Int)] := by
    rintro ⟨z, hz, h⟩
    simp at hz
    omega
  have h3 : ¬ hasLong [(l.length : Int)] := by
    rintro ⟨z, hz, h⟩
    simp at hz
    omega
  have h12 : sizeE [(l.length : Int)] = 0 ∧ sizeV [(l.length : Int)] = (l.length : Int) := by
    by_cases h0 : hasZero [(l.length : Int)]
    · have hz := h0
      obtain ⟨z, hz, h⟩ := hz
      simp at hz
      have := size_zero (l := [(l.length : Int)]) (by simp) hn h0
      exact ⟨this.2, by rw [this.1]; omega⟩
    · have hp : prodL [(l.length : Int)] = (l.length : Int) := by simp [prodL]
      have := size_ok (l := [(l.length : Int)]) (by simp) hn h0 (by rw [hp]; omega)
      exact ⟨this.2, by rw [this.1, hp]⟩
  show chkB (chkA 7) (numsA l) = 0
  unfold chkB
  have e1 : (numsA l).shape = [(l.length : Int)] := rfl
  have e2 : (numsA l).cells = numCs 0 l := rfl
  rw [e1, e2, numCs_len, if_neg (by simp [h12.1]), if_neg (by simp [h12.2]), if_neg h3]
  refine firstUp_all fun i hi => ?_
  unfold chkF
  rw [e2, numCs_at 0 l i hi]
  simp [chkC]
theorem bytes2 : Tryd.prog.bytesOf 2 = 8 := by kernel_rfl
/-- A slice of int64 that came in, as a row. -/
theorem ints64_row {H : Type} {enc : TypeId × Value → H} {W : World} {ts : List TypeId} {ds : List (DataW H)} {j : Nat} {d : DataW H} {a : Option Addr} {len cap : Nat} {p : List MemPlace}
    (hsz : (DataW.weightsEach Tryd.prog ts ds).all (· ≤ reachBytes) = true) (ht : ts[j]? = some 44) (hd : ds[j]? = some d)
    (h : DataW.Trod enc Tryd.prog W 0 (fun _ => true) true 44 (.slice a len cap) d p) : ∃ zs : List Int, zs.length = len ∧ Row 0 W a zs ∧ len * 8 ≤ 140737488351232 := by
  obtain ⟨fuel, hf⟩ := h
  rcases open_ints Tryd.underlying44 Tryd.underlying2 (by kernel_rfl) hf with ⟨hcs, hx⟩ | ⟨x, l, c, zs, hcs, _, hl, hm, hz, hx, hcell, hwz⟩
  · simp [Value.cells] at hcs
    obtain ⟨rfl, rfl, rfl⟩ := hcs
    exact ⟨[], rfl, row_nil _ _ _, by omega⟩
  · simp [Value.cells] at hcs
    obtain ⟨rfl, rfl, rfl⟩ := hcs
    have hd' := (Prod.mk.inj hx).1
    have hz' : zs.length = cap := by simpa using hz
    rw [hd'] at hd
    have hs := sized_slice hsz (j := j) (t := 44) (e := 2) ht hd Tryd.underlying44
    rw [bytes2] at hs
    simp only [lits, List.length_map, List.length_take, List.length_drop, reachBytes] at hs
    refine ⟨zs.take len, by rw [List.length_take]; omega, ?_, by omega⟩
    refine ⟨by rw [List.length_take]; omega, ?_⟩
    by_cases h0 : len = 0
    · left; subst h0; rfl
    · right
      obtain ⟨b, off, spot⟩ := x
      have hc0 := hcell 0 (by omega)
      have hspot : spot = none := by simpa [Addr.add] using World.cell?_spot hc0
      subst hspot
      refine ⟨b, off, rfl, Nat.zero_le _, ?_, ?_⟩
      · refine Decidable.byContradiction fun hb => ?_
        have : W.heap[b]? = none := by simp; omega
        simp [Addr.add, World.cell?, this] at hc0
      · intro i hi
        have hi' : i < len := by rw [List.length_take] at hi; omega
        have := hcell i (by omega)
        rw [add_off] at this
        rw [this]
        simp [hi']
end Go.Proofs.YtljanfmmhglpiaaDoor
