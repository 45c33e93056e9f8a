/-
  What a call of layer 14's statements is told of the package-level variables: they lie as their texts lay them; a world for the witness.
-/
import Derived.Test.YtljanfmmhglpiaaDoorLxP
import Derived.Test.YtljanfmmhglpiaaDoorCards
import Derived.Test.YtljanfmmhglpiaaDoorTie
import Derived.Deep.DeepHandedRow
import Derived.Lib.LaidTab
import Derived.OpenShut
import Derived.Lay
import Derived.ChangeOld
import Derived.SizedLaws
namespace Go.Proofs.YtljanfmmhglpiaaDoor
open Go.ChangeShapes Go.WideShapes Go.ChangeAt Go.RowKit
open Rn (Byte)
set_option linter.unusedVariables false
set_option maxRecDepth 100000
theorem cells3 : Tryd.prog.cellsOf 3 = 1 := by kernel_rfl
theorem cells9 : Tryd.prog.cellsOf 9 = 1 := by kernel_rfl
theorem cells2' : Tryd.prog.cellsOf 2 = 1 := by kernel_rfl
theorem cells78 : Tryd.prog.cellsOf 78 = 4 := by kernel_rfl
theorem str_eq {s : ByteArray} {l : List Int} (h : s.data.toList = Lib.bytesOf l) : s = strOfNums l := by
  have h2 := str_data l
  cases hs : s with
  | mk d =>
    cases ht : strOfNums l with
    | mk d' =>
      rw [hs] at h
      rw [ht] at h2
      congr 1
      exact Array.toList_inj.1 (h.trans h2.symm)
theorem gLeast : Tryd.prog.globalNamed "triglyph/runes.leasts" = some 0 := by kernel_rfl
theorem gRange : Tryd.prog.globalNamed "strconv.ErrRange" = some 3 := by kernel_rfl
theorem tLeast : (Tryd.prog.globals[0]?).map (·.type) = some 78 := by kernel_rfl
theorem tRange : (Tryd.prog.globals[3]?).map (·.type) = some 71 := by kernel_rfl
theorem gBruijn : Tryd.prog.globalNamed "math/bits.deBruijn64tab" = some 6 := by kernel_rfl
theorem var_lt {W : World} {n : String} {g : Nat} {cs : Array Value} (hg : Tryd.prog.globalNamed n = some g) (h : W.var? Tryd.prog n = some cs) : g < W.heap.size := by
  unfold World.var? at h
  simp only [hg, Option.bind_some] at h
  rcases Nat.lt_or_ge g W.heap.size with h' | h'
  · exact h'
  · simp [Array.getElem?_eq_none h'] at h
theorem iface_is {H : Type} {enc : TypeId × Value → H} {w : World} {base : Nat} {sp : Nat → Bool} {fuel : Nat} {cs : List Value} {nm : String} {d : DataW H} {p : List MemPlace}
    (h : DataW.trod enc Tryd.prog w base sp false fuel 71 cs = some (.iface nm d, p)) : ∃ u v, cs = [.iface u v] := by
  cases fuel with
  | zero => simp [DataW.trod] at h
  | succ fuel =>
    simp only [DataW.trod, Tryd.underlying71] at h
    split at h <;> simp_all
theorem glb_of {W : World} (h : laidMetH Tryd.prog Rows.klexPlacesRow.laid W) : Glb W := by
  obtain ⟨ps, ⟨-, -, -, -, -, -, -, -, -, -, ⟨g2, t2, cs2, f2, p2, q2, hg2, ht2, hv2, hd2, ⟨-, -, -, -, -, -, -, -, -, -, ⟨g4, t4, cs4, f4, p4, q4, hg4, ht4, hv4, hd4, ⟨-, -, -, -, -, -, -, -, -, -, ⟨g6, t6, cs6, f6, p6, q6, hg6, ht6, hv6, hd6, -, -⟩, -⟩, -⟩, -⟩, -⟩, -⟩, -⟩ := h
  obtain rfl := Option.some.inj (gRange.symm.trans hg4)
  obtain rfl := Option.some.inj (gLeast.symm.trans hg6)
  obtain rfl := Option.some.inj (tRange.symm.trans ht4)
  obtain rfl := Option.some.inj (tLeast.symm.trans ht6)
  have hc6 := Lib.cells_of_tab (zs := [0, 128, 2048, 65536]) Tryd.underlying78 Tryd.underlying2 cells2' cells78 hd6
  have c0 : ∀ j v, cs6.toList[j]? = some v → W.cell? ⟨0, j, none⟩ = some v := fun j v hj => by
    have := World.var?_cell gLeast hv6 j
    rw [this]
    simpa using hj
  have h9 : 6 < W.heap.size := var_lt gBruijn hv2
  refine ⟨h9, ⟨by omega, fun k hk => ?_⟩, ?_⟩
  · refine c0 k _ ?_
    rw [hc6]
    rcases (by omega : k = 0 ∨ k = 1 ∨ k = 2 ∨ k = 3) with rfl | rfl | rfl | rfl <;> rfl
  · obtain ⟨u, v, hc⟩ := iface_is hd4
    have := World.var?_cell gRange hv4 0
    refine ⟨u, v, ?_⟩
    rw [this]
    have h0 : cs4.toList[0]? = some (.iface u v) := by rw [hc]; rfl
    simpa using h0
theorem own : ownKnob Tryd.prog.godebug = none := by kernel_rfl
/-- A world for the witness: the settled one, each listed variable as its text lays it. -/
noncomputable def laidWorld (os : Os) : World := World.laidAll Tryd.prog os Rows.klexPlacesRow.laid
end Go.Proofs.YtljanfmmhglpiaaDoor
