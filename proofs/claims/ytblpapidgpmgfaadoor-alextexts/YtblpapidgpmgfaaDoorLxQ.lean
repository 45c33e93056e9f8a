/-
  What a call of layer 12's statements is told of the package-level variables: they lie as their texts lay them; a world for the witness.
-/
import Derived.Test.YtblpapidgpmgfaaDoorLxP
import Derived.Test.YtblpapidgpmgfaaDoorCards
import Derived.Test.YtblpapidgpmgfaaDoorTie
import Derived.Deep.DeepHandedRow
import Derived.Lib.LaidTab
import Derived.OpenShut
import Derived.Lay
import Derived.ChangeOld
import Derived.SizedLaws
namespace Go.Proofs.YtblpapidgpmgfaaDoor
open Go.ChangeShapes Go.WideShapes Go.ChangeAt Go.RowKit
open Rn (Byte)
set_option linter.unusedVariables false
set_option maxRecDepth 100000
theorem cells3 : Tryd.prog.cellsOf 3 = 1 := by kernel_rfl
theorem cells9 : Tryd.prog.cellsOf 9 = 1 := by kernel_rfl
theorem cells78 : Tryd.prog.cellsOf 78 = 2 := by kernel_rfl
theorem cells2' : Tryd.prog.cellsOf 2 = 1 := by kernel_rfl
theorem cells76 : Tryd.prog.cellsOf 76 = 4 := by kernel_rfl
theorem str_eq {s : ByteArray} {l : List Int} (h : s.data.toList = Lib.bytesOf l) : s = strOfNums l := by
  have h2 := str_data l
  cases hs : s with
  | mk d =>
    cases ht : strOfNums l with
    | mk d' =>
      rw [hs] at h
      rw [ht] at h2
      congr 1
      exact Array.toList_inj.1 (h.trans h2.symm)
theorem row_is {H : Type} {enc : TypeId × Value → H} {w : World} {base : Nat} {sp : Nat → Bool} {held : Bool} {fuel : Nat} {cs : List Value} {k : Int} {bs : List UInt8} {p : List MemPlace}
    (h : DataW.trod enc Tryd.prog w base sp held fuel 78 cs = some (.agg [.lit (.int .i64 k), .lit (.string bs)], p)) : ∃ s : ByteArray, cs = [.int .i64 k, .string s] ∧ s.data.toList = bs := by
  cases fuel with
  | zero => simp [DataW.trod] at h
  | succ fuel =>
    simp only [DataW.trod, Tryd.underlying78, cells78] at h
    split at h
    · rename_i hl
      obtain ⟨xs, hm, hx⟩ := Option.map_eq_some_iff.1 h
      have hxs : xs.map (·.1) = [.lit (.int .i64 k), .lit (.string bs)] := by
        have := congrArg Prod.fst hx
        simpa using this
      obtain ⟨b0, hb0, hf0⟩ := Lib.mapM_at hm 0 _ rfl
      obtain ⟨b1, hb1, hf1⟩ := Lib.mapM_at hm 1 _ rfl
      have e0 : (xs.map (·.1))[0]? = some b0.1 := by simp [hb0]
      have e1 : (xs.map (·.1))[1]? = some b1.1 := by simp [hb1]
      rw [hxs] at e0 e1
      simp at e0 e1
      obtain ⟨x, y, rfl⟩ : ∃ x y, cs = [x, y] := by
        match cs, hl with
        | [x, y], _ => exact ⟨x, y, rfl⟩
      obtain ⟨c0, p0⟩ := b0
      obtain ⟨c1, p1⟩ := b1
      simp only at e0 e1
      subst e0 e1
      rw [cells3] at hf0
      rw [cells9] at hf1
      obtain ⟨n, hn, hn2, -⟩ := DataW.trod_int Tryd.underlying3 hf0
      obtain ⟨s, hs, hs2, -⟩ := DataW.trod_string Tryd.underlying9 hf1
      have hx0 : x = .int .i64 n := by simpa using hn
      have hy0 : y = .string s := by simpa using hs
      have hk : k = n := by have := congrArg Prod.fst hn2; simpa using this
      have hb : bs = s.data.toList := by have := congrArg Prod.fst hs2; simpa using this
      exact ⟨s, by rw [hx0, hy0, hk], hb.symm⟩
    · cases h
theorem rows_are {H : Type} {enc : TypeId × Value → H} {w : World} {base : Nat} {sp : Nat → Bool} {held : Bool} {fuel : Nat} {t : TypeId} {n : Nat} {cs : List Value} {rows : List (DataW H)} {p : List MemPlace} (ht : Tryd.prog.underlying t = some (.array n 78))
    (h : DataW.trod enc Tryd.prog w base sp held fuel t cs = some (.agg rows, p)) (i : Nat) (hi : i < n) (k : Int) (bs : List Int) (hr : rows[i]? = some (.agg [.lit (.int .i64 k), .lit (.string (Lib.bytesOf bs))])) : cs[i * 2]? = some (.int .i64 k) ∧ cs[i * 2 + 1]? = some (.string (strOfNums bs)) := by
  cases fuel with
  | zero => simp [DataW.trod] at h
  | succ fuel =>
    simp only [DataW.trod, ht, cells78] at h
    split at h
    · rename_i hl
      obtain ⟨xs, hm, hx⟩ := Option.map_eq_some_iff.1 h
      have hxs : xs.map (·.1) = rows := by
        have := congrArg Prod.fst hx
        simpa using this
      obtain ⟨b, hb, hf⟩ := Lib.mapM_at hm i i (by simp [hi])
      have h2 : (xs.map (·.1))[i]? = some b.1 := by simp [hb]
      rw [hxs, hr] at h2
      obtain ⟨b1, b2⟩ := b
      simp only [Option.some.injEq] at h2
      subst h2
      obtain ⟨s, hs, hsb⟩ := row_is hf
      have e0 := congrArg (·[0]?) hs
      have e1 := congrArg (·[1]?) hs
      simp only [List.getElem?_take, List.getElem?_drop] at e0 e1
      rw [← str_eq hsb]
      exact ⟨by simpa using e0, by simpa using e1⟩
    · cases h
theorem gLeast : Tryd.prog.globalNamed "triglyph/runes.leasts" = some 0 := by kernel_rfl
theorem gMore : Tryd.prog.globalNamed "triglyph/alex.ofMore" = some 1 := by kernel_rfl
theorem gOne : Tryd.prog.globalNamed "triglyph/alex.ofOne" = some 2 := by kernel_rfl
theorem gRange : Tryd.prog.globalNamed "strconv.ErrRange" = some 4 := by kernel_rfl
theorem tLeast : (Tryd.prog.globals[0]?).map (·.type) = some 76 := by kernel_rfl
theorem tMore : (Tryd.prog.globals[1]?).map (·.type) = some 79 := by kernel_rfl
theorem tOne : (Tryd.prog.globals[2]?).map (·.type) = some 80 := by kernel_rfl
theorem tRange : (Tryd.prog.globals[4]?).map (·.type) = some 70 := by kernel_rfl
theorem gBruijn : Tryd.prog.globalNamed "math/bits.deBruijn64tab" = some 8 := by kernel_rfl
theorem var_lt {W : World} {n : String} {g : Nat} {cs : Array Value} (hg : Tryd.prog.globalNamed n = some g) (h : W.var? Tryd.prog n = some cs) : g < W.heap.size := by
  unfold World.var? at h
  simp only [hg, Option.bind_some] at h
  rcases Nat.lt_or_ge g W.heap.size with h' | h'
  · exact h'
  · simp [Array.getElem?_eq_none h'] at h
theorem iface_is {H : Type} {enc : TypeId × Value → H} {w : World} {base : Nat} {sp : Nat → Bool} {fuel : Nat} {cs : List Value} {nm : String} {d : DataW H} {p : List MemPlace}
    (h : DataW.trod enc Tryd.prog w base sp false fuel 70 cs = some (.iface nm d, p)) : ∃ u v, cs = [.iface u v] := by
  cases fuel with
  | zero => simp [DataW.trod] at h
  | succ fuel =>
    simp only [DataW.trod, Tryd.underlying70] at h
    split at h <;> simp_all
theorem glb_of {W : World} (hsh : W.ShapedOpen Tryd.prog) (h : laidMetH Tryd.prog Rows.alexPlacesRow.laid W) : Glb W := by
  obtain ⟨ps, ⟨-, -, -, -, -, -, -, -, -, -, ⟨g2, t2, cs2, f2, p2, q2, hg2, ht2, hv2, hd2, ⟨-, -, -, -, -, -, -, -, -, -, ⟨g4, t4, cs4, f4, p4, q4, hg4, ht4, hv4, hd4, ⟨-, -, -, -, -, -, -, -, -, -, ⟨g6, t6, cs6, f6, p6, q6, hg6, ht6, hv6, hd6, ⟨g7, t7, cs7, f7, p7, q7, hg7, ht7, hv7, hd7, ⟨g8, t8, cs8, f8, p8, q8, hg8, ht8, hv8, hd8, -, -⟩, -⟩, -⟩, -⟩, -⟩, -⟩, -⟩, -⟩, -⟩ := h
  obtain rfl := Option.some.inj (gRange.symm.trans hg4)
  obtain rfl := Option.some.inj (gLeast.symm.trans hg6)
  obtain rfl := Option.some.inj (gOne.symm.trans hg7)
  obtain rfl := Option.some.inj (gMore.symm.trans hg8)
  obtain rfl := Option.some.inj (tRange.symm.trans ht4)
  obtain rfl := Option.some.inj (tLeast.symm.trans ht6)
  obtain rfl := Option.some.inj (tOne.symm.trans ht7)
  obtain rfl := Option.some.inj (tMore.symm.trans ht8)
  have hc6 := Lib.cells_of_tab (zs := [0, 128, 2048, 65536]) Tryd.underlying76 Tryd.underlying2 cells2' cells76 hd6
  have r8 := fun i hi k bs hr => rows_are (n := 2) Tryd.underlying79 hd8 i hi k bs hr
  have r7 := fun i hi k bs hr => rows_are (n := 5) Tryd.underlying80 hd7 i hi k bs hr
  have c1 : ∀ j v, cs8.toList[j]? = some v → W.cell? ⟨1, j, none⟩ = some v := fun j v hj => by
    have := World.var?_cell gMore hv8 j
    rw [this]
    simpa using hj
  have c2 : ∀ j v, cs7.toList[j]? = some v → W.cell? ⟨2, j, none⟩ = some v := fun j v hj => by
    have := World.var?_cell gOne hv7 j
    rw [this]
    simpa using hj
  have c0 : ∀ j v, cs6.toList[j]? = some v → W.cell? ⟨0, j, none⟩ = some v := fun j v hj => by
    have := World.var?_cell gLeast hv6 j
    rw [this]
    simpa using hj
  have h9 : 8 < W.heap.size := var_lt gBruijn hv2
  refine ⟨h9, ⟨by omega, fun k hk => ?_⟩, ?_, Tryd.laysM144.s1_3 W hsh, ?_, ?_, ?_⟩
  · refine c0 k _ ?_
    rw [hc6]
    rcases (by omega : k = 0 ∨ k = 1 ∨ k = 2 ∨ k = 3) with rfl | rfl | rfl | rfl <;> rfl
  · obtain ⟨u, v, hc⟩ := iface_is hd4
    have := World.var?_cell gRange hv4 0
    refine ⟨u, v, ?_⟩
    rw [this]
    have h0 : cs4.toList[0]? = some (.iface u v) := by rw [hc]; rfl
    simpa using h0
  · obtain ⟨a, b⟩ := r8 0 (by omega) 3 ioL rfl
    exact ⟨c1 _ _ a, c1 _ _ b⟩
  · obtain ⟨a, b⟩ := r8 1 (by omega) 4 jotL rfl
    exact ⟨c1 _ _ a, c1 _ _ b⟩
  · intro i hi
    rcases (by omega : i = 0 ∨ i = 1 ∨ i = 2 ∨ i = 3 ∨ i = 4) with rfl | rfl | rfl | rfl | rfl
    · obtain ⟨a, b⟩ := r7 0 (by omega) 3 (rowsL[0]?.getD (0, [])).2 rfl
      exact ⟨c2 _ _ a, c2 _ _ b⟩
    · obtain ⟨a, b⟩ := r7 1 (by omega) 7 (rowsL[1]?.getD (0, [])).2 rfl
      exact ⟨c2 _ _ a, c2 _ _ b⟩
    · obtain ⟨a, b⟩ := r7 2 (by omega) 5 (rowsL[2]?.getD (0, [])).2 rfl
      exact ⟨c2 _ _ a, c2 _ _ b⟩
    · obtain ⟨a, b⟩ := r7 3 (by omega) 6 (rowsL[3]?.getD (0, [])).2 rfl
      exact ⟨c2 _ _ a, c2 _ _ b⟩
    · obtain ⟨a, b⟩ := r7 4 (by omega) 4 (rowsL[4]?.getD (0, [])).2 (by kernel_rfl)
      exact ⟨c2 _ _ a, c2 _ _ b⟩
theorem own : ownKnob Tryd.prog.godebug = none := by kernel_rfl
/-- A world for the witness: the settled one, each listed variable as its text lays it. -/
noncomputable def laidWorld (os : Os) : World := World.laidAll Tryd.prog os Rows.alexPlacesRow.laid
end Go.Proofs.YtblpapidgpmgfaaDoor
