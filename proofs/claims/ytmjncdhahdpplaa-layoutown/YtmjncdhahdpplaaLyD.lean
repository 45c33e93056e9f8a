/-
  The contract of layer 5's gather: the cells that the steps lead to, in the order of the places.
-/
import Derived.Test.YtmjncdhahdpplaaLyC
import Derived.Deep.LoopGhost
namespace Go.Proofs.Ytmjncdhahdpplaa
open Go.ChangeShapes Go.WideShapes Go.ChangeAt Go.RowKit
set_option linter.unusedVariables false
set_option maxRecDepth 100000
/-- Where a cell's box lies. -/
theorem cells_fn {n lo : Nat} {w : World} {cs : List Ce} {a2 : Option Addr} (hc : CellsIn n lo w cs a2) : ∃ (ab : Nat → Option Addr) (cb : Nat → Nat), 0 < cs.length → ∃ b off, a2 = some ⟨b, off, none⟩ ∧ lo ≤ b ∧ b < w.heap.size ∧ ∀ i, i < cs.length → w.cell? ⟨b, off + i * 3, none⟩ = some (.int .i64 (cAt cs i).1) ∧ w.cell? ⟨b, off + i * 3 + 1, none⟩ = some (.int .i64 (cAt cs i).2.1) ∧ w.cell? ⟨b, off + i * 3 + 2, none⟩ = some (.slice (ab i) (cAt cs i).2.2.length (cb i)) ∧
    CeIn (ArIn n lo w) lo w (cAt cs i) (.int .i64 (cAt cs i).1) (.int .i64 (cAt cs i).2.1) (.slice (ab i) (cAt cs i).2.2.length (cb i)) := by
  rcases hc with rfl | ⟨b, off, ha, hlo, hb, hc⟩
  · exact ⟨fun _ => none, fun _ => 0, fun h => absurd h (by simp)⟩
  · have : ∀ i, ∃ (p : Option Addr × Nat), i < cs.length → w.cell? ⟨b, off + i * 3, none⟩ = some (.int .i64 (cAt cs i).1) ∧ w.cell? ⟨b, off + i * 3 + 1, none⟩ = some (.int .i64 (cAt cs i).2.1) ∧ w.cell? ⟨b, off + i * 3 + 2, none⟩ = some (.slice p.1 (cAt cs i).2.2.length p.2) ∧
        CeIn (ArIn n lo w) lo w (cAt cs i) (.int .i64 (cAt cs i).1) (.int .i64 (cAt cs i).2.1) (.slice p.1 (cAt cs i).2.2.length p.2) := by
      intro i
      by_cases hi : i < cs.length
      · obtain ⟨v0, v1, v2, e0, e1, e2, e3⟩ := hc i hi
        have e4 := e3
        obtain ⟨rfl, rfl, a, cap, rfl, -⟩ := e4
        exact ⟨(a, cap), fun _ => ⟨e0, e1, e2, e3⟩⟩
      · exact ⟨(none, 0), fun h => absurd h hi⟩
    obtain ⟨f, hf⟩ := Classical.axiomOfChoice this
    exact ⟨fun i => (f i).1, fun i => (f i).2, fun _ => ⟨b, off, ha, hlo, hb, fun i hi => hf i hi⟩⟩
/-- A row of cells that is filled as far as j. -/
def gF (T : Nat → Value × Value × Value) (j m : Nat) : Value := if m < j * 3 then (if m % 3 = 0 then (T (m / 3)).1 else if m % 3 = 1 then (T (m / 3)).2.1 else (T (m / 3)).2.2) else zero3 m
theorem gF_zero (T : Nat → Value × Value × Value) (m : Nat) : gF T 0 m = zero3 m := by simp [gF]
theorem gF_step (T : Nat → Value × Value × Value) (j m : Nat) : gF T (j + 1) m = if m = j * 3 + 2 then (T j).2.2 else if m = j * 3 + 1 then (T j).2.1 else if m = j * 3 then (T j).1 else gF T j m := by
  unfold gF
  by_cases h2 : m = j * 3 + 2
  · rw [if_pos h2, if_pos (by omega), if_neg (by omega), if_neg (by omega)]
    have : m / 3 = j := by omega
    rw [this]
  · rw [if_neg h2]
    by_cases h1 : m = j * 3 + 1
    · rw [if_pos h1, if_pos (by omega), if_neg (by omega), if_pos (by omega)]
      have : m / 3 = j := by omega
      rw [this]
    · rw [if_neg h1]
      by_cases h0 : m = j * 3
      · rw [if_pos h0, if_pos (by omega), if_pos (by omega)]
        have : m / 3 = j := by omega
        rw [this]
      · rw [if_neg h0]
        by_cases h : m < j * 3
        · rw [if_pos h, if_pos (by omega)]
        · rw [if_neg h, if_neg (by omega)]
theorem gF_at (T : Nat → Value × Value × Value) (j i : Nat) (hi : i < j) : gF T j (i * 3) = (T i).1 ∧ gF T j (i * 3 + 1) = (T i).2.1 ∧ gF T j (i * 3 + 2) = (T i).2.2 := by
  unfold gF
  have e0 : i * 3 / 3 = i := by omega
  have e1 : (i * 3 + 1) / 3 = i := by omega
  have e2 : (i * 3 + 2) / 3 = i := by omega
  refine ⟨?_, ?_, ?_⟩
  · rw [if_pos (by omega), if_pos (by omega), e0]
  · rw [if_pos (by omega), if_neg (by omega), if_pos (by omega), e1]
  · rw [if_pos (by omega), if_neg (by omega), if_neg (by omega), e2]
/-- The cells that steps lead to. -/
def gathL (l : List Int) (cs : List Ce) (st : Int) (S : List Int) : List Ce := mkCs cs.length fun i => cAt cs (st + dot S (digits l i)).toNat
/-- What a gather needs, where there is a cell. -/
def Leads (l : List Int) (CA : Nat) (st : Int) (S : List Int) : Prop := 0 < CA → (∀ z ∈ l, 0 < z) ∧ prodL l = CA ∧ (∀ k, k < l.length → -16384 ≤ gI S k ∧ gI S k ≤ 16384) ∧ ∀ A, inAxes l A → 0 ≤ st + dot S A ∧ st + dot S A < CA
theorem four_allocs (w : World) (o1 o2 o3 o4 : Obj) : Below w.heap.size w ((((w.alloc o1).alloc o2).alloc o3).alloc o4) := (((one_alloc w o1).alloc (by simp) o2).alloc (by simp; omega) o3).alloc (by simp; omega) o4
theorem size_four (w : World) (o1 o2 o3 o4 : Obj) : ((((w.alloc o1).alloc o2).alloc o3).alloc o4).heap.size = w.heap.size + 4 := by simp
theorem heap_four (w : World) (o1 o2 o3 o4 : Obj) : ((((w.alloc o1).alloc o2).alloc o3).alloc o4).heap[w.heap.size]? = some o1 ∧ ((((w.alloc o1).alloc o2).alloc o3).alloc o4).heap[w.heap.size + 1]? = some o2 ∧ ((((w.alloc o1).alloc o2).alloc o3).alloc o4).heap[w.heap.size + 2]? = some o3 ∧ ((((w.alloc o1).alloc o2).alloc o3).alloc o4).heap[w.heap.size + 3]? = some o4 := by
  have hh : ((((w.alloc o1).alloc o2).alloc o3).alloc o4).heap = (((w.heap.push o1).push o2).push o3).push o4 := rfl
  rw [hh]
  have z1 : (w.heap.push o1).size = w.heap.size + 1 := by simp
  have z2 : ((w.heap.push o1).push o2).size = w.heap.size + 2 := by simp
  have z3 : (((w.heap.push o1).push o2).push o3).size = w.heap.size + 3 := by simp
  refine ⟨?_, ?_, ?_, ?_⟩
  · rw [Array.getElem?_push, z3, if_neg (by omega), Array.getElem?_push, z2, if_neg (by omega), Array.getElem?_push, z1, if_neg (by omega), Array.getElem?_push, if_pos rfl]
  · rw [Array.getElem?_push, z3, if_neg (by omega), Array.getElem?_push, z2, if_neg (by omega), Array.getElem?_push, z1, if_pos rfl]
  · rw [Array.getElem?_push, z3, if_neg (by omega), Array.getElem?_push, z2, if_pos rfl]
  · rw [Array.getElem?_push, z3, if_pos rfl]
theorem cell_of_heap {w : World} {b i : Nat} {cs : Array Value} {t : TypeId} {f : Nat × Nat} {v : Value} (h : w.heap[b]? = some (.cells cs t f)) (hi : cs[i]? = some v) : w.cell? ⟨b, i, none⟩ = some v := by
  unfold World.cell?
  simp only [h, hi]
  rfl
theorem frozen_of_heap {w : World} {b i : Nat} {cs : Array Value} {t : TypeId} (h : w.heap[b]? = some (.cells cs t)) : w.frozen? ⟨b, i, none⟩ = false := by
  unfold World.frozen?
  simp [h]
end Go.Proofs.Ytmjncdhahdpplaa
