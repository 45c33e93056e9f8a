/-
  The contracts of layer 3's Atom, Nums and Text: numbers and signs as arrays, in memory of their own; the numbers not more than a machine holds.
-/
import Derived.Test.YtljanfmmhglpiaaDoorOwnL
import Derived.Test.YtljanfmmhglpiaaDoorOwnM
import Derived.Test.YtljanfmmhglpiaaDoorRows
import Derived.WalkKit
import Derived.ProofKit
import Derived.Below
import Derived.Deep.OwnRows
import Derived.Deep.QuietTactic
import Derived.BigQuiet
import Derived.Deep.RegionWith
import Derived.Laws.MakeOwn
namespace Go.Proofs.YtljanfmmhglpiaaDoor
open Go.ChangeShapes Go.WideShapes Go.ChangeAt Go.RowKit
set_option maxRecDepth 100000
set_option linter.unusedVariables false
theorem info33 : (Tryd.prog.info? 42).map (fun i => (i.zero, i.size, i.bytes)) = some (some (.agg #[.int .i64 0, .int .i64 0, .slice none 0 0]), 3, 40) := by kernel_rfl
theorem make_cells (n : Nat) (h : n ≤ 5864062014805) (w : World) : (Instr.makeSlice 31 (.int .i64 (n : Int)) (.int .i64 (n : Int))).run Tryd.prog w = .ok (.slice (some ⟨w.heap.size, 0, none⟩) n n) (w.alloc (.cells (madeCells #[.int .i64 0, .int .i64 0, .slice none 0 0] (n * 3)) 42)) := by
  obtain ⟨i, hi, hzz⟩ := Option.map_eq_some_iff.1 info33
  simp only [Prod.mk.injEq] at hzz
  obtain ⟨hz, hs, hb⟩ := hzz
  have hr := run_make (P := Tryd.prog) w 31 42 i _ Tryd.underlying31 hi hz .i64 .i64 n n (by omega) (Int.le_refl _) (by rw [hb]; omega) (by omega)
  simp only [Int.toNat_natCast, hs] at hr
  exact hr
/-- What a row of new cells holds. -/
def zero3 (m : Nat) : Value := if m % 3 = 0 then .int .i64 0 else if m % 3 = 1 then .int .i64 0 else .slice none 0 0
theorem rowIs_made3 (w : World) (n : Nat) : (w.alloc (.cells (madeCells #[.int .i64 0, .int .i64 0, .slice none 0 0] n) 42)).rowIs w.heap.size 42 n zero3 := by
  refine ⟨madeCells #[.int .i64 0, .int .i64 0, .slice none 0 0] n, ?_, size_madeCells _ _, fun i hi => ?_⟩
  · show (w.heap.push _)[w.heap.size]? = _
    simp
  · simp only [madeCells, Array.getElem?_map, zero3]
    rw [Array.getElem?_range, if_pos hi]
    simp only [Option.map_some]
    have h3 : i % 3 < 3 := Nat.mod_lt _ (by omega)
    rcases (show i % 3 = 0 ∨ i % 3 = 1 ∨ i % 3 = 2 by omega) with h | h | h <;> simp [h]
/-- A row of cells of memory, as an array's cells. -/
def CellsIn (n lo : Nat) (w : World) (cs : List Ce) (a2 : Option Addr) : Prop :=
  cs = [] ∨ ∃ b off, a2 = some ⟨b, off, none⟩ ∧ lo ≤ b ∧ b < w.heap.size ∧
    ∀ i, i < cs.length → ∃ v0 v1 v2, w.cell? ⟨b, off + i * 3, none⟩ = some v0 ∧ w.cell? ⟨b, off + i * 3 + 1, none⟩ = some v1 ∧ w.cell? ⟨b, off + i * 3 + 2, none⟩ = some v2 ∧ CeIn (ArIn n lo w) lo w (cAt cs i) v0 v1 v2
theorem arIn_mk {n lo : Nat} {w : World} {x : Ar} {a1 a2 : Option Addr} {c1 c2 k1 k2 : Nat} (R : Row lo w a1 x.shape) (hl : x.cells.length ≤ 5864062014805) (hc : CellsIn n lo w x.cells a2) (e1 : x.shape.length = k1) (e2 : x.cells.length = k2) : ArIn (n + 1) lo w x (.agg #[.slice a1 k1 c1, .slice a2 k2 c2]) := by
  subst e1
  subst e2
  exact ⟨a1, c1, a2, c2, rfl, R, hl, hc⟩
def numCs (k : Int) (l : List Int) : List Ce := l.map fun z => (k, z, [])
theorem numCs_len (k : Int) (l : List Int) : (numCs k l).length = l.length := by simp [numCs]
theorem numCs_at (k : Int) (l : List Int) (i : Nat) (hi : i < l.length) : cAt (numCs k l) i = (k, l[i]?.getD 0, []) := by simp [cAt, numCs, hi]
/-- What the row of numbers as cells holds, up to number j. -/
def numF (k : Int) (l : List Int) (j m : Nat) : Value := if m < j * 3 then (if m % 3 = 0 then .int .i64 k else if m % 3 = 1 then .int .i64 (l[m / 3]?.getD 0) else .slice none 0 0) else zero3 m
theorem cellsIn_num {n lo : Nat} {w : World} {b : Nat} (k : Int) (l : List Int) (h : w.rowIs b 42 (l.length * 3) (numF k l l.length)) (hlo : lo ≤ b) : CellsIn n lo w (numCs k l) (some ⟨b, 0, none⟩) := by
  refine Or.inr ⟨b, 0, rfl, hlo, h.lt, ?_⟩
  intro i hi
  rw [numCs_len] at hi
  rw [numCs_at k l i hi]
  have h0 := h.cell (i := i * 3) (by omega)
  have h1 := h.cell (i := i * 3 + 1) (by omega)
  have h2 := h.cell (i := i * 3 + 2) (by omega)
  have f0 : numF k l l.length (i * 3) = .int .i64 k := by
    unfold numF; rw [if_pos (by omega), if_pos (by omega)]
  have f1 : numF k l l.length (i * 3 + 1) = .int .i64 (l[i]?.getD 0) := by
    unfold numF; rw [if_pos (by omega), if_neg (by omega), if_pos (by omega), show (i * 3 + 1) / 3 = i by omega]
  have f2 : numF k l l.length (i * 3 + 2) = .slice none 0 0 := by
    unfold numF; rw [if_pos (by omega), if_neg (by omega), if_neg (by omega)]
  rw [f0] at h0
  rw [f1] at h1
  rw [f2] at h2
  rw [Nat.zero_add]
  exact ⟨_, _, _, h0, h1, h2, rfl, rfl, none, 0, rfl, by simp, Or.inl rfl⟩
theorem numF_step (k : Int) (l : List Int) (j m : Nat) : numF k l (j + 1) m = if m = j * 3 + 2 then .slice none 0 0 else if m = j * 3 + 1 then .int .i64 (l[j]?.getD 0) else if m = j * 3 then .int .i64 k else numF k l j m := by
  unfold numF
  by_cases h2 : m = j * 3 + 2
  · subst h2; rw [if_pos (by omega), if_neg (by omega), if_neg (by omega), if_pos rfl]
  · rw [if_neg h2]
    by_cases h1 : m = j * 3 + 1
    · subst h1; rw [if_pos (by omega), if_neg (by omega), if_pos (by omega), if_pos rfl, show (j * 3 + 1) / 3 = j by omega]
    · rw [if_neg h1]
      by_cases h0 : m = j * 3
      · subst h0; rw [if_pos (by omega), if_pos (by omega), if_pos rfl]
      · rw [if_neg h0]
        by_cases h : m < j * 3
        · rw [if_pos h, if_pos (by omega)]
        · rw [if_neg h, if_neg (by omega)]
set_option maxHeartbeats 1000000 in
theorem cells_any {lo : Nat} (n : Nat) (k : Int) (l : List Int) (a : Option Addr) (cap : Nat) (w : World) (R : Row lo w a l) (hl : l.length ≤ 5864062014805) :
    Calls Tryd.prog 44 #[.int .i64 k, .slice a l.length cap] w fun e w' => (∃ a2, e = .returned (.slice a2 l.length l.length) ∧ CellsIn n w.heap.size w' (numCs k l) a2) ∧ Below w.heap.size w w' := by
  have hrow := @row_at _ _ _ _ R
  have mk := make_cells l.length hl
  have RM := hide (rowIs_made3 w (l.length * 3))
  have BM := hide (one_alloc w (.cells (madeCells #[.int .i64 0, .int .i64 0, .slice none 0 0] (l.length * 3)) 42))
  clear R
  go_enter Tryd.func44, Tryd.ntmps44
  go_wp2
  clear mk
  go_loopw [13] (fun i wr => ∃ j : Nat, j ≤ l.length ∧ i = .int .i64 (j : Int) ∧ Below w.heap.size w wr ∧ wr.rowIs w.heap.size 42 (l.length * 3) (numF k l j)) (fun i _ => l.length - (intOf i).toNat)
  case atStart =>
    refine ⟨0, Nat.zero_le _, rfl, BM.out, World.rowIs.congr RM.out ?_⟩
    intro i hi
    simp [numF]
  case round =>
    clear BM RM
    obtain ⟨j, hj, rfl, hnx, hr⟩ := hrel
    by_cases hlt : j < l.length
    · obtain ⟨b, off, ha, hb, hck⟩ := hrow hlt
      subst ha
      have hc1 : wr.cell? ⟨b, off + j, none⟩ = some (.int .i64 (l[j]?.getD 0)) := (hnx.cell (p := ⟨b, off + j, none⟩) hb).trans hck
      have z0 := hr.cell (i := j * 3) (by omega)
      have z1 := hr.cell (i := j * 3 + 1) (by omega)
      have z2 := hr.cell (i := j * 3 + 2) (by omega)
      have y0 := hr.frozen (j * 3)
      have y1 := hr.frozen (j * 3 + 1)
      have y2 := hr.frozen (j * 3 + 2)
      have HS := hide ((((hr.set (j * 3) (.int .i64 k)).set (j * 3 + 1) (.int .i64 (l[j]?.getD 0))).set (j * 3 + 2) (.slice none 0 0)).congr (g := numF k l (j + 1)) (fun i _ => (numF_step k l j i).symm))
      have HB := hide (((hnx.setCell (p := ⟨w.heap.size, j * 3, none⟩) (Nat.le_refl _) (.int .i64 k)).setCell (p := ⟨w.heap.size, j * 3 + 1, none⟩) (Nat.le_refl _) (.int .i64 (l[j]?.getD 0))).setCell (p := ⟨w.heap.size, j * 3 + 2, none⟩) (Nat.le_refl _) (.slice none 0 0))
      generalize l[j]?.getD 0 = z at *
      clear hr hrow hck
      go_wp2
      go_roundw
      case rel => exact ⟨j + 1, by omega, by go_num, HB.out, HS.out⟩
      case measure => simp [intOf]; omega
    · have hje : j = l.length := by omega
      subst hje
      have F := hide (cellsIn_num (n := n) k l hr (Nat.le_refl _))
      clear hr hrow
      go_wp2
      go_ret
      exact ⟨⟨_, rfl, F.out⟩, hnx⟩
/-- A call that hands back an array in memory of its own. -/
def GivesA (n : Nat) (x : Ar) (w : World) (e : Ending) (w' : World) : Prop := (∃ v, e = .returned v ∧ ArIn n w.heap.size w' x v) ∧ Below w.heap.size w w'
def numsA (l : List Int) : Ar := .mk [(l.length : Int)] (numCs 0 l)
def atomA (z : Int) : Ar := .mk [] (numCs 0 [z])
def textA (l : List Int) : Ar := if l.length = 1 then .mk [] (numCs 1 l) else .mk [(l.length : Int)] (numCs 1 l)
theorem row_one {lo : Nat} {w : World} {b : Nat} {z : Int} (hb : b < w.heap.size) (hlo : lo ≤ b) (h : w.cell? ⟨b, 0, none⟩ = some (.int .i64 z)) : Row lo w (some ⟨b, 0, none⟩) [z] := by
  refine ⟨by simp, Or.inr ⟨b, 0, rfl, hlo, hb, ?_⟩⟩
  intro i hi
  have : i = 0 := by simpa using hi
  subst this
  simpa using h
theorem CeIn.low {P Q : Ar → Value → Prop} {lo lo' : Nat} {w : World} {c : Ce} {v0 v1 v2 : Value} (h : CeIn P lo w c v0 v1 v2) (hl : lo' ≤ lo) (hPQ : ∀ x v, P x v → Q x v) : CeIn Q lo' w c v0 v1 v2 := h.mono hl (Below.refl _ _) hPQ
theorem CellsIn.mono {n lo lo' : Nat} {w w' : World} {cs : List Ce} {a2 : Option Addr} (h : CellsIn n lo w cs a2) (hl : lo' ≤ lo) (hb : Below w.heap.size w w') : CellsIn n lo' w' cs a2 := by
  rcases h with hc | ⟨b, off, ha, hlo, hbb, hc⟩
  · exact Or.inl hc
  · refine Or.inr ⟨b, off, ha, Nat.le_trans hl hlo, Nat.lt_of_lt_of_le hbb hb.size, fun i hi => ?_⟩
    obtain ⟨v0, v1, v2, e0, e1, e2, e3⟩ := hc i hi
    exact ⟨v0, v1, v2, (hb.cell (p := ⟨b, off + i * 3, none⟩) hbb).trans e0, (hb.cell (p := ⟨b, off + i * 3 + 1, none⟩) hbb).trans e1, (hb.cell (p := ⟨b, off + i * 3 + 2, none⟩) hbb).trans e2, e3.mono hl hb fun x v h => h.mono hl hb⟩
/-- From block lo on all is as it was. -/
def Keeps (lo : Nat) (w w' : World) : Prop := w.heap.size ≤ w'.heap.size ∧ ∀ b, lo ≤ b → b < w.heap.size → w'.heap[b]? = w.heap[b]?
theorem Keeps.refl (lo : Nat) (w : World) : Keeps lo w w := ⟨Nat.le_refl _, fun _ _ _ => rfl⟩
theorem Keeps.setCell {lo : Nat} {w w' : World} (h : Keeps lo w w') {p : Addr} (hp : p.block < lo) (v : Value) : Keeps lo w (w'.setCell p v) := by
  refine ⟨?_, fun b h1 h2 => ?_⟩
  · have : (w'.setCell p v).heap.size = w'.heap.size := by simp
    rw [this]; exact h.1
  · rw [Below.heap_setCell w' p v b (by omega)]
    exact h.2 b h1 h2
theorem Keeps.cell {lo : Nat} {w w' : World} (h : Keeps lo w w') {p : Addr} (h1 : lo ≤ p.block) (h2 : p.block < w.heap.size) : w'.cell? p = w.cell? p := World.cell?_of_block (w := w) (h.2 p.block h1 h2)
theorem Row.keeps {lo : Nat} {w w' : World} {a : Option Addr} {zs : List Int} (h : Row lo w a zs) (hk : Keeps lo w w') : Row lo w' a zs := by
  obtain ⟨h2, h3⟩ := h
  refine ⟨h2, ?_⟩
  rcases h3 with h3 | ⟨b, off, ha, hlo, hbb, hc⟩
  · exact Or.inl h3
  · exact Or.inr ⟨b, off, ha, hlo, Nat.lt_of_lt_of_le hbb hk.1, fun i hi => (hk.cell (p := ⟨b, off + i, none⟩) hlo hbb).trans (hc i hi)⟩
theorem CeIn.keeps {P Q : Ar → Value → Prop} {lo : Nat} {w w' : World} {c : Ce} {v0 v1 v2 : Value} (h : CeIn P lo w c v0 v1 v2) (hk : Keeps lo w w') (hPQ : ∀ x v, P x v → Q x v) : CeIn Q lo w' c v0 v1 v2 := by
  obtain ⟨h0, h1, a, cap, h2, h3, h4⟩ := h
  refine ⟨h0, h1, a, cap, h2, h3, ?_⟩
  rcases h4 with h4 | ⟨b, off, ha, hlo, hbb, hc⟩
  · exact Or.inl h4
  · refine Or.inr ⟨b, off, ha, hlo, Nat.lt_of_lt_of_le hbb hk.1, fun j hj => ?_⟩
    obtain ⟨u0, u1, e0, e1, e2⟩ := hc j hj
    exact ⟨u0, u1, (hk.cell (p := ⟨b, off + j * 2, none⟩) hlo hbb).trans e0, (hk.cell (p := ⟨b, off + j * 2 + 1, none⟩) hlo hbb).trans e1, hPQ _ _ e2⟩
theorem ArIn.keeps {n lo : Nat} {w w' : World} {x : Ar} {v : Value} (h : ArIn n lo w x v) (hk : Keeps lo w w') : ArIn n lo w' x v := by
  induction n generalizing x v with
  | zero => exact h.elim
  | succ n ih =>
    obtain ⟨a1, c1, a2, c2, hv, hR, hlen, hc⟩ := h
    refine ⟨a1, c1, a2, c2, hv, hR.keeps hk, hlen, ?_⟩
    rcases hc with hc | ⟨b, off, ha, hlo, hbb, hc⟩
    · exact Or.inl hc
    · refine Or.inr ⟨b, off, ha, hlo, Nat.lt_of_lt_of_le hbb hk.1, fun i hi => ?_⟩
      obtain ⟨v0, v1, v2, e0, e1, e2, e3⟩ := hc i hi
      exact ⟨v0, v1, v2, (hk.cell (p := ⟨b, off + i * 3, none⟩) hlo hbb).trans e0, (hk.cell (p := ⟨b, off + i * 3 + 1, none⟩) hlo hbb).trans e1, (hk.cell (p := ⟨b, off + i * 3 + 2, none⟩) hlo hbb).trans e2, e3.keeps hk fun x v h => ih h⟩
theorem CellsIn.keeps {n lo : Nat} {w w' : World} {cs : List Ce} {a2 : Option Addr} (h : CellsIn n lo w cs a2) (hk : Keeps lo w w') : CellsIn n lo w' cs a2 := by
  rcases h with hc | ⟨b, off, ha, hlo, hbb, hc⟩
  · exact Or.inl hc
  · refine Or.inr ⟨b, off, ha, hlo, Nat.lt_of_lt_of_le hbb hk.1, fun i hi => ?_⟩
    obtain ⟨v0, v1, v2, e0, e1, e2, e3⟩ := hc i hi
    exact ⟨v0, v1, v2, (hk.cell (p := ⟨b, off + i * 3, none⟩) hlo hbb).trans e0, (hk.cell (p := ⟨b, off + i * 3 + 1, none⟩) hlo hbb).trans e1, (hk.cell (p := ⟨b, off + i * 3 + 2, none⟩) hlo hbb).trans e2, e3.keeps hk fun x v h => h.keeps hk⟩
theorem frozen_new (w : World) (cs : Array Value) (t : TypeId) (i : Nat) : (w.alloc (.cells cs t)).frozen? ⟨w.heap.size, i, none⟩ = false := by
  have : (w.alloc (.cells cs t)).heap[w.heap.size]? = some (.cells cs t) := by
    show (w.heap.push _)[w.heap.size]? = _
    simp
  unfold World.frozen?
  simp only [this]
  simp
/-- Two cells of memory, stored into: they hold what was stored. -/
theorem set_two {w : World} {s : Nat} {u v : Value} (h0 : w.cell? ⟨s, 0, none⟩ = some u) (h1 : w.cell? ⟨s, 1, none⟩ = some v) (x y : Value) : (w.setCell ⟨s, 0, none⟩ x).cell? ⟨s, 0, none⟩ = some x ∧ ((w.setCell ⟨s, 0, none⟩ x).setCell ⟨s, 1, none⟩ y).cell? ⟨s, 1, none⟩ = some y := by
  refine ⟨World.cell?_setCell_same' _ _ _ (by rw [h0]; rfl), World.cell?_setCell_same' _ _ _ ?_⟩
  rw [World.cell?_setCell_other _ _ _ _ (by simp), h1]
  rfl
set_option maxHeartbeats 1000000 in
theorem nums_any {lo : Nat} (n : Nat) (l : List Int) (a : Option Addr) (cap : Nat) (w : World) (R : Row lo w a l) (hl : l.length ≤ 5864062014805) :
    Calls Tryd.prog 34 #[.slice a l.length cap] w fun e w' => GivesA (n + 1) (numsA l) w e w' := by
  have B1 : Below w.heap.size w ((w.alloc (.cells #[.slice none 0 0, .slice none 0 0] 33)).alloc (.cells #[.int .i64 (l.length : Int)] 3)) := two_allocs _ _ _
  have C := cells_any n 0 l a cap _ (R.next B1) hl
  have HB1 := hide B1
  have c0 := cell_new2 w #[.int .i64 (l.length : Int)] 3 (0, 0) (.cells #[.slice none 0 0, .slice none 0 0] 33) 0 _ rfl
  have HC0 := hide c0
  have c1 := cell_new1 w #[.slice none 0 0, .slice none 0 0] 33 (0, 0) (.cells #[.int .i64 (l.length : Int)] 3) 0 _ rfl
  have c2 := cell_new1 w #[.slice none 0 0, .slice none 0 0] 33 (0, 0) (.cells #[.int .i64 (l.length : Int)] 3) 1 _ rfl
  have f1 : ∀ i, ((w.alloc (.cells #[.slice none 0 0, .slice none 0 0] 33)).alloc (.cells #[.int .i64 (l.length : Int)] 3)).frozen? ⟨w.heap.size, i, none⟩ = false := fun i =>
    (((Below.refl _ _).alloc (Nat.le_refl _) _).frozen (p := ⟨w.heap.size, i, none⟩) (by simp)).trans (frozen_new w _ 33 i)
  have HC1 := hide (And.intro c1 (And.intro c2 f1))
  clear B1 c0 R c1 c2 f1
  go_enter Tryd.func34, Tryd.ntmps34
  go_wp2_with fail
  refine C.mono ?_
  rintro e w1 ⟨⟨a2, rfl, hcs⟩, hb1⟩
  have sz := hb1.size
  rw [size_two] at sz
  have d1 := (hb1.cell (p := ⟨w.heap.size, 0, none⟩) (by rw [size_two]; show w.heap.size < _; omega)).trans HC1.out.1
  have d2 := (hb1.cell (p := ⟨w.heap.size, 1, none⟩) (by rw [size_two]; show w.heap.size < _; omega)).trans HC1.out.2.1
  have d3 : w1.frozen? ⟨w.heap.size, 0, none⟩ = false := (hb1.frozen (p := ⟨w.heap.size, 0, none⟩) (by rw [size_two]; show w.heap.size < _; omega)).trans (HC1.out.2.2 0)
  have d4 : w1.frozen? ⟨w.heap.size, 1, none⟩ = false := (hb1.frozen (p := ⟨w.heap.size, 1, none⟩) (by rw [size_two]; show w.heap.size < _; omega)).trans (HC1.out.2.2 1)
  have d5 := (hb1.cell (p := ⟨w.heap.size + 1, 0, none⟩) (by rw [size_two]; show w.heap.size + 1 < _; omega)).trans HC0.out
  have HB2 : Hid (Below w.heap.size w w1) := HB1.out.trans (hb1.mono (by rw [size_two]; omega))
  have HF : Hid (∀ x y, ArIn (n + 1) w.heap.size ((w1.setCell ⟨w.heap.size, 0, none⟩ x).setCell ⟨w.heap.size, 1, none⟩ y) (numsA l) (.agg #[.slice (some ⟨w.heap.size + 1, 0, none⟩) 1 1, .slice a2 l.length l.length])) := by
    intro x y
    have hk : Keeps (w.heap.size + 1) w1 ((w1.setCell ⟨w.heap.size, 0, none⟩ x).setCell ⟨w.heap.size, 1, none⟩ y) := ((Keeps.refl _ _).setCell (p := ⟨w.heap.size, 0, none⟩) (by show w.heap.size < _; omega) x).setCell (p := ⟨w.heap.size, 1, none⟩) (by show w.heap.size < _; omega) y
    refine arIn_mk (x := numsA l) ?_ (by simpa [numsA, Ar.cells, numCs_len] using hl) ?_ rfl (numCs_len 0 l)
    · exact ((row_one (lo := w.heap.size + 1) (b := w.heap.size + 1) (by omega) (Nat.le_refl _) d5).keeps hk).low (by omega)
    · rw [size_two] at hcs
      exact ((hcs.mono (lo' := w.heap.size + 1) (by omega) (Below.refl _ _)).keeps hk).mono (by omega) (Below.refl _ _)
  have t := set_two d1 d2 (.slice (some ⟨w.heap.size + 1, 0, none⟩) 1 1) (.slice a2 l.length l.length)
  have HT := hide t
  clear C hcs HC0 HC1 HB1 hb1 d5 sz t
  go_wp2
  exact bodyPost_ret (v := .agg #[.slice (some ⟨w.heap.size + 1, 0, none⟩) 1 1, .slice a2 l.length l.length]) (by simp [results, Tryd.results34, go_sem, HT.out.1, HT.out.2]) rfl ⟨⟨_, rfl, HF.out _ _⟩, (HB2.out.setCell (p := ⟨w.heap.size, 0, none⟩) (Nat.le_refl _) _).setCell (p := ⟨w.heap.size, 1, none⟩) (Nat.le_refl _) _⟩
end Go.Proofs.YtljanfmmhglpiaaDoor
