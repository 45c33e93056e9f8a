/-
  Rows that append has put together, in a field of a variable: numbers, cells. No program's function is named.
  The contracts of the document's Tally, back and Numbers of layer 5.
  Parts of slices as letters, append of whatever row behind a row of the call's own, rows that append has put together and that may be written. The contracts of the document's Item, count and boxes.
  The contracts of the library's Clone of a row of numbers and of layer 6's reshaped, listed, numberOf and filling.
  copy of elements of several cells into a row that is known whole, as a step; and the mathematics of places along an axis. No program's function is named.
-/
import Derived.Test.YtmjncdhahdpplaaM4
import Derived.BigFrame
import Derived.Laws.OwnMore
import Derived.Deep.RegionLaw
import Derived.Lib.SliceRun
import Derived.Laws.CopyOwn
namespace Go.Proofs.Ytmjncdhahdpplaa
open Go.ChangeShapes Go.WideShapes Go.ChangeAt Go.RowKit
set_option linter.unusedVariables false
set_option maxRecDepth 100000
theorem owns_below {e : TypeId} {size n base : Nat} {w w1 : World} {v : Value} {xs : List Value} (h : w.ownsRow base e size v n xs) (hb : Below w.heap.size w w1) : w1.ownsRow base e size v n xs := by
  obtain ⟨h1, h2⟩ := h
  refine ⟨h1, ?_⟩
  rcases h2 with ⟨rfl, h2⟩ | ⟨g, cap, cur, rfl, hbg, hg, hn, hm, hs, ht⟩
  · exact Or.inl ⟨rfl, h2⟩
  · exact Or.inr ⟨g, cap, cur, rfl, hbg, (hb.block g (lt_of_block hg)).trans hg, hn, hm, hs, ht⟩
/-- A row of numbers that append has put together. -/
theorem owns_row {w : World} {base : Nat} {v : Value} (l : List Int) (hl : l.length ≤ 140737488355328) (h : w.ownsRow base 3 1 v l.length (l.map (Value.int .i64))) : ∃ a cap, v = .slice a l.length cap ∧ Row base w a l := by
  have h' := h
  obtain ⟨h1, h2⟩ := h'
  rcases h2 with ⟨rfl, h2⟩ | ⟨g, cap, cur, rfl, hb, hg, -⟩
  · have e : l = [] := List.eq_nil_of_length_eq_zero h2
    subst e
    exact ⟨none, 0, rfl, row_nil _ _ _⟩
  · refine ⟨_, cap, rfl, hl, Or.inr ⟨g, 0, rfl, hb, lt_of_block hg, fun i hi => ?_⟩⟩
    rw [Nat.zero_add, h.cellAt i (by omega)]
    simp [hi]
/-- Cells, one behind the other, as they lie in a row. -/
def rowT (T : Nat → Value × Value × Value) (j : Nat) : List Value := (List.range j).flatMap fun i => [(T i).1, (T i).2.1, (T i).2.2]
theorem rowT_step (T : Nat → Value × Value × Value) (j : Nat) : rowT T (j + 1) = rowT T j ++ [(T j).1, (T j).2.1, (T j).2.2] := by
  simp [rowT, List.range_succ]
theorem rowT_len (T : Nat → Value × Value × Value) (j : Nat) : (rowT T j).length = j * 3 := by
  induction j with
  | zero => rfl
  | succ j ih => rw [rowT_step, List.length_append, ih]; simp; omega
theorem rowT_at (T : Nat → Value × Value × Value) (m i : Nat) (hi : i < m) : (rowT T m)[i * 3]? = some (T i).1 ∧ (rowT T m)[i * 3 + 1]? = some (T i).2.1 ∧ (rowT T m)[i * 3 + 2]? = some (T i).2.2 := by
  induction m with
  | zero => omega
  | succ m ih =>
    rw [rowT_step]
    have hl := rowT_len T m
    rcases Nat.lt_succ_iff_lt_or_eq.1 hi with h | rfl
    · rw [List.getElem?_append_left (by omega), List.getElem?_append_left (by omega), List.getElem?_append_left (by omega)]
      exact ih h
    · rw [List.getElem?_append_right (by omega), List.getElem?_append_right (by omega), List.getElem?_append_right (by omega), hl]
      simp
theorem owns_cellsT {w : World} {base m : Nat} {v : Value} (T : Nat → Value × Value × Value) (h : w.ownsRow base 36 3 v m (rowT T m)) :
    ∃ a2 cap, v = .slice a2 m cap ∧ (m = 0 ∨ ∃ g, a2 = some ⟨g, 0, none⟩ ∧ base ≤ g ∧ g < w.heap.size ∧ ∀ i, i < m → w.cell? ⟨g, i * 3, none⟩ = some (T i).1 ∧ w.cell? ⟨g, i * 3 + 1, none⟩ = some (T i).2.1 ∧ w.cell? ⟨g, i * 3 + 2, none⟩ = some (T i).2.2) := by
  have h' := h
  obtain ⟨h1, h2⟩ := h'
  rcases h2 with ⟨rfl, rfl⟩ | ⟨g, cap, cur, rfl, hb, hg, -⟩
  · exact ⟨none, 0, rfl, Or.inl rfl⟩
  · refine ⟨_, cap, rfl, Or.inr ⟨g, rfl, hb, lt_of_block hg, fun i hi => ?_⟩⟩
    obtain ⟨e0, e1, e2⟩ := rowT_at T m i hi
    exact ⟨(h.cellAt _ (by omega)).trans e0, (h.cellAt _ (by omega)).trans e1, (h.cellAt _ (by omega)).trans e2⟩
/-- A loop that appends numbers to the first field of the variable in block o. -/
structure GrowI (W : World) (o : Nat) (l : List Int) (j : Nat) (v : Value) (wr : World) : Prop where
  io : Below 0 W wr
  keep : ∀ b, b < W.heap.size → b ≠ o → wr.heap[b]? = W.heap[b]?
  c0 : wr.cell? ⟨o, 0, none⟩ = some v
  c1 : wr.cell? ⟨o, 1, none⟩ = some (.slice none 0 0)
  f0 : wr.frozen? ⟨o, 0, none⟩ = false
  f1 : wr.frozen? ⟨o, 1, none⟩ = false
  own : wr.ownsRow W.heap.size 3 1 v j ((l.take j).map (Value.int .i64))
theorem GrowI.step {W : World} {o : Nat} {l : List Int} {j : Nat} {v v' : Value} {wr w1 : World} (ho : o < W.heap.size) (h : GrowI W o l j v wr) (hb : Below W.heap.size wr w1) (hown : w1.ownsRow W.heap.size 3 1 v' (j + 1) ((l.take (j + 1)).map (Value.int .i64))) : GrowI W o l (j + 1) v' (w1.setCell ⟨o, 0, none⟩ v') := by
  have e0 : w1.cell? ⟨o, 0, none⟩ = some v := (hb.cell (p := ⟨o, 0, none⟩) ho).trans h.c0
  have e1 : w1.cell? ⟨o, 1, none⟩ = some (.slice none 0 0) := (hb.cell (p := ⟨o, 1, none⟩) ho).trans h.c1
  refine ⟨(h.io.trans (hb.mono (Nat.zero_le _))).setCell (p := ⟨o, 0, none⟩) (Nat.zero_le _) _, fun b hb1 hne => ?_, ?_, ?_, ?_, ?_, ownsRow_setCell_below hown (a := ⟨o, 0, none⟩) ho _⟩
  · rw [Below.heap_setCell _ _ _ _ (by show b ≠ o; exact hne), hb.block b hb1]
    exact h.keep b hb1 hne
  · exact World.cell?_setCell_same' _ _ _ (by rw [e0]; rfl)
  · rw [World.cell?_setCell_other _ _ _ _ (by simp)]; exact e1
  · exact frozen_set _ _ _ _ ((hb.frozen (p := ⟨o, 0, none⟩) ho).trans h.f0)
  · exact frozen_set _ _ _ _ ((hb.frozen (p := ⟨o, 1, none⟩) ho).trans h.f1)
theorem GrowI.cell {W : World} {o : Nat} {l : List Int} {j : Nat} {v : Value} {wr : World} (h : GrowI W o l j v wr) {b i : Nat} {u : Value} (hb : b < W.heap.size) (hne : b ≠ o) (hc : W.cell? ⟨b, i, none⟩ = some u) : wr.cell? ⟨b, i, none⟩ = some u := by
  rw [World.cell?_of_block (w := W) (h.keep b hb hne)]; exact hc
theorem GrowI.frozen {W : World} {o : Nat} {l : List Int} {j : Nat} {v : Value} {wr : World} (h : GrowI W o l j v wr) {b i : Nat} (hb : b < W.heap.size) (hne : b ≠ o) (hc : W.frozen? ⟨b, i, none⟩ = false) : wr.frozen? ⟨b, i, none⟩ = false := by
  rw [World.frozen?_of_block (w := W) (h.keep b hb hne)]; exact hc
theorem GrowI.below {W : World} {o B : Nat} {l : List Int} {j : Nat} {v : Value} {wr : World} (h : GrowI W o l j v wr) (h1 : B ≤ o) (h2 : o < W.heap.size) : Below B W wr := ⟨h.io.os, h.io.tape, h.io.output, h.io.size, fun k hk => h.keep k (by omega) (by omega)⟩
/-- The same of cells, in the second field. -/
structure GrowC (W : World) (o : Nat) (sv : Value) (T : Nat → Value × Value × Value) (j : Nat) (v : Value) (wr : World) : Prop where
  io : Below 0 W wr
  keep : ∀ b, b < W.heap.size → b ≠ o → wr.heap[b]? = W.heap[b]?
  c0 : wr.cell? ⟨o, 0, none⟩ = some sv
  c1 : wr.cell? ⟨o, 1, none⟩ = some v
  f1 : wr.frozen? ⟨o, 1, none⟩ = false
  own : wr.ownsRow W.heap.size 36 3 v j (rowT T j)
theorem GrowC.step {W : World} {o : Nat} {sv : Value} {T : Nat → Value × Value × Value} {j : Nat} {v v' : Value} {wr w1 : World} (ho : o < W.heap.size) (h : GrowC W o sv T j v wr) (hb : Below W.heap.size wr w1) (hown : w1.ownsRow W.heap.size 36 3 v' (j + 1) (rowT T (j + 1))) : GrowC W o sv T (j + 1) v' (w1.setCell ⟨o, 1, none⟩ v') := by
  have e0 : w1.cell? ⟨o, 0, none⟩ = some sv := (hb.cell (p := ⟨o, 0, none⟩) ho).trans h.c0
  have e1 : w1.cell? ⟨o, 1, none⟩ = some v := (hb.cell (p := ⟨o, 1, none⟩) ho).trans h.c1
  refine ⟨(h.io.trans (hb.mono (Nat.zero_le _))).setCell (p := ⟨o, 1, none⟩) (Nat.zero_le _) _, fun b hb1 hne => ?_, ?_, ?_, ?_, ownsRow_setCell_below hown (a := ⟨o, 1, none⟩) ho _⟩
  · rw [Below.heap_setCell _ _ _ _ (by show b ≠ o; exact hne), hb.block b hb1]
    exact h.keep b hb1 hne
  · rw [World.cell?_setCell_other _ _ _ _ (by simp)]; exact e0
  · exact World.cell?_setCell_same' _ _ _ (by rw [e1]; rfl)
  · exact frozen_set _ _ _ _ ((hb.frozen (p := ⟨o, 1, none⟩) ho).trans h.f1)
theorem GrowC.cell {W : World} {o : Nat} {sv : Value} {T : Nat → Value × Value × Value} {j : Nat} {v : Value} {wr : World} (h : GrowC W o sv T j v wr) {b i : Nat} {u : Value} (hb : b < W.heap.size) (hne : b ≠ o) (hc : W.cell? ⟨b, i, none⟩ = some u) : wr.cell? ⟨b, i, none⟩ = some u := by
  rw [World.cell?_of_block (w := W) (h.keep b hb hne)]; exact hc
theorem GrowC.frozen {W : World} {o : Nat} {sv : Value} {T : Nat → Value × Value × Value} {j : Nat} {v : Value} {wr : World} (h : GrowC W o sv T j v wr) {b i : Nat} (hb : b < W.heap.size) (hne : b ≠ o) (hc : W.frozen? ⟨b, i, none⟩ = false) : wr.frozen? ⟨b, i, none⟩ = false := by
  rw [World.frozen?_of_block (w := W) (h.keep b hb hne)]; exact hc
theorem GrowC.below {W : World} {o B : Nat} {sv : Value} {T : Nat → Value × Value × Value} {j : Nat} {v : Value} {wr : World} (h : GrowC W o sv T j v wr) (h1 : B ≤ o) (h2 : o < W.heap.size) : Below B W wr := ⟨h.io.os, h.io.tape, h.io.output, h.io.size, fun k hk => h.keep k (by omega) (by omega)⟩
theorem take_map_step (l : List Int) (j : Nat) (hj : j < l.length) : (l.take (j + 1)).map (Value.int .i64) = (l.take j).map (Value.int .i64) ++ [.int .i64 (gI l j)] := by
  rw [List.take_succ_eq_append_getElem hj, List.map_append]
  simp [gI, hj]
end Go.Proofs.Ytmjncdhahdpplaa
namespace Go.Proofs.Ytmjncdhahdpplaa
open Go.ChangeShapes Go.WideShapes Go.ChangeAt Go.RowKit
set_option linter.unusedVariables false
set_option maxRecDepth 100000
theorem wpList_append_B {P : Program} {w : World} {ops : Array Oper} {rest : List Oper} {o : Oper} {a : Act} {Q : Exit → Act → World → Prop} (hgd : o.guard = none) (s x : Operand) (t : TypeId)
    (ho : o.op = .call { callee := .builtin .append, args := #[s, x], argTypes := #[t, t] })
    (base : Nat) (e : TypeId) (i : TypeInfo) (z : Value) (size bytes : Nat) (ht : P.underlying t = some (.slice e)) (hi : P.info? e = some i) (hz : i.zero = some z)
    (hsize : i.size = size) (hby : i.bytes = bytes) (hzs : z.cells.size = size) (hsz : 0 < size)
    (v : Value) (n : Nat) (xs : List Value) (hs : a.eval s = v) (hown : w.ownsRow base e size v n xs)
    (ad : Addr) (m c : Nat) (news : List Value) (hx : a.eval x = .slice (some ad) m c) (hl : news.length = m * size) (hnews : ∀ j u, news[j]? = some u → w.cell? (ad.add j) = some u) (h1 : ∀ u ∈ news, u.oneCell' = true)
    (h63 : n + m ≤ maxLen) (hbytes : (n + m) * bytes ≤ 140737488355328) (hbase : base ≤ w.heap.size)
    (h : ∀ v' w', w'.ownsRow base e size v' (n + m) (xs ++ news) → Below base w w' → wpList P ops Q rest (a.put o.dst v') w') : wpList P ops Q (o :: rest) a w :=
  wpList_append_own w hgd s x t ho base e i z size bytes ht hi hz hsize hby hzs hsz v n xs hs hown ad m c news hx hl hnews h1 h63 hbytes hbase fun v' w' h2 h3 _ => h v' w' h2 ((Below.refl _ _).grown h3 hbase (fun q hq => (hown.lt q hq).1))
theorem rtally_any {n lo : Nat} {x : Ar} {va : Value} {w : World} (hx : ArIn (n + 1) lo w x va) : Calls Try.prog 40 #[va] w fun e w' => e = .returned (.int .i64 (tallyN x)) ∧ Below w.heap.size w w' := by
  obtain ⟨a1, c1, a2, c2, rfl, R, -⟩ := hx.form
  have hb0 := one_alloc w (.cells #[.slice a1 x.shape.length c1, .slice a2 x.cells.length c2] 25)
  have q0 := cell_new0 w #[.slice a1 x.shape.length c1, .slice a2 x.cells.length c2] 25 0 _ rfl
  have hl := R.1
  by_cases h0 : x.shape.length = 0
  · have HT : Hid (tallyN x = 1) := by unfold tallyN Hid; rw [if_pos h0]
    have HB := hide hb0
    rw [h0] at q0 ⊢
    clear R hb0 h0
    generalize x.cells.length = CA at *
    go_enter Try.func40, Try.ntmps40
    go_wp2
    go_ret
    exact ⟨by rw [HT.out]; rfl, (one_alloc _ _)⟩
  · obtain ⟨b, off, rfl, hb, hc⟩ := row_at R (j := 0) (by omega)
    have HT : Hid (tallyN x = gI x.shape 0) := by unfold tallyN Hid; rw [if_neg h0]
    have hc1 := (hb0.cell (p := ⟨b, off + 0, none⟩) hb).trans hc
    simp only [Nat.add_zero] at hc1
    have e : x.shape[0]?.getD 0 = gI x.shape 0 := rfl
    rw [e] at hc1
    generalize gI x.shape 0 = z at *
    clear R hb0 hc e
    generalize x.shape.length = SA at *
    generalize x.cells.length = CA at *
    go_enter Try.func40, Try.ntmps40
    go_wp2
    go_ret
    exact ⟨by rw [HT.out]; rfl, (one_alloc _ _)⟩
theorem owns_form1' {w : World} {base n : Nat} {e : TypeId} {v : Value} {xs : List Value} (h : w.ownsRow base e 1 v n xs) (hn : 0 < n) : ∃ g cap, v = .slice (some ⟨g, 0, none⟩) n cap ∧ base ≤ g ∧ g < w.heap.size := by
  rcases h.2 with ⟨rfl, h0⟩ | ⟨g, cap, cur, rfl, hb, hg, -⟩
  · omega
  · exact ⟨g, cap, rfl, hb, lt_of_block hg⟩
/-- A row of numbers, of whatever kind, that append has put together. -/
theorem owns_rowE {w : World} {base : Nat} {e : TypeId} {v : Value} (l : List Int) (hl : l.length ≤ 140737488355328) (h : w.ownsRow base e 1 v l.length (l.map (Value.int .i64))) : ∃ a cap, v = .slice a l.length cap ∧ Row base w a l := by
  have h' := h
  obtain ⟨h1, h2⟩ := h'
  rcases h2 with ⟨rfl, h2⟩ | ⟨g, cap, cur, rfl, hb, hg, -⟩
  · have e : l = [] := List.eq_nil_of_length_eq_zero h2
    subst e
    exact ⟨none, 0, rfl, row_nil _ _ _⟩
  · refine ⟨_, cap, rfl, hl, Or.inr ⟨g, 0, rfl, hb, lt_of_block hg, fun i hi => ?_⟩⟩
    rw [Nat.zero_add, h.cellAt i (by omega)]
    simp [hi]
theorem info2' : ∃ i, Try.prog.info? 2 = some i ∧ i.zero = some (.int .i64 0) ∧ i.size = 1 ∧ i.bytes = 8 := by
  obtain ⟨i, hi, hzz⟩ := Option.map_eq_some_iff.1 int2
  simp only [Prod.mk.injEq] at hzz
  exact ⟨i, hi, hzz.1, hzz.2.1, hzz.2.2⟩
theorem rev_take_step (l : List Int) (k : Nat) (hk : k < l.length) : l.reverse.take (k + 1) = l.reverse.take k ++ [gI l (l.length - 1 - k)] := by
  have hk' : k < l.reverse.length := by simpa using hk
  rw [List.take_succ_eq_append_getElem hk']
  congr 1
  have := gI_rev l k hk
  unfold gI at this
  rw [List.getElem?_eq_getElem hk'] at this
  simpa [gI] using this
set_option maxHeartbeats 2000000 in
theorem rback_any {lo : Nat} (l : List Int) (a : Option Addr) (cap : Nat) (w : World) (R : Row lo w a l) (hl : l.length ≤ 8) :
    Calls Try.prog 42 #[.slice a l.length cap] w fun e w' => (∃ a' cap', e = .returned (.slice a' l.length cap') ∧ Row w.heap.size w' a' l.reverse) ∧ Below w.heap.size w w' := by
  have HR : Hid (∀ j, j < l.length → ∃ b off, a = some ⟨b, off, none⟩ ∧ b < w.heap.size ∧ w.cell? ⟨b, off + j, none⟩ = some (.int .i64 (gI l j))) := fun j h => row_at R h
  obtain ⟨i3, hi3, hz30, hz31, hz32⟩ := infoI3
  clear R
  go_enter Try.func42, Try.ntmps42
  go_wp2
  go_loopg [3, 4] l.length (fun g mv i wr => ∃ k : Nat, g + k = l.length ∧ i = .int .i64 ((l.length : Int) - 1 - k) ∧ Below w.heap.size w wr ∧ wr.ownsRow w.heap.size 3 1 mv k ((l.reverse.take k).map (Value.int .i64)))
  case atStart => exact ⟨0, rfl, by go_num, Below.refl _ _, World.ownsRow_nil _ _ _ _⟩
  case round =>
    obtain ⟨k, hg, rfl, hnx, hown⟩ := hrel
    by_cases hlt : k < l.length
    · obtain ⟨b, off, rfl, hb, hck⟩ := HR.out (l.length - 1 - k) (by omega)
      obtain ⟨p, hp⟩ : ∃ p, l.length - 1 - k = p := ⟨_, rfl⟩
      have ep : (l.length : Int) - 1 - k = (p : Int) := by omega
      rw [ep]
      rw [hp] at hck
      have hpl : p < l.length := by omega
      have hc1 : wr.cell? ⟨b, off + p, none⟩ = some (.int .i64 (gI l p)) := (hnx.cell (p := ⟨b, off + p, none⟩) hb).trans hck
      have HST : Hid ((l.reverse.take (k + 1)).map (Value.int .i64) = (l.reverse.take k).map (Value.int .i64) ++ [.int .i64 (gI l p)]) := by unfold Hid; rw [rev_take_step l k hlt, hp, List.map_append]; rfl
      generalize gI l p = z at *
      have HEP : Hid ((l.length : Int) - 1 - k = (p : Int)) := ep
      have OWN := hown.alloc (.cells #[.int .i64 z] 3)
      have HNW : Hid (∀ i u, [Value.int .i64 z][i]? = some u → (wr.alloc (.cells #[.int .i64 z] 3)).cell? ((⟨wr.heap.size, 0, none⟩ : Addr).add i) = some u) := by
        intro i u hu
        rw [add_off, Nat.zero_add]
        exact cell_new0 wr _ 3 i u (by simpa using hu)
      have HZ : Hid (w.heap.size ≤ (wr.alloc (.cells #[.int .i64 z] 3)).heap.size) := Nat.le_trans hnx.size (one_alloc _ _).size
      have HNX := hide (hnx.trans ((one_alloc wr (.cells #[.int .i64 z] 3)).mono hnx.size))
      clear hown hck hp ep HR
      go_wp2_with (at_builtin; refine wpList_append_B rfl _ _ 22 rfl w.heap.size 3 i3 (.int .i64 0) 1 8 Try.underlying22 hi3 hz30 hz31 hz32 rfl (by decide) _ _ _ rfl OWN ⟨wr.heap.size, 0, none⟩ 1 1 [.int .i64 z] rfl rfl HNW.out ?c2 ?c3 ?c4 HZ.out ?_)
      case c2 =>
        intro u hu
        simp at hu
        subst hu
        rfl
      case c3 => unfold maxLen; omega
      case c4 => omega
      intro v' w1 hown1 hb1
      have hown2 : w1.ownsRow w.heap.size 3 1 v' (k + 1) ((l.reverse.take (k + 1)).map (Value.int .i64)) := by rw [HST.out]; simpa using hown1
      have HF := hide (And.intro (HNX.out.trans hb1) hown2)
      clear hown1 hown2 hb1 OWN HNW HZ HNX HST hc1
      go_wp2
      go_roundg (l.length - (k + 1))
      case rel => exact ⟨k + 1, by omega, by have := HEP.out; go_num, HF.out⟩
      case measure => omega
    · have hke : k = l.length := by omega
      subst hke
      have hlr : l.length = l.reverse.length := by simp
      rw [List.take_of_length_le (by simp), hlr] at hown
      obtain ⟨a', cap', rfl, RR⟩ := owns_rowE l.reverse (by rw [List.length_reverse]; omega) hown
      rw [← hlr] at *
      have HF := hide (And.intro RR hnx)
      clear hown RR hnx HR hlr
      go_wp2
      go_ret
      exact ⟨⟨a', cap', rfl, HF.out.1⟩, HF.out.2⟩
set_option maxHeartbeats 2000000 in
theorem rnumbers_any {lo : Nat} (n : Nat) (l : List Int) (a : Option Addr) (cap : Nat) (w : World) (R : Row lo w a l) (hl : l.length ≤ 8) :
    Calls Try.prog 39 #[.slice a l.length cap] w fun e w' => GivesA (n + 1) (numsA l) w e w' := by
  have HR : Hid (∀ j, j < l.length → ∃ b off, a = some ⟨b, off, none⟩ ∧ b < w.heap.size ∧ w.cell? ⟨b, off + j, none⟩ = some (.int .i64 (gI l j))) := fun j h => row_at R h
  obtain ⟨i2, hi2, hz20, hz21, hz22⟩ := info2'
  obtain ⟨W1, e1⟩ : ∃ W1, w.alloc (.cells #[.slice none 0 0, .slice none 0 0] 25) = W1 := ⟨_, rfl⟩
  have s1 : W1.heap.size = w.heap.size + 1 := by rw [← e1]; simp
  have B1 : Below w.heap.size w W1 := by rw [← e1]; exact one_alloc _ _
  have p0 : W1.cell? ⟨w.heap.size, 0, none⟩ = some (.slice none 0 0) := by rw [← e1]; exact cell_new0 w _ 25 0 _ rfl
  have p1 : W1.cell? ⟨w.heap.size, 1, none⟩ = some (.slice none 0 0) := by rw [← e1]; exact cell_new0 w _ 25 1 _ rfl
  have pf : ∀ i, W1.frozen? ⟨w.heap.size, i, none⟩ = false := by intro i; rw [← e1]; exact frozen_new w _ 25 i
  have HP := hide (And.intro s1 (And.intro B1 (And.intro p0 (And.intro p1 pf))))
  clear R s1 B1 p0 p1 pf
  go_enter Try.func39, Try.ntmps39
  go_wp2
  clear e1
  go_loopg [3, 4] l.length (fun g mv i wr => ∃ k : Nat, g + k = l.length ∧ i = .int .i64 (k : Int) ∧ Below W1.heap.size W1 wr ∧ wr.ownsRow W1.heap.size 2 1 mv k ((l.take k).map (Value.int .i64)))
  case atStart => exact ⟨0, rfl, rfl, Below.refl _ _, World.ownsRow_nil _ _ _ _⟩
  case round =>
    obtain ⟨k, hg, rfl, hnx, hown⟩ := hrel
    have hs1 := HP.out.1
    by_cases hlt : k < l.length
    · obtain ⟨b, off, rfl, hb, hck⟩ := HR.out k hlt
      have hc1 : wr.cell? ⟨b, off + k, none⟩ = some (.int .i64 (gI l k)) := (hnx.cell (p := ⟨b, off + k, none⟩) (by show b < _; omega)).trans ((HP.out.2.1.cell (p := ⟨b, off + k, none⟩) hb).trans hck)
      have HST := hide (take_map_step l k hlt)
      generalize gI l k = z at *
      have OWN := hown.alloc (.cells #[.int .i64 z] 2)
      have HNW : Hid (∀ i u, [Value.int .i64 z][i]? = some u → (wr.alloc (.cells #[.int .i64 z] 2)).cell? ((⟨wr.heap.size, 0, none⟩ : Addr).add i) = some u) := by
        intro i u hu
        rw [add_off, Nat.zero_add]
        exact cell_new0 wr _ 2 i u (by simpa using hu)
      have HZ : Hid (W1.heap.size ≤ (wr.alloc (.cells #[.int .i64 z] 2)).heap.size) := Nat.le_trans hnx.size (one_alloc _ _).size
      have HNX := hide (hnx.trans ((one_alloc wr (.cells #[.int .i64 z] 2)).mono hnx.size))
      clear hown hck HR hs1
      go_wp2_with (at_builtin; refine wpList_append_B rfl _ _ 47 rfl W1.heap.size 2 i2 (.int .i64 0) 1 8 Try.underlying47 hi2 hz20 hz21 hz22 rfl (by decide) _ _ _ rfl OWN ⟨wr.heap.size, 0, none⟩ 1 1 [.int .i64 z] rfl rfl HNW.out ?c2 ?c3 ?c4 HZ.out ?_)
      case c2 =>
        intro u hu
        simp at hu
        subst hu
        rfl
      case c3 => unfold maxLen; omega
      case c4 => omega
      intro v' w1 hown1 hb1
      have hown2 : w1.ownsRow W1.heap.size 2 1 v' (k + 1) ((l.take (k + 1)).map (Value.int .i64)) := by rw [HST.out]; simpa using hown1
      have HF := hide (And.intro (HNX.out.trans hb1) hown2)
      clear hown1 hown2 hb1 OWN HNW HZ HNX HST hc1
      go_wp2
      go_roundg (l.length - (k + 1))
      case rel => exact ⟨k + 1, by omega, by go_num, HF.out⟩
      case measure => omega
    · have hke : k = l.length := by omega
      subst hke
      rw [List.take_length] at hown
      obtain ⟨a', cap', rfl, RR⟩ := owns_rowE l (by omega) hown
      have C := rnums_any n l a' cap' wr RR (by omega)
      have hlt2 : w.heap.size + 1 ≤ wr.heap.size := by have := hnx.size; omega
      have HN := hide hnx
      clear hown hnx HR hs1 RR
      go_wp2_with fail
      refine C.mono ?_
      rintro e w1 ⟨⟨v, rfl, hv⟩, hb1⟩
      obtain ⟨a1, c1, a2, c2, rfl, -, -⟩ := hv.form
      have hs1 := HP.out.1
      have hnx := HN.out.trans (hb1.mono HN.out.size)
      have t0 := (hnx.cell (p := ⟨w.heap.size, 0, none⟩) (by show w.heap.size < _; omega)).trans HP.out.2.2.1
      have t1 := (hnx.cell (p := ⟨w.heap.size, 1, none⟩) (by show w.heap.size < _; omega)).trans HP.out.2.2.2.1
      have f0 := (hnx.frozen (p := ⟨w.heap.size, 0, none⟩) (by show w.heap.size < _; omega)).trans (HP.out.2.2.2.2 0)
      have f1 := (hnx.frozen (p := ⟨w.heap.size, 1, none⟩) (by show w.heap.size < _; omega)).trans (HP.out.2.2.2.2 1)
      have HT := hide (set_two t0 t1 (.slice a1 (numsA l).shape.length c1) (.slice a2 (numsA l).cells.length c2))
      have HF : Hid (∀ x y, GivesA (n + 1) (numsA l) w (.returned (.agg #[.slice a1 (numsA l).shape.length c1, .slice a2 (numsA l).cells.length c2])) ((w1.setCell ⟨w.heap.size, 0, none⟩ x).setCell ⟨w.heap.size, 1, none⟩ y)) := by
        intro x y
        have hk : Keeps (w.heap.size + 1) w1 ((w1.setCell ⟨w.heap.size, 0, none⟩ x).setCell ⟨w.heap.size, 1, none⟩ y) := ((Keeps.refl _ _).setCell (p := ⟨w.heap.size, 0, none⟩) (by show w.heap.size < _; omega) x).setCell (p := ⟨w.heap.size, 1, none⟩) (by show w.heap.size < _; omega) y
        refine ⟨⟨_, rfl, ((hv.mono hlt2 (Below.refl _ _)).keeps hk).mono (by omega) (Below.refl _ _)⟩, ?_⟩
        exact ((HP.out.2.1.trans (hnx.mono (by omega))).setCell (p := ⟨w.heap.size, 0, none⟩) (Nat.le_refl _) _).setCell (p := ⟨w.heap.size, 1, none⟩) (Nat.le_refl _) _
      clear hnx hb1 hv C HN hlt2 HP hs1
      generalize (numsA l).shape.length = SA at *
      generalize (numsA l).cells.length = CA at *
      go_wp2
      exact bodyPost_ret (v := .agg #[.slice a1 SA c1, .slice a2 CA c2]) (by simp [results, Try.results39, go_sem, HT.out.1, HT.out.2]) rfl (HF.out _ _)
end Go.Proofs.Ytmjncdhahdpplaa
namespace Go.Proofs.Ytmjncdhahdpplaa
open Go.ChangeShapes Go.WideShapes Go.ChangeAt Go.RowKit
set_option linter.unusedVariables false
set_option maxRecDepth 100000
/-- Where a part of a slice begins. -/
def subA (a : Option Addr) (l c sz : Nat) : Option Addr := if c = l then a else a.map (·.add (l * sz))
theorem part_lh {P : Program} {t e : TypeId} {sz : Nat} (ht : P.underlying t = some (.slice e)) (hsz : (P.info? e).map (·.size) = some sz) (a : Option Addr) (n c l h : Nat) (kl kh : Int) (el : kl = (l : Int)) (eh : kh = (h : Int)) (h1 : l ≤ h) (h2 : h ≤ c) (W : World) :
    (Instr.sliceAt t (.slice a n c) (some (.int .i64 kl)) (some (.int .i64 kh)) none).run P W = .ok (.slice (subA a l c sz) (h - l) (c - l)) W := by
  subst el eh
  have he : P.elem t = e := by simp [Program.elem, ht]
  have ht' : P.underlying t = some (.slice (P.elem t)) := by rw [he]; exact ht
  obtain ⟨i, hi, hs⟩ := Option.map_eq_some_iff.1 hsz
  rw [run_sliceAt_slice W t _ _ _ _ ht', run_slice_lh W t a n c ht' .i64 .i64 l h (by omega) (by omega) (by omega), he]
  simp [sizeOf, typeInfo, hi, hs, sliced, subA]
theorem part_l {P : Program} {t e : TypeId} {sz : Nat} (ht : P.underlying t = some (.slice e)) (hsz : (P.info? e).map (·.size) = some sz) (a : Option Addr) (n c l : Nat) (kl : Int) (el : kl = (l : Int)) (h1 : l ≤ n) (W : World) :
    (Instr.sliceAt t (.slice a n c) (some (.int .i64 kl)) none none).run P W = .ok (.slice (subA a l c sz) (n - l) (c - l)) W := by
  subst el
  have he : P.elem t = e := by simp [Program.elem, ht]
  have ht' : P.underlying t = some (.slice (P.elem t)) := by rw [he]; exact ht
  obtain ⟨i, hi, hs⟩ := Option.map_eq_some_iff.1 hsz
  rw [run_sliceAt_slice W t _ _ _ _ ht', run_slice_l W t a n c ht' .i64 l (by omega) (by omega), he]
  simp [sizeOf, typeInfo, hi, hs, sliced, subA]
theorem part_h {P : Program} {t e : TypeId} {sz : Nat} (ht : P.underlying t = some (.slice e)) (hsz : (P.info? e).map (·.size) = some sz) (a : Option Addr) (n c h : Nat) (kh : Int) (eh : kh = (h : Int)) (h2 : h ≤ c) (W : World) :
    (Instr.sliceAt t (.slice a n c) none (some (.int .i64 kh)) none).run P W = .ok (.slice a h c) W := by
  subst eh
  have he : P.elem t = e := by simp [Program.elem, ht]
  have ht' : P.underlying t = some (.slice (P.elem t)) := by rw [he]; exact ht
  obtain ⟨i, hi, hs⟩ := Option.map_eq_some_iff.1 hsz
  rw [run_sliceAt_slice W t _ _ _ _ ht', run_slice_h W t a n c ht' .i64 h (by omega) (by omega), he]
  have : (if c = 0 then a else a.map (·.add 0)) = a := by
    split
    · rfl
    · cases a with
      | none => rfl
      | some p => cases p with | mk b o f => simp [Addr.add]
  simp [sizeOf, typeInfo, hi, hs, sliced, this]
/-- The part of a row of numbers. -/
theorem Row.part {lo : Nat} {w : World} {a : Option Addr} {zs : List Int} (R : Row lo w a zs) (l c m : Nat) (h1 : l + m ≤ zs.length) (h2 : zs.length ≤ c) : Row lo w (subA a l c 1) ((zs.drop l).take m) := by
  obtain ⟨r1, r2⟩ := R
  have hlen : ((zs.drop l).take m).length = m := by rw [List.length_take, List.length_drop]; omega
  refine ⟨by rw [hlen]; omega, ?_⟩
  by_cases hm : m = 0
  · left; exact List.eq_nil_of_length_eq_zero (by rw [hlen]; exact hm)
  · rcases r2 with rfl | ⟨b, off, rfl, hlo, hb, hc⟩
    · simp at h1; omega
    · refine Or.inr ⟨b, off + l, ?_, hlo, hb, fun i hi => ?_⟩
      · unfold subA; rw [if_neg (by omega)]; simp [Addr.add]
      · rw [hlen] at hi
        have := hc (l + i) (by omega)
        rw [show off + l + i = off + (l + i) by omega, this, List.getElem?_take_of_lt hi, List.getElem?_drop]
/-- The part of a row of cells. -/
theorem CellsIn.part {n lo : Nat} {w : World} {a : Option Addr} {cs : List Ce} (R : CellsIn n lo w cs a) (l c m : Nat) (h1 : l + m ≤ cs.length) (h2 : cs.length ≤ c) : CellsIn n lo w ((cs.drop l).take m) (subA a l c 3) := by
  have hlen : ((cs.drop l).take m).length = m := by rw [List.length_take, List.length_drop]; omega
  by_cases hm : m = 0
  · left; exact List.eq_nil_of_length_eq_zero (by rw [hlen]; exact hm)
  · rcases R with rfl | ⟨b, off, rfl, hlo, hb, hc⟩
    · simp at h1; omega
    · refine Or.inr ⟨b, off + l * 3, ?_, hlo, hb, fun i hi => ?_⟩
      · unfold subA; rw [if_neg (by omega)]; simp [Addr.add]
      · rw [hlen] at hi
        have := hc (l + i) (by omega)
        have e : cAt ((cs.drop l).take m) i = cAt cs (l + i) := by unfold cAt; rw [List.getElem?_take_of_lt hi, List.getElem?_drop]
        rw [e, show off + l * 3 + i * 3 = off + (l + i) * 3 by omega]
        exact this
theorem run_append_none_any {P : Program} {w : World} (base : Nat) (t ty e : TypeId) (i : TypeInfo) (size : Nat) (ht : P.underlying t = some (.slice e)) (hi : P.info? e = some i)
    (v : Value) (n c : Nat) (xs : List Value) (hown : w.ownsRow base e size v n xs) :
    (Builtin.append_ #[t, t] ty #[v, .slice none 0 c]).run P w = .ok v w := by
  rcases hown.2 with ⟨rfl, rfl⟩ | ⟨g, cap, cur, rfl, _, _, hnc, _⟩
  · simp [Builtin.append_, run_underlying ht, sizeOf, typeInfo, hi, Builtin.lenOf, Builtin.firstCells]
  · simp [Builtin.append_, run_underlying ht, sizeOf, typeInfo, hi, Builtin.lenOf, Builtin.firstCells, hnc, storeCells]
/-- Values that lie one behind the other from an address on, if there are any. -/
def Lies (w : World) (ad : Option Addr) (news : List Value) : Prop := (news = [] ∨ ∃ p, ad = some p ∧ p.block < w.heap.size ∧ ∀ j u, news[j]? = some u → w.cell? (p.add j) = some u) ∧ ∀ u ∈ news, u.oneCell' = true
theorem run_append_any {P : Program} {w : World} (base : Nat) (t ty e : TypeId) (i : TypeInfo) (z : Value) (size bytes : Nat) (ht : P.underlying t = some (.slice e)) (hi : P.info? e = some i) (hz : i.zero = some z)
    (hsize : i.size = size) (hby : i.bytes = bytes) (hzs : z.cells.size = size) (hsz : 0 < size)
    (v : Value) (n : Nat) (xs : List Value) (hown : w.ownsRow base e size v n xs)
    (ad : Option Addr) (m c : Nat) (news : List Value) (hl : news.length = m * size) (hnews : Lies w ad news)
    (h63 : n + m ≤ maxLen) (hbytes : (n + m) * bytes ≤ 140737488355328) (hbase : base ≤ w.heap.size) :
    ∃ v' w', (Builtin.append_ #[t, t] ty #[v, .slice ad m c]).run P w = .ok v' w' ∧ w'.ownsRow base e size v' (n + m) (xs ++ news) ∧ Below base w w' := by
  cases ad with
  | none =>
    have hn : news = [] := by
      rcases hnews.1 with h | ⟨p, hp, -⟩
      · exact h
      · cases hp
    subst hn
    have hm : m = 0 := by
      rcases Nat.eq_zero_or_pos m with h | h
      · exact h
      · have := Nat.mul_pos h hsz; simp at hl; omega
    subst hm
    exact ⟨v, w, run_append_none_any base t ty e i size ht hi v n c xs hown, by simpa using hown, Below.refl _ _⟩
  | some p =>
    have hc : ∀ j u, news[j]? = some u → w.cell? (p.add j) = some u := by
      rcases hnews.1 with h | ⟨q, hq, -, h⟩
      · subst h; intro j u hj; simp at hj
      · cases hq; exact h
    obtain ⟨v', w', hr, h2, h3, -⟩ := run_append_own (P := P) w base t ty e i z size bytes ht hi hz hsize hby hzs hsz v n xs hown p m c news hl hc hnews.2 h63 hbytes hbase
    exact ⟨v', w', hr, h2, (Below.refl _ _).grown h3 hbase (fun q hq => (hown.lt q hq).1)⟩
theorem wpList_append_any {P : Program} {w : World} {ops : Array Oper} {rest : List Oper} {o : Oper} {a : Act} {Q : Exit → Act → World → Prop} (hgd : o.guard = none) (s x : Operand) (t : TypeId)
    (ho : o.op = .call { callee := .builtin .append, args := #[s, x], argTypes := #[t, t] })
    (base : Nat) (e : TypeId) (i : TypeInfo) (z : Value) (size bytes : Nat) (ht : P.underlying t = some (.slice e)) (hi : P.info? e = some i) (hz : i.zero = some z)
    (hsize : i.size = size) (hby : i.bytes = bytes) (hzs : z.cells.size = size) (hsz : 0 < size)
    (v : Value) (n : Nat) (xs : List Value) (hs : a.eval s = v) (hown : w.ownsRow base e size v n xs)
    (ad : Option Addr) (m c : Nat) (news : List Value) (hx : a.eval x = .slice ad m c) (hl : news.length = m * size) (hnews : Lies w ad news)
    (h63 : n + m ≤ maxLen) (hbytes : (n + m) * bytes ≤ 140737488355328) (hbase : base ≤ w.heap.size)
    (h : ∀ v' w', w'.ownsRow base e size v' (n + m) (xs ++ news) → Below base w w' → wpList P ops Q rest (a.put o.dst v') w') : wpList P ops Q (o :: rest) a w := by
  obtain ⟨v', w', hr, h2, h3⟩ := run_append_any base t o.type e i z size bytes ht hi hz hsize hby hzs hsz v n xs hown ad m c news hl hnews h63 hbytes hbase
  exact wpList_append_run (by simp [Region.wanted, hgd]) s x t t ho _ _ hs hx v' w' hr (h v' w' h2 h3)
theorem step_append_any {P : Program} {w : World} {ops : Array Oper} {o : Oper} {a : Act} {K : Act → World → Prop} {Q : Exit → Act → World → Prop} {E : Prop} (hg : o.guard = none) (s x : Operand) (t : TypeId)
    (ho : o.op = .call { callee := .builtin .append, args := #[s, x], argTypes := #[t, t] })
    (base : Nat) (e : TypeId) (i : TypeInfo) (z : Value) (size bytes : Nat) (ht : P.underlying t = some (.slice e)) (hi : P.info? e = some i) (hz : i.zero = some z)
    (hsize : i.size = size) (hby : i.bytes = bytes) (hzs : z.cells.size = size) (hsz : 0 < size)
    (v : Value) (n : Nat) (xs : List Value) (hs : a.eval s = v) (hown : w.ownsRow base e size v n xs)
    (ad : Option Addr) (m c : Nat) (news : List Value) (hx : a.eval x = .slice ad m c) (hl : news.length = m * size) (hnews : Lies w ad news)
    (h63 : n + m ≤ maxLen) (hbytes : (n + m) * bytes ≤ 140737488355328) (hbase : base ≤ w.heap.size)
    (h : ∀ v' w', w'.ownsRow base e size v' (n + m) (xs ++ news) → Below base w w' → K (a.put o.dst v') w') : if Region.wanted o (yielded ops a.tmps) = true then Oper.wp P o a w K Q else E := by
  have hw : Region.wanted o (yielded ops a.tmps) = true := by simp [Region.wanted, hg]
  rw [if_pos hw]
  obtain ⟨v', w', hr, h2, h3⟩ := run_append_any base t o.type e i z size bytes ht hi hz hsize hby hzs hsz v n xs hown ad m c news hl hnews h63 hbytes hbase
  unfold Oper.wp execOp
  simp only [ho, resolve, invoke, builtin, Sem.run_bind, Sem.run_pure, Result.andThen_ok, List.map_toArray, List.map_cons, List.map_nil, hs, hx, hr]
  exact h v' w' h2 h3
theorem Row.lies {lo : Nat} {w : World} {a : Option Addr} {zs : List Int} (R : Row lo w a zs) : Lies w a (zs.map (Value.int .i64)) := by
  refine ⟨?_, fun u hu => by obtain ⟨y, -, rfl⟩ := List.mem_map.1 hu; rfl⟩
  rcases R.2 with rfl | ⟨b, off, rfl, -, hb, hc⟩
  · exact Or.inl rfl
  · refine Or.inr ⟨_, rfl, hb, fun j u hj => ?_⟩
    rw [List.getElem?_map] at hj
    obtain ⟨z, hz, rfl⟩ := Option.map_eq_some_iff.1 hj
    have hjl : j < zs.length := by
      rcases Nat.lt_or_ge j zs.length with h | h
      · exact h
      · rw [List.getElem?_eq_none h] at hz; cases hz
    rw [add_off, hc j hjl, hz]; rfl
/-- The three values of each cell. -/
def cellT (cs : List Ce) (ab : Nat → Option Addr) (cb : Nat → Nat) (i : Nat) : Value × Value × Value := (.int .i64 (cAt cs i).1, .int .i64 (cAt cs i).2.1, .slice (ab i) (cAt cs i).2.2.length (cb i))
theorem rowT_one (T : Nat → Value × Value × Value) (m : Nat) (h : ∀ i, i < m → (T i).1.oneCell' = true ∧ (T i).2.1.oneCell' = true ∧ (T i).2.2.oneCell' = true) : ∀ u ∈ rowT T m, u.oneCell' = true := by
  intro u hu
  unfold rowT at hu
  rw [List.mem_flatMap] at hu
  obtain ⟨i, hi, hu⟩ := hu
  have := h i (List.mem_range.1 hi)
  simp at hu
  rcases hu with rfl | rfl | rfl
  · exact this.1
  · exact this.2.1
  · exact this.2.2
/-- Cells of an array as values that lie one behind the other. -/
theorem cells_lie {n lo : Nat} {w : World} {cs : List Ce} {a : Option Addr} (h : CellsIn n lo w cs a) : ∃ (ab : Nat → Option Addr) (cb : Nat → Nat), Lies w a (rowT (cellT cs ab cb) cs.length) ∧ ∀ i, i < cs.length → CeIn (fun x v => ArIn n lo w x v) lo w (cAt cs i) (cellT cs ab cb i).1 (cellT cs ab cb i).2.1 (cellT cs ab cb i).2.2 := by
  obtain ⟨ab, cb, hf⟩ := cells_fn h
  refine ⟨ab, cb, ⟨?_, rowT_one _ _ fun i _ => ⟨rfl, rfl, rfl⟩⟩, fun i hi => ?_⟩
  · by_cases h0 : 0 < cs.length
    · obtain ⟨b, off, rfl, -, hb, hc⟩ := hf h0
      refine Or.inr ⟨_, rfl, hb, fun j u hj => ?_⟩
      have hjl : j < cs.length * 3 := by
        rcases Nat.lt_or_ge j (cs.length * 3) with h | h
        · exact h
        · rw [List.getElem?_eq_none (by rw [rowT_len]; exact h)] at hj; cases hj
      obtain ⟨t0, t1, t2⟩ := rowT_at (cellT cs ab cb) cs.length (j / 3) (by omega)
      obtain ⟨g0, g1, g2, -⟩ := hc (j / 3) (by omega)
      rw [add_off]
      have hm : j = j / 3 * 3 ∨ j = j / 3 * 3 + 1 ∨ j = j / 3 * 3 + 2 := by omega
      rcases hm with e | e | e
      · rw [← e] at t0 g0; rw [t0] at hj; cases hj; exact g0
      · rw [← e] at t1; rw [t1] at hj; cases hj
        rw [show off + j = off + j / 3 * 3 + 1 by omega]; exact g1
      · rw [← e] at t2; rw [t2] at hj; cases hj
        rw [show off + j = off + j / 3 * 3 + 2 by omega]; exact g2
    · have : cs.length = 0 := by omega
      rw [this]; exact Or.inl rfl
  · obtain ⟨b, off, rfl, -, hb, hc⟩ := hf (by omega)
    exact (hc i hi).2.2.2
/-- Rows that append has put together may be written. -/
theorem owns_softC {w : World} {base g cap n : Nat} {e : TypeId} {l : List Int} (hl : l.length = n) (h : w.ownsRow base e 1 (.slice (some ⟨g, 0, none⟩) n cap) n (l.map (Value.int .i64))) : SoftC w g l := by
  intro i hi
  refine ⟨?_, h.frozenAt i⟩
  rw [h.cellAt i (by omega), List.getElem?_map]
  unfold gI
  rw [List.getElem?_eq_getElem hi]; rfl
theorem Lies.next {w w' : World} {a : Option Addr} {l : List Value} (h : Lies w a l) (hb : Below w.heap.size w w') : Lies w' a l := by
  refine ⟨?_, h.2⟩
  rcases h.1 with h1 | ⟨p, hp, hl, h1⟩
  · exact Or.inl h1
  · refine Or.inr ⟨p, hp, Nat.lt_of_lt_of_le hl hb.size, fun j u hj => (hb.cell (p := p.add j) ?_).trans (h1 j u hj)⟩
    have e : (p.add j).block = p.block := by unfold Addr.add; split <;> rfl
    rw [e]; exact hl
def itemAt (x : Ar) (i m : Nat) : Ar := .mk x.shape.tail ((x.cells.drop (i * m)).take m)
/-- An array is given back: its memory is what w0 held, which came in, or new; it stays what it is as long as both are kept. -/
def GivesZ (n : Nat) (w0 : World) (x : Ar) (w : World) (e : Ending) (w' : World) : Prop := (∃ v, e = .returned v ∧ ∀ W, Below w0.heap.size w0 W → Keeps w.heap.size w' W → ArIn n 0 W x v) ∧ Below w.heap.size w w'
def Gives2Z (n : Nat) (w0 : World) (x : Ar) (E : Int) (w : World) (e : Ending) (w' : World) : Prop := (∃ v, e = .returned (.tuple #[v, .int .i64 E]) ∧ ∀ W, Below w0.heap.size w0 W → Keeps w.heap.size w' W → ArIn n 0 W x v) ∧ Below w.heap.size w w'
theorem gives2z_of {n : Nat} {x : Ar} {E : Int} {w0 w w' : World} {v : Value} {R : Ar × Int} (hR : R = (x, E)) (hx : ∀ W, Below w0.heap.size w0 W → Keeps w.heap.size w' W → ArIn n 0 W x v) (hb : Below w.heap.size w w') : Gives2Z n w0 R.1 R.2 w (.returned (.tuple #[v, .int .i64 E])) w' := by
  subst hR
  exact ⟨⟨_, rfl, hx⟩, hb⟩
theorem owns_keeps {e : TypeId} {size n base lo : Nat} {w w1 : World} {v : Value} {xs : List Value} (h : w.ownsRow base e size v n xs) (hk : Keeps lo w w1) (hl : lo ≤ base) : w1.ownsRow base e size v n xs := by
  obtain ⟨h1, h2⟩ := h
  refine ⟨h1, ?_⟩
  rcases h2 with ⟨rfl, h2⟩ | ⟨g, cap, cur, rfl, hbg, hg, hn, hm, hs, ht⟩
  · exact Or.inl ⟨rfl, h2⟩
  · exact Or.inr ⟨g, cap, cur, rfl, hbg, (hk.2 g (by omega) (lt_of_block hg)).trans hg, hn, hm, hs, ht⟩
theorem Keeps.trans {lo : Nat} {w w1 w2 : World} (h1 : Keeps lo w w1) (h2 : Keeps lo w1 w2) : Keeps lo w w2 := ⟨Nat.le_trans h1.1 h2.1, fun b hb1 hb2 => (h2.2 b hb1 (Nat.lt_of_lt_of_le hb2 h1.1)).trans (h1.2 b hb1 hb2)⟩
theorem Keeps.mono {lo lo' : Nat} {w w1 : World} (h : Keeps lo w w1) (hl : lo ≤ lo') : Keeps lo' w w1 := ⟨h.1, fun b h1 h2 => h.2 b (Nat.le_trans hl h1) h2⟩
theorem size36 : (Try.prog.info? 36).map (·.size) = some 3 := by kernel_rfl
theorem Lies.drew {w : World} {a : Option Addr} {l : List Value} (h : Lies w a l) : Lies w.drew a l := h
theorem caps_form {a1 a2 : Option Addr} {n1 c1 n2 c2 : Nat} (h : Caps (.agg #[.slice a1 n1 c1, .slice a2 n2 c2])) : n1 ≤ c1 ∧ n2 ≤ c2 := by
  obtain ⟨b1, m1, k1, b2, m2, k2, hv, h1, h2⟩ := h
  simp only [Value.agg.injEq, Array.mk.injEq, List.cons.injEq, Value.slice.injEq, and_true] at hv
  obtain ⟨⟨-, rfl, rfl⟩, -, rfl, rfl⟩ := hv
  exact ⟨h1, h2⟩
theorem Row.lt {lo : Nat} {w : World} {a : Option Addr} {l : List Int} (R : Row lo w a l) (h0 : 0 < l.length) : ∃ b off, a = some ⟨b, off, none⟩ ∧ b < w.heap.size := by
  obtain ⟨b, off, h, hb, -⟩ := row_at R h0
  exact ⟨b, off, h, hb⟩
theorem Lies.row_next {lo : Nat} {w w' : World} {a : Option Addr} {l : List Int} (R : Row lo w a l) (hb : Below w.heap.size w w') : Lies w' a (l.map (Value.int .i64)) := (R.next hb).lies
/-- Cells that were appended, as an array's. -/
theorem cells_of_own {n lo base : Nat} {w0 w : World} {cs : List Ce} {T : Nat → Value × Value × Value} {v : Value} (hown : w.ownsRow base 36 3 v cs.length (rowT T cs.length)) (hb : Below w0.heap.size w0 w) (hT : ∀ i, i < cs.length → CeIn (fun x v => ArIn n lo w0 x v) lo w0 (cAt cs i) (T i).1 (T i).2.1 (T i).2.2) : ∃ a c, v = .slice a cs.length c ∧ cs.length ≤ c ∧ CellsIn n 0 w cs a := by
  obtain ⟨a, c, rfl, h⟩ := owns_cellsT T hown
  refine ⟨a, c, rfl, ?_, ?_⟩
  · rcases hown.2 with ⟨h1, h2⟩ | ⟨g, cap, cur, h1, -, -, h2, -⟩
    · rw [h2]; omega
    · simp only [Value.slice.injEq] at h1; omega
  · rcases h with h0 | ⟨g, rfl, hg1, hg2, hcc⟩
    · exact Or.inl (List.eq_nil_of_length_eq_zero h0)
    · refine Or.inr ⟨g, 0, rfl, Nat.zero_le _, hg2, fun i hi => ?_⟩
      obtain ⟨e0, e1, e2⟩ := hcc i hi
      rw [Nat.zero_add]
      exact ⟨_, _, _, e0, e1, e2, (hT i hi).mono (Nat.zero_le _) hb fun x v h => h.mono (Nat.zero_le _) hb⟩
theorem owns_cap {w : World} {base n size : Nat} {e : TypeId} {v : Value} {xs : List Value} (h : w.ownsRow base e size v n xs) : ∃ a cap, v = .slice a n cap ∧ n ≤ cap := by
  rcases h.2 with ⟨rfl, h0⟩ | ⟨g, cap, cur, rfl, hb, hg, h1, -⟩
  · exact ⟨none, 0, by rw [h0], by omega⟩
  · exact ⟨_, _, rfl, h1⟩
set_option maxHeartbeats 4000000 in
theorem ritem_any {n lo i m : Nat} {x : Ar} {va : Value} {w0 w : World} (hx : ArIn (n + 1) lo w0 x va) (hb0 : Below w0.heap.size w0 w) (hs : 0 < x.shape.length) (h8 : x.shape.length ≤ 8) (hE : sizeV x.shape.tail = (m : Int)) (hm : i * m + m ≤ x.cells.length) (hc16 : x.cells.length ≤ 16384) (hi16 : i ≤ 16384) (hcap : Caps va) :
    Calls Try.prog 71 #[va, .int .i64 (i : Int)] w fun e w' => GivesZ (n + 1) w0 (itemAt x i m) w e w' := by
  obtain ⟨a1, c1, a2, c2, rfl, R, hc⟩ := hx.form
  obtain ⟨hc1, hc2⟩ := caps_form hcap
  obtain ⟨i3, hi3, hz30, hz31, hz32⟩ := infoI3
  obtain ⟨i0, hi0, hz00, hz01, hz02⟩ := info33'
  have I := in2_new w (.slice a1 x.shape.length c1) (.slice a2 x.cells.length c2)
  obtain ⟨W2, e2⟩ : ∃ W2, (w.alloc (.cells #[.slice a1 x.shape.length c1, .slice a2 x.cells.length c2] 25)).alloc (.cells #[.slice none 0 0, .slice none 0 0] 25) = W2 := ⟨_, rfl⟩
  rw [e2] at I
  have z2 : W2.heap.size = w.heap.size + 2 := by rw [← e2]; simp
  have q0 := I.q0
  have q1 := I.q1
  have HI := hide I
  have HP1 := hide fun W => part_l (P := Try.prog) Try.underlying22 size3 a1 x.shape.length c1 1 1 rfl hs W
  have hp1 := HP1.out
  have ht : ((x.shape.drop 1).take (x.shape.length - 1)) = x.shape.tail := by rw [List.take_of_length_le (by rw [List.length_drop]; omega), List.drop_one]
  have RT : Row lo w0 (subA a1 1 c1 1) x.shape.tail := by have := R.part 1 c1 (x.shape.length - 1) (by omega) hc1; rw [ht] at this; exact this
  have tl : x.shape.tail.length = x.shape.length - 1 := by rw [List.length_tail]
  have C := rsize_any x.shape.tail (subA a1 1 c1 1) (c1 - 1) W2 (RT.next (hb0.trans (I.bel.mono hb0.size)))
  rw [tl, hE] at C
  generalize sizeE x.shape.tail = EE at *
  have CP := hc.part (i * m) c2 m hm hc2
  have hcl : ((x.cells.drop (i * m)).take m).length = m := by rw [List.length_take, List.length_drop]; omega
  obtain ⟨pp, hpp⟩ : ∃ pp : Nat, i * m = pp := ⟨_, rfl⟩
  obtain ⟨qq, hqq⟩ : ∃ qq : Nat, pp + m = qq := ⟨_, rfl⟩
  have hwp : IntKind.i64.wrap ((i : Int) * (m : Int)) = (pp : Int) := by rw [← Int.natCast_mul, hpp]; exact IntWalk.i64_in _ ⟨by omega, by omega⟩
  have hwq : IntKind.i64.wrap ((pp : Int) + (m : Int)) = (qq : Int) := by rw [← Int.natCast_add, hqq]; exact IntWalk.i64_in _ ⟨by omega, by omega⟩
  have hp2 : ∀ W, (Instr.sliceAt 23 (.slice a2 x.cells.length c2) (some (.int .i64 (pp : Int))) (some (.int .i64 (qq : Int))) none).run Try.prog W = .ok (.slice (subA a2 (i * m) c2 3) m (c2 - i * m)) W := fun W => by
    have := part_lh (P := Try.prog) Try.underlying23 size36 a2 x.cells.length c2 (i * m) (i * m + m) (pp : Int) (qq : Int) (by rw [hpp]) (by rw [hpp, hqq]) (by omega) (by omega) W
    rw [this, show i * m + m - i * m = m by omega]
  obtain ⟨ab, cb, hlie, hce⟩ := cells_lie CP
  have hm16 : m ≤ 16384 := by omega
  rw [hcl] at hlie hce
  have HL := hide (And.intro hlie hce)
  have HR := hide (And.intro RT CP)
  have HB0 := hide hb0
  have HK := hide (And.intro hs (And.intro h8 (And.intro tl hcl)))
  have hSA := hide (rfl : x.shape.length = x.shape.length)
  obtain ⟨SA, hSA⟩ : ∃ SA, x.shape.length = SA := ⟨_, rfl⟩
  obtain ⟨CA, hCA⟩ : ∃ CA, x.cells.length = CA := ⟨_, rfl⟩
  simp only [hSA, hCA] at C e2 q0 q1 HI hp1 hp2 HK hc1 hc2 hm hc16 h8 hs ⊢
  obtain ⟨at', hat⟩ : ∃ at', subA a1 1 c1 1 = at' := ⟨_, rfl⟩
  obtain ⟨ac, hac⟩ : ∃ ac, subA a2 (i * m) c2 3 = ac := ⟨_, rfl⟩
  obtain ⟨cc, hcc⟩ : ∃ cc, c2 - i * m = cc := ⟨_, rfl⟩
  obtain ⟨ct, hct⟩ : ∃ ct, c1 - 1 = ct := ⟨_, rfl⟩
  obtain ⟨SM, hSM⟩ : ∃ SM, SA - 1 = SM := ⟨_, rfl⟩
  rw [hat] at C HR
  simp only [hat, hct, hSM] at hp1 C HK
  simp only [hac, hcc] at hp2 HR HL
  have hSM8 : SM ≤ 8 := by omega
  clear RT CP hlie hce ht tl hcl hE hx R hc I hcap HP1 hSA hCA hat hac hcc hct hSM hpp hqq
  go_enter Try.func71, Try.ntmps71
  go_wp2_with fail
  clear e2
  refine C.mono ?_
  rintro e w1 ⟨rfl, rfl⟩
  clear C q0 q1
  obtain ⟨W3, e3⟩ : ∃ W3, w1.alloc (.cells #[.slice none 0 0, .slice none 0 0] 25) = W3 := ⟨_, rfl⟩
  have z3 : W3.heap.size = w.heap.size + 3 := by rw [← e3]; simp [z2]
  have B3 : Below w1.heap.size w1 W3 := by rw [← e3]; exact one_alloc _ _
  have o0 : W3.cell? ⟨w.heap.size + 2, 0, none⟩ = some (.slice none 0 0) := by rw [← e3, ← z2]; exact cell_new0 w1 _ 25 0 _ rfl
  have o1 : W3.cell? ⟨w.heap.size + 2, 1, none⟩ = some (.slice none 0 0) := by rw [← e3, ← z2]; exact cell_new0 w1 _ 25 1 _ rfl
  have of0 : W3.frozen? ⟨w.heap.size + 2, 0, none⟩ = false := by rw [← e3, ← z2]; exact frozen_new w1 _ 25 0
  have of1 : W3.frozen? ⟨w.heap.size + 2, 1, none⟩ = false := by rw [← e3, ← z2]; exact frozen_new w1 _ 25 1
  have I3 := HI.out.next B3
  have q0 := I3.q0
  have HLS : Hid (Lies W3.drew at' (x.shape.tail.map (Value.int .i64))) := (Lies.row_next HR.out.1 (HB0.out.trans (I3.bel.mono HB0.out.size))).drew
  have hsl : (x.shape.tail.map (Value.int .i64)).length = SM * 1 := by rw [List.length_map, HK.out.2.2.1]; omega
  have HI3 := hide I3
  have HZ3 := hide z3
  have HMX : Hid (0 + SM ≤ maxLen ∧ (0 + SM) * 8 ≤ 140737488355328) := ⟨by unfold maxLen; omega, by omega⟩
  have hO : Hid (w.heap.size + 2 < W3.heap.size) := by unfold Hid; omega
  have HE3 := hide e3
  clear I3 B3 HI z3 e3
  go_wp2
  rw [HE3.out]
  clear HE3
  go_cut [5] from 16 to 22 (fun s5 wx => s5 = .int .i64 (m : Int) ∧ ∃ al cl w4, SM ≤ cl ∧ w4.ownsRow W3.heap.size 3 1 (.slice al SM cl) SM (x.shape.tail.map (Value.int .i64)) ∧ Below W3.heap.size W3 w4 ∧ wx = w4.setCell ⟨w.heap.size + 2, 0, none⟩ (.slice al SM cl))
  case first =>
    go_region_law (refine step_append_any rfl (.tmp 17) (.tmp 20) 22 rfl W3.heap.size 3 i3 (.int .i64 0) 1 8 Try.underlying22 hi3 hz30 hz31 hz32 rfl (by decide) (.slice none 0 0) 0 [] rfl (World.ownsRow_nil _ _ _ _) at' SM ct (x.shape.tail.map (Value.int .i64)) rfl hsl HLS.out HMX.out.1 HMX.out.2 (Nat.le_refl _) ?_; intro v' w4 hown4 hb4; obtain ⟨al, cl, rfl, hcap4⟩ := owns_cap hown4; have d0 := hb4.cell (p := ⟨w.heap.size + 2, 0, none⟩) hO.out |>.trans o0; have df0 := hb4.frozen (p := ⟨w.heap.size + 2, 0, none⟩) hO.out |>.trans of0)
    all_goals
      simp only [List.nil_append, Nat.zero_add] at hown4 hcap4 ⊢
      have HF4 := hide (And.intro hcap4 (And.intro hown4 hb4))
      clear hown4 hcap4 hb4
      go_wp2
      go_meet
    all_goals
      case rel => exact ⟨rfl, _, _, _, HF4.out.1, HF4.out.2.1, (Below.refl _ _).drew.trans HF4.out.2.2, rfl⟩
  case rest =>
    obtain ⟨rfl, al, cl, w4, hcl, hown4, hb4, rfl⟩ := hcut
    clear q0 HLS hsl HMX
    obtain ⟨al', cl', hal, RL⟩ := owns_rowE x.shape.tail (by rw [HK.out.2.2.1]; omega) (by rw [HK.out.2.2.1]; exact hown4)
    simp only [Value.slice.injEq] at hal
    obtain ⟨rfl, -, rfl⟩ := hal
    have hz3 := HZ3.out
    have d0 : w4.cell? ⟨w.heap.size + 2, 0, none⟩ = some (.slice none 0 0) := (hb4.cell (p := ⟨w.heap.size + 2, 0, none⟩) (by show w.heap.size + 2 < _; omega)).trans o0
    obtain ⟨w5, e5⟩ : ∃ w5, w4.setCell ⟨w.heap.size + 2, 0, none⟩ (.slice al SM cl) = w5 := ⟨_, rfl⟩
    have z5 : w5.heap.size = w4.heap.size := by rw [← e5]; simp
    have z45 := hb4.size
    have I5 : In2 w (.slice a1 SA c1) (.slice a2 CA c2) w5 := by rw [← e5]; exact (HI3.out.belowS hb4 (by omega)).set (by omega) _
    have t0 : w5.cell? ⟨w.heap.size + 2, 0, none⟩ = some (.slice al SM cl) := by rw [← e5]; exact World.cell?_setCell_same' _ _ _ (by rw [d0]; rfl)
    have t1 : w5.cell? ⟨w.heap.size + 2, 1, none⟩ = some (.slice none 0 0) := by rw [← e5, World.cell?_setCell_other _ _ _ _ (by simp)]; exact (hb4.cell (p := ⟨w.heap.size + 2, 1, none⟩) (by show w.heap.size + 2 < _; omega)).trans o1
    have tf1 : w5.frozen? ⟨w.heap.size + 2, 1, none⟩ = false := by rw [← e5]; exact frozen_set _ _ _ _ ((hb4.frozen (p := ⟨w.heap.size + 2, 1, none⟩) (by show w.heap.size + 2 < _; omega)).trans of1)
    have K5 : Keeps W3.heap.size w4 w5 := by rw [← e5]; exact (Keeps.refl _ _).setCell (p := ⟨w.heap.size + 2, 0, none⟩) (by show w.heap.size + 2 < _; omega) _
    have HRL := hide (RL.keeps K5)
    have HI5 := hide I5
    have q1 := I5.q1
    have HLC : Hid (Lies w5.drew ac (rowT (cellT ((x.cells.drop (i * m)).take m) ab cb) m)) := (HL.out.1.next (HB0.out.trans (I5.bel.mono HB0.out.size))).drew
    have hsl : (rowT (cellT ((x.cells.drop (i * m)).take m) ab cb) m).length = m * 3 := rowT_len _ _
    have HMX : Hid (0 + m ≤ maxLen ∧ (0 + m) * 40 ≤ 140737488355328) := ⟨by unfold maxLen; omega, by omega⟩
    have hO5 : Hid (w.heap.size + 2 < w5.heap.size) := by unfold Hid; omega
    have HS := hide (And.intro z5 (And.intro z45 hz3))
    clear I5 K5 RL d0 hown4 hb4 HI3 z5 z45 hz3 o0 o1 of0 of1 hO hp1 HZ3
    rw [e5]
    clear e5
    go_wp2
    go_cut [5] from 23 to 37 (fun s5 wx => s5 = .int .i64 (m : Int) ∧ ∃ a3 c3 w6, m ≤ c3 ∧ w6.ownsRow w5.heap.size 36 3 (.slice a3 m c3) m (rowT (cellT ((x.cells.drop (i * m)).take m) ab cb) m) ∧ Below w5.heap.size w5 w6 ∧ wx = w6.setCell ⟨w.heap.size + 2, 1, none⟩ (.slice a3 m c3))
    case first =>
      go_region_law (refine step_append_any rfl (.tmp 24) (.tmp 35) 23 rfl w5.heap.size 36 i0 (.agg #[.int .i64 0, .int .i64 0, .slice none 0 0]) 3 40 Try.underlying23 hi0 hz00 hz01 hz02 rfl (by decide) (.slice none 0 0) 0 [] rfl (World.ownsRow_nil _ _ _ _) ac m cc (rowT (cellT ((x.cells.drop (i * m)).take m) ab cb) m) rfl hsl HLC.out HMX.out.1 HMX.out.2 (Nat.le_refl _) ?_; intro v' w6 hown6 hb6; obtain ⟨a3, c3, rfl, hcap6⟩ := owns_cap hown6; have d0 := hb6.cell (p := ⟨w.heap.size + 2, 1, none⟩) hO5.out |>.trans t1; have df0 := hb6.frozen (p := ⟨w.heap.size + 2, 1, none⟩) hO5.out |>.trans tf1)
      all_goals
        simp only [List.nil_append, Nat.zero_add] at hown6 hcap6 ⊢
        have HF4 := hide (And.intro hcap6 (And.intro hown6 hb6))
        clear hown6 hcap6 hb6
        go_wp2
        go_meet
      all_goals
        case rel => exact ⟨rfl, _, _, _, HF4.out.1, HF4.out.2.1, (Below.refl _ _).drew.trans HF4.out.2.2, rfl⟩
    case rest =>
      obtain ⟨rfl, a3, c3, w6, hcl3, hown6, hb6, rfl⟩ := hcut
      clear q1 HLC hsl HMX hwp hwq hp2
      have hz := HS.out
      have hb6s := hb6.size
      have hcl := HK.out.2.2.2
      have d1 : w6.cell? ⟨w.heap.size + 2, 1, none⟩ = some (.slice none 0 0) := (hb6.cell (p := ⟨w.heap.size + 2, 1, none⟩) (by show w.heap.size + 2 < _; omega)).trans t1
      have d0 : w6.cell? ⟨w.heap.size + 2, 0, none⟩ = some (.slice al SM cl) := (hb6.cell (p := ⟨w.heap.size + 2, 0, none⟩) (by show w.heap.size + 2 < _; omega)).trans t0
      obtain ⟨w7, e7⟩ : ∃ w7, w6.setCell ⟨w.heap.size + 2, 1, none⟩ (.slice a3 m c3) = w7 := ⟨_, rfl⟩
      have I7 : In2 w (.slice a1 SA c1) (.slice a2 CA c2) w7 := by rw [← e7]; exact (HI5.out.belowS hb6 (by omega)).set (by omega) _
      have s0 : w7.cell? ⟨w.heap.size + 2, 0, none⟩ = some (.slice al SM cl) := by rw [← e7, World.cell?_setCell_other _ _ _ _ (by simp)]; exact d0
      have s1 : w7.cell? ⟨w.heap.size + 2, 1, none⟩ = some (.slice a3 m c3) := by rw [← e7]; exact World.cell?_setCell_same' _ _ _ (by rw [d1]; rfl)
      have K7 : Keeps (w.heap.size + 3) w6 w7 := by rw [← e7]; exact (Keeps.refl _ _).setCell (p := ⟨w.heap.size + 2, 1, none⟩) (by show w.heap.size + 2 < _; omega) _
      have p0 := I7.p0
      have p1 := I7.p1
      have f0 := I7.f0
      have f1 := I7.f1
      have HT := hide (I7.put (.slice al SM cl) (.slice a3 m c3))
      have HFIN : Hid (∀ u v, GivesZ (n + 1) w0 (itemAt x i m) w (.returned (.agg #[.slice al SM cl, .slice a3 m c3])) ((w7.setCell ⟨w.heap.size + 1, 0, none⟩ u).setCell ⟨w.heap.size + 1, 1, none⟩ v)) := by
        intro u v
        refine ⟨⟨_, rfl, fun W hW hK => ?_⟩, I7.fin u v⟩
        have K8 : Keeps (w.heap.size + 3) w7 ((w7.setCell ⟨w.heap.size + 1, 0, none⟩ u).setCell ⟨w.heap.size + 1, 1, none⟩ v) := ((Keeps.refl _ _).setCell (p := ⟨w.heap.size + 1, 0, none⟩) (by show w.heap.size + 1 < _; omega) u).setCell (p := ⟨w.heap.size + 1, 1, none⟩) (by show w.heap.size + 1 < _; omega) v
        have K9 := (K7.trans K8).trans (hK.mono (show w.heap.size ≤ w.heap.size + 3 by omega))
        have hown8 := owns_keeps hown6 K9 (by omega)
        obtain ⟨a3', c3', ha3, -, HC6⟩ := cells_of_own (lo := lo) (n := n) (w0 := w0) (cs := (x.cells.drop (i * m)).take m) (by rw [hcl]; exact hown8) hW (by rw [hcl]; exact HL.out.2)
        simp only [Value.slice.injEq] at ha3
        obtain ⟨rfl, -, rfl⟩ := ha3
        have RF := ((HRL.out.next hb6).low (show w.heap.size + 3 ≤ W3.heap.size by omega)).keeps K9
        exact arIn_mk (x := itemAt x i m) (RF.low (Nat.zero_le _)) (by show ((x.cells.drop (i * m)).take m).length ≤ _; rw [hcl]; omega) HC6 HK.out.2.2.1 hcl
      clear I7 K7 hown6 hb6 d0 d1 hz HS HL HRL HR
      rw [e7]
      clear e7
      go_wp2
      exact bodyPost_ret (v := .agg #[.slice al SM cl, .slice a3 m c3]) (by simp [results, Try.results71, go_sem, HT.out.1, HT.out.2]) rfl (HFIN.out _ _)
set_option maxHeartbeats 4000000 in
theorem rcount_any {n lo : Nat} {x : Ar} {va : Value} {w : World} (hx : ArIn (n + 1) lo w x va) (hchk : chkA 8 x = 0) : Calls Try.prog 38 #[va] w fun e w' => Gives2 (n + 1) w.heap.size (iotaR x).1 (iotaR x).2 w e w' := by
  obtain ⟨a1, c1, a2, c2, rfl, R, hc⟩ := hx.form
  have I := in2_new w (.slice a1 x.shape.length c1) (.slice a2 x.cells.length c2)
  obtain ⟨i2, hi2, hz20, hz21, hz22⟩ := info2'
  have q0 := I.q0
  have q1 := I.q1
  have hl := R.1
  have HI := hide I
  by_cases h0 : 0 < x.shape.length
  · have e : iotaR x = (zeroA, 6) := by unfold iotaR; rw [if_pos h0]
    rw [e]
    clear R hc I hx hchk
    generalize x.shape.length = SA at *
    generalize x.cells.length = CA at *
    have h1 : (0 : Int) < (SA : Int) := by omega
    go_enter Try.func38, Try.ntmps38
    go_wp2
    exact bodyPost_ret (v := .tuple #[.agg #[.slice none 0 0, .slice none 0 0], .int .i64 6]) (by simp [results, Try.results38, go_sem]) rfl ⟨⟨_, rfl, zeroA_in _ _ _⟩, HI.out.bel⟩
  · obtain ⟨-, hone⟩ := atom_one hchk (by omega)
    obtain ⟨ab, cb, hcf⟩ := cells_fn hc
    obtain ⟨b, off, rfl, -, hb, hcells⟩ := hcf (by omega)
    obtain ⟨g0, g1, g2, -⟩ := hcells 0 (by omega)
    simp only [Nat.zero_mul, Nat.add_zero] at g0 g1 g2
    have HE : Hid (iotaR x = if isC (cAt x.cells 0) = false then (zeroA, 5) else if 16384 < (cAt x.cells 0).2.1 then (zeroA, 12) else (numsA (upL (cAt x.cells 0).2.1.toNat), 0)) := by unfold iotaR Hid; rw [if_neg h0]
    have hs0 : x.shape.length = 0 := by omega
    rw [hs0, hone] at q0 q1 HI I ⊢
    have r0 := (I.bel.cell (p := ⟨b, off, none⟩) hb).trans g0
    have r1 := (I.bel.cell (p := ⟨b, off + 1, none⟩) hb).trans g1
    have r2 := (I.bel.cell (p := ⟨b, off + 2, none⟩) hb).trans g2
    clear hcells hcf hc R hx hchk g0 g1 g2
    have HCC : Hid (isC (cAt x.cells 0) = (decide ((cAt x.cells 0).1 = 0) && decide (0 ≤ (cAt x.cells 0).2.1))) := rfl
    generalize (cAt x.cells 0).2.2.length = nb at *
    generalize ab 0 = ab0 at *
    generalize cb 0 = cb0 at *
    generalize (cAt x.cells 0).1 = ck at *
    generalize (cAt x.cells 0).2.1 = cN at *
    obtain ⟨W2, e2⟩ : ∃ W2, (w.alloc (.cells #[.slice a1 0 c1, .slice (some ⟨b, off, none⟩) 1 c2] 25)).alloc (.cells #[.slice none 0 0, .slice none 0 0] 25) = W2 := ⟨_, rfl⟩
    rw [e2] at HI I q0 q1 r0 r1 r2
    have hz2 : W2.heap.size = w.heap.size + 2 := by rw [← e2]; simp
    have i0 := cell_new0 W2 #[.int .i64 ck, .int .i64 cN, .slice ab0 nb cb0] 36 0 _ rfl
    have i1 := cell_new0 W2 #[.int .i64 ck, .int .i64 cN, .slice ab0 nb cb0] 36 1 _ rfl
    obtain ⟨W3, e3⟩ : ∃ W3, W2.alloc (.cells #[.int .i64 ck, .int .i64 cN, .slice ab0 nb cb0] 36) = W3 := ⟨_, rfl⟩
    rw [e3, hz2] at i0 i1
    have I3 : In2 w (.slice a1 0 c1) (.slice (some ⟨b, off, none⟩) 1 c2) W3 := by rw [← e3]; exact I.alloc _
    have z3 : W3.heap.size = w.heap.size + 3 := by rw [← e3]; simp [hz2]
    have p0 := I3.p0
    have p1 := I3.p1
    have f0 := I3.f0
    have f1 := I3.f1
    have HI4 := hide I3
    have HZ := hide z3
    have k1 : W3.cell? ⟨w.heap.size + 2, 1, none⟩ = some (.int .i64 cN) := i1
    clear I I3 z3
    by_cases hC : isC (cAt x.cells 0) = false
    · have e : iotaR x = (zeroA, 5) := by rw [HE.out, if_pos hC]
      have HE5 := hide e
      have HT := hide (HI4.out.put (.slice none 0 0) (.slice none 0 0))
      have hC2 := hC
      rw [HCC.out] at hC2
      clear HE e hC HCC
      by_cases hk : ck = 0
      · have hN : cN < 0 := by simp [hk] at hC2; exact hC2
        subst hk
        clear hC2
        go_enter Try.func38, Try.ntmps38
        go_wp2
        exact bodyPost_ret (v := .tuple #[.agg #[.slice none 0 0, .slice none 0 0], .int .i64 5]) (by simp [results, Try.results38, go_sem, HT.out.1, HT.out.2]) rfl (gives2_of HE5.out (zeroA_in _ _ _) (HI4.out.fin _ _))
      · have hkb : (ck == 0) = false := by simp [hk]
        clear hC2
        go_enter Try.func38, Try.ntmps38
        go_wp2
        exact bodyPost_ret (v := .tuple #[.agg #[.slice none 0 0, .slice none 0 0], .int .i64 5]) (by simp [results, Try.results38, go_sem, HT.out.1, HT.out.2]) rfl (gives2_of HE5.out (zeroA_in _ _ _) (HI4.out.fin _ _))
    · have hC' : isC (cAt x.cells 0) = true := by simpa using hC
      rw [HCC.out] at hC'
      simp at hC'
      obtain ⟨rfl, hN0⟩ := hC'
      by_cases hbig : 16384 < cN
      · have e : iotaR x = (zeroA, 12) := by rw [HE.out, if_neg hC, if_pos hbig]
        have HE5 := hide e
        have HT := hide (HI4.out.put (.slice none 0 0) (.slice none 0 0))
        clear HE e hC HCC
        go_enter Try.func38, Try.ntmps38
        go_wp2
        exact bodyPost_ret (v := .tuple #[.agg #[.slice none 0 0, .slice none 0 0], .int .i64 12]) (by simp [results, Try.results38, go_sem, HT.out.1, HT.out.2]) rfl (gives2_of HE5.out (zeroA_in _ _ _) (HI4.out.fin _ _))
      · have e : iotaR x = (numsA (upL cN.toNat), 0) := by rw [HE.out, if_neg hC, if_neg hbig]
        have HE5 := hide e
        obtain ⟨m, hm⟩ : ∃ m : Nat, cN = (m : Int) := ⟨cN.toNat, by omega⟩
        subst hm
        rw [Int.toNat_natCast] at HE5
        clear HE e hC HCC p0 p1 f0 f1
        go_enter Try.func38, Try.ntmps38
        go_wp2
        clear e2 e3 r0 r1 r2 q0 q1 hz2 i0 i1
        go_loopg [5, 6] m (fun g mv i wr => ∃ k : Nat, g + k = m ∧ i = .int .i64 (k : Int) ∧ Below W3.heap.size W3 wr ∧ wr.ownsRow W3.heap.size 2 1 mv k (((upL m).take k).map (Value.int .i64)))
        case atStart => exact ⟨0, rfl, rfl, Below.refl _ _, World.ownsRow_nil _ _ _ _⟩
        case round =>
          obtain ⟨k, hg, rfl, hnx, hown⟩ := hrel
          have hs1 := HZ.out
          have k1' : wr.cell? ⟨w.heap.size + 2, 1, none⟩ = some (.int .i64 (m : Int)) := (hnx.cell (p := ⟨w.heap.size + 2, 1, none⟩) (by show w.heap.size + 2 < _; omega)).trans k1
          by_cases hlt : k < m
          · have HST := hide (take_map_step (upL m) k (by rw [upL_len]; exact hlt))
            rw [upL_at m k hlt] at HST
            have OWN := hown.alloc (.cells #[.int .i64 (k : Int)] 2)
            have HNW : Hid (∀ i u, [Value.int .i64 (k : Int)][i]? = some u → (wr.alloc (.cells #[.int .i64 (k : Int)] 2)).cell? ((⟨wr.heap.size, 0, none⟩ : Addr).add i) = some u) := by
              intro i u hu
              rw [add_off, Nat.zero_add]
              exact cell_new0 wr _ 2 i u (by simpa using hu)
            have HZ2 : Hid (W3.heap.size ≤ (wr.alloc (.cells #[.int .i64 (k : Int)] 2)).heap.size) := Nat.le_trans hnx.size (one_alloc _ _).size
            have HNX := hide (hnx.trans ((one_alloc wr (.cells #[.int .i64 (k : Int)] 2)).mono hnx.size))
            clear hown hs1
            go_wp2_with (at_builtin; refine wpList_append_B rfl _ _ 47 rfl W3.heap.size 2 i2 (.int .i64 0) 1 8 Try.underlying47 hi2 hz20 hz21 hz22 rfl (by decide) _ _ _ rfl OWN ⟨wr.heap.size, 0, none⟩ 1 1 [.int .i64 (k : Int)] rfl rfl HNW.out ?c2 ?c3 ?c4 HZ2.out ?_)
            case c2 =>
              intro u hu
              simp at hu
              subst hu
              rfl
            case c3 => unfold maxLen; omega
            case c4 => omega
            intro v' w1 hown1 hb1
            have hown2 : w1.ownsRow W3.heap.size 2 1 v' (k + 1) (((upL m).take (k + 1)).map (Value.int .i64)) := by rw [HST.out]; simpa using hown1
            have HF := hide (And.intro (HNX.out.trans hb1) hown2)
            clear hown1 hown2 hb1 OWN HNW HZ2 HNX HST hnx k1'
            go_wp2
            go_roundg (m - (k + 1))
            case rel => exact ⟨k + 1, by omega, by go_num, HF.out⟩
            case measure => omega
          · have hke : k = m := by omega
            subst hke
            rw [List.take_of_length_le (by rw [upL_len]; omega)] at hown
            have hul : (upL k).length = k := upL_len k
            rw [← hul] at hown
            rw [hul] at hown
            obtain ⟨a', cap', rfl, RR⟩ := owns_rowE (upL k) (by rw [upL_len]; omega) (by rw [upL_len]; exact hown)
            have C := rnums_any n (upL k) a' cap' wr RR (by rw [upL_len]; omega)
            rw [upL_len] at C ⊢
            have HN := hide hnx
            clear hown hnx hs1 RR hul
            go_wp2_with fail
            refine C.mono ?_
            rintro e w1 ⟨⟨v, rfl, hv⟩, hb1⟩
            obtain ⟨y1, d1, y2, d2, rfl, -, -⟩ := hv.form
            have hs1 := HZ.out
            have I5 := HI4.out.belowS (HN.out.trans (hb1.mono HN.out.size)) (by omega)
            have p0 := I5.p0
            have p1 := I5.p1
            have f0 := I5.f0
            have f1 := I5.f1
            have HT := hide (I5.put (.slice y1 (numsA (upL k)).shape.length d1) (.slice y2 (numsA (upL k)).cells.length d2))
            have HF := hide (I5.give hv (by have := HN.out.size; omega))
            have HFI := hide I5.fin
            clear I5 hb1 hv C HN hs1 k1'
            generalize (numsA (upL k)).shape.length = SB at *
            generalize (numsA (upL k)).cells.length = CB at *
            go_wp2
            exact bodyPost_ret (v := .tuple #[.agg #[.slice y1 SB d1, .slice y2 CB d2], .int .i64 0]) (by simp [results, Try.results38, go_sem, HT.out.1, HT.out.2]) rfl (gives2_of HE5.out (HF.out _ _) (HFI.out _ _))
/-- append of whatever row behind a row of the call's own: no other block changes. -/
theorem wpList_append_G {P : Program} {w : World} {ops : Array Oper} {rest : List Oper} {o : Oper} {a : Act} {Q : Exit → Act → World → Prop} (hgd : o.guard = none) (s x : Operand) (t : TypeId)
    (ho : o.op = .call { callee := .builtin .append, args := #[s, x], argTypes := #[t, t] })
    (base : Nat) (e : TypeId) (i : TypeInfo) (z : Value) (size bytes : Nat) (ht : P.underlying t = some (.slice e)) (hi : P.info? e = some i) (hz : i.zero = some z)
    (hsize : i.size = size) (hby : i.bytes = bytes) (hzs : z.cells.size = size) (hsz : 0 < size)
    (v : Value) (n : Nat) (xs : List Value) (hs : a.eval s = v) (hown : w.ownsRow base e size v n xs)
    (ad : Option Addr) (m c : Nat) (news : List Value) (hx : a.eval x = .slice ad m c) (hl : news.length = m * size) (hnews : Lies w ad news)
    (h63 : n + m ≤ maxLen) (hbytes : (n + m) * bytes ≤ 140737488355328) (hbase : base ≤ w.heap.size)
    (h : ∀ v' w', w'.ownsRow base e size v' (n + m) (xs ++ news) → w.grownBy w' v.ownBlock → wpList P ops Q rest (a.put o.dst v') w') : wpList P ops Q (o :: rest) a w := by
  cases ad with
  | none =>
    have hn : news = [] := by
      rcases hnews.1 with h | ⟨p, hp, -⟩
      · exact h
      · cases hp
    subst hn
    have hm : m = 0 := by
      rcases Nat.eq_zero_or_pos m with h | h
      · exact h
      · have := Nat.mul_pos h hsz; simp at hl; omega
    subst hm
    exact wpList_append_run (by simp [Region.wanted, hgd]) s x t t ho _ _ hs hx v w (run_append_none_any base t o.type e i size ht hi v n c xs hown) (h v w (by simpa using hown) (World.grownBy.refl _ _))
  | some p =>
    have hc : ∀ j u, news[j]? = some u → w.cell? (p.add j) = some u := by
      rcases hnews.1 with h | ⟨q, hq, -, h⟩
      · subst h; intro j u hj; simp at hj
      · cases hq; exact h
    obtain ⟨v', w', hr, h2, h3, -⟩ := run_append_own (P := P) w base t o.type e i z size bytes ht hi hz hsize hby hzs hsz v n xs hown p m c news hl hc hnews.2 h63 hbytes hbase
    exact wpList_append_run (by simp [Region.wanted, hgd]) s x t t ho _ _ hs hx v' w' hr (h v' w' h2 h3)
/-- A store into a block of another type leaves a row as it is. -/
theorem owns_apart {e t : TypeId} {size n base k i : Nat} {w : World} {v : Value} {xs : List Value} {cs : Array Value} {f : Nat × Nat} (h : w.ownsRow base e size v n xs) (hk : w.heap[k]? = some (.cells cs t f)) (hne : t ≠ e) (u : Value) : (w.setCell ⟨k, i, none⟩ u).ownsRow base e size v n xs := by
  obtain ⟨h1, h2⟩ := h
  refine ⟨h1, ?_⟩
  rcases h2 with ⟨rfl, h2⟩ | ⟨g, cap, cur, rfl, hbg, hg, hn, hm, hs, ht⟩
  · exact Or.inl ⟨rfl, h2⟩
  · have hgk : g ≠ k := by
      intro e'
      rw [e', hk] at hg
      simp only [Option.some.injEq, Obj.cells.injEq] at hg
      exact hne hg.2.1
    exact Or.inr ⟨g, cap, cur, rfl, hbg, by rw [Below.heap_setCell _ _ _ _ (by show g ≠ k; exact hgk)]; exact hg, hn, hm, hs, ht⟩
theorem keeps_two (W : World) (s : Nat) (u v : Value) : Keeps (s + 2) W ((W.setCell ⟨s + 1, 0, none⟩ u).setCell ⟨s + 1, 1, none⟩ v) := ((Keeps.refl _ _).setCell (p := ⟨s + 1, 0, none⟩) (by show s + 1 < _; omega) u).setCell (p := ⟨s + 1, 1, none⟩) (by show s + 1 < _; omega) v
set_option maxHeartbeats 4000000 in
theorem rbox15 {n lo : Nat} {x : Ar} {va : Value} {w0 w : World} (hx : ArIn (n + 1) lo w0 x va) (hb0 : Below w0.heap.size w0 w) (hchk : chkA 8 x = 0) : Calls Try.prog 43 #[.int .i64 15, va] w fun e w' => Gives2Z (n + 2) w0 (enclR (n + 1) x).1 (enclR (n + 1) x).2 w e w' := by
  obtain ⟨a1, c1, a2, c2, rfl, R, hc⟩ := hx.form
  have I := in2_new w (.slice a1 x.shape.length c1) (.slice a2 x.cells.length c2)
  obtain ⟨W2, e2⟩ : ∃ W2, (w.alloc (.cells #[.slice a1 x.shape.length c1, .slice a2 x.cells.length c2] 25)).alloc (.cells #[.slice none 0 0, .slice none 0 0] 25) = W2 := ⟨_, rfl⟩
  have hz2 : W2.heap.size = w.heap.size + 2 := by rw [← e2]; simp
  rw [e2] at I
  have q0 := I.q0
  have q1 := I.q1
  have CD := rdeep_any (n + 1) 16 x _ _ W2 (by omega) (chk_thin16 hchk) (hx.next (hb0.trans (I.bel.mono hb0.size)))
  have HI := hide I
  have HX := hide hx
  have HE : Hid (enclR (n + 1) x = if 8 ≤ deepA (n + 1) x then (zeroA, 15) else (.mk [] [(2, 0, [x])], 0)) := rfl
  obtain ⟨SA, hSA⟩ : ∃ SA, x.shape.length = SA := ⟨_, rfl⟩
  obtain ⟨CA, hCA⟩ : ∃ CA, x.cells.length = CA := ⟨_, rfl⟩
  simp only [hSA, hCA] at CD e2 q0 q1 HI HX ⊢
  generalize deepA (n + 1) x = D at *
  clear R hc I hx hchk hSA hCA
  go_enter Try.func43, Try.ntmps43
  go_wp2_with fail
  clear e2 q0 q1
  refine CD.mono ?_
  rintro e w1 ⟨rfl, hb1⟩
  have I1 := HI.out.next hb1
  have q0 := I1.q0
  have q1 := I1.q1
  have HI1 := hide I1
  by_cases h8 : 8 ≤ D
  · have p0 := I1.p0
    have p1 := I1.p1
    have f0 := I1.f0
    have f1 := I1.f1
    have HT := hide (I1.put (.slice none 0 0) (.slice none 0 0))
    have HE5 : Hid (enclR (n + 1) x = (zeroA, 15)) := by unfold Hid; rw [HE.out, if_pos h8]
    clear I1 hb1 CD HI HX HE q0 q1
    go_wp2
    exact bodyPost_ret (v := .tuple #[.agg #[.slice none 0 0, .slice none 0 0], .int .i64 15]) (by simp [results, Try.results43, go_sem, HT.out.1, HT.out.2]) rfl (gives2z_of HE5.out (fun _ _ _ => zeroA_in _ _ _) (HI1.out.fin _ _))
  · have HE5 : Hid (enclR (n + 1) x = (.mk [] [(2, 0, [x])], 0)) := by unfold Hid; rw [HE.out, if_neg h8]
    obtain ⟨W3, e3⟩ : ∃ W3, w1.alloc (.cells #[.slice a1 SA c1, .slice a2 CA c2] 25) = W3 := ⟨_, rfl⟩
    obtain ⟨W4, e4⟩ : ∃ W4, W3.alloc (.cells #[.int .i64 2, .int .i64 0, .slice (some ⟨w1.heap.size, 0, none⟩) 1 1] 36) = W4 := ⟨_, rfl⟩
    have B3 : Below w1.heap.size w1 W3 := by rw [← e3]; exact one_alloc _ _
    have z3 : W3.heap.size = w1.heap.size + 1 := by rw [← e3]; simp
    have B4 : Below W3.heap.size W3 W4 := by rw [← e4]; exact one_alloc _ _
    have z4 : W4.heap.size = w1.heap.size + 2 := by rw [← e4]; simp [z3]
    have B24 : Below w1.heap.size w1 W4 := B3.trans (B4.mono (by omega))
    have o0 : W3.cell? ⟨w1.heap.size, 0, none⟩ = some (.slice a1 SA c1) := by rw [← e3]; exact cell_new0 w1 _ 25 0 _ rfl
    have o1 : W3.cell? ⟨w1.heap.size, 1, none⟩ = some (.slice a2 CA c2) := by rw [← e3]; exact cell_new0 w1 _ 25 1 _ rfl
    have v0 : W4.cell? ⟨w1.heap.size + 1, 0, none⟩ = some (.int .i64 2) := by rw [← z3, ← e4]; exact cell_new0 W3 _ 36 0 _ rfl
    have v1 : W4.cell? ⟨w1.heap.size + 1, 1, none⟩ = some (.int .i64 0) := by rw [← z3, ← e4]; exact cell_new0 W3 _ 36 1 _ rfl
    have v2 : W4.cell? ⟨w1.heap.size + 1, 2, none⟩ = some (.slice (some ⟨w1.heap.size, 0, none⟩) 1 1) := by rw [← z3, ← e4]; exact cell_new0 W3 _ 36 2 _ rfl
    have n0 := (B4.cell (p := ⟨w1.heap.size, 0, none⟩) (by show w1.heap.size < _; omega)).trans o0
    have n1 := (B4.cell (p := ⟨w1.heap.size, 1, none⟩) (by show w1.heap.size < _; omega)).trans o1
    have I4 := I1.next B24
    have hs1 := I1.size
    have HF : Hid (∀ u v W, Below w0.heap.size w0 W → Keeps w.heap.size ((W4.setCell ⟨w.heap.size + 1, 0, none⟩ u).setCell ⟨w.heap.size + 1, 1, none⟩ v) W → ArIn (n + 2) 0 W (.mk [] [(2, 0, [x])]) (.agg #[.slice none 0 0, .slice (some ⟨w1.heap.size + 1, 0, none⟩) 1 1])) := by
      intro u v W hW hK
      have K := (keeps_two W4 w.heap.size u v).trans (hK.mono (show w.heap.size ≤ w.heap.size + 2 by omega))
      have hk := K.1
      have ap : ∀ (g o : Nat) (q : Value), w.heap.size + 2 ≤ g → g < W4.heap.size → W4.cell? ⟨g, o, none⟩ = some q → W.cell? ⟨g, o, none⟩ = some q := fun g o q h1 h2 h => (K.cell (p := ⟨g, o, none⟩) h1 h2).trans h
      exact box_in (hx := (HX.out.mono (Nat.zero_le _) hW)) (Nat.zero_le _) (Nat.zero_le _) (by omega) (by omega) (ap _ _ _ (by omega) (by omega) n0) (ap _ _ _ (by omega) (by omega) n1) (ap _ _ _ (by omega) (by omega) v0) (ap _ _ _ (by omega) (by omega) v1) (ap _ _ _ (by omega) (by omega) v2)
    have p0 := I4.p0
    have p1 := I4.p1
    have f0 := I4.f0
    have f1 := I4.f1
    have HT := hide (I4.put (.slice none 0 0) (.slice (some ⟨w1.heap.size + 1, 0, none⟩) 1 1))
    have HFI := hide I4.fin
    clear I4 HI1 I1 B3 B4 B24 o0 o1 v0 v1 v2 n0 n1 z4 hz2 hb1 CD HI HE hs1
    go_wp2
    exact bodyPost_ret (v := .tuple #[.agg #[.slice none 0 0, .slice (some ⟨w1.heap.size + 1, 0, none⟩) 1 1], .int .i64 0]) (by simp [results, Try.results43, go_sem, HT.out.1, HT.out.2]) rfl (gives2z_of HE5.out (HF.out _ _) (HFI.out _ _))
set_option maxHeartbeats 4000000 in
theorem rbox16 {n lo : Nat} {x : Ar} {va : Value} {w0 w : World} (hx : ArIn (n + 1) lo w0 x va) (hb0 : Below w0.heap.size w0 w) (hchk : chkA 8 x = 0) : Calls Try.prog 43 #[.int .i64 16, va] w fun e w' => Gives2Z (n + 1) w0 (discR x).1 (discR x).2 w e w' := by
  obtain ⟨a1, c1, a2, c2, rfl, R, hc⟩ := hx.form
  have I := in2_new w (.slice a1 x.shape.length c1) (.slice a2 x.cells.length c2)
  obtain ⟨W2, e2⟩ : ∃ W2, (w.alloc (.cells #[.slice a1 x.shape.length c1, .slice a2 x.cells.length c2] 25)).alloc (.cells #[.slice none 0 0, .slice none 0 0] 25) = W2 := ⟨_, rfl⟩
  rw [e2] at I
  have q0 := I.q0
  have q1 := I.q1
  have hl := R.1
  have p0 := I.p0
  have p1 := I.p1
  have f0 := I.f0
  have f1 := I.f1
  have HI := hide I
  by_cases h0 : 0 < x.shape.length
  · have HE5 : Hid (discR x = (zeroA, 6)) := by unfold discR Hid; rw [if_pos h0]
    clear R hc hx hchk
    generalize x.shape.length = SA at *
    generalize x.cells.length = CA at *
    have HT := hide (I.put (.slice none 0 0) (.slice none 0 0))
    have h1 : (0 : Int) < (SA : Int) := by omega
    clear I
    go_enter Try.func43, Try.ntmps43
    go_wp2
    exact bodyPost_ret (v := .tuple #[.agg #[.slice none 0 0, .slice none 0 0], .int .i64 6]) (by simp [results, Try.results43, go_sem, HT.out.1, HT.out.2]) rfl (gives2z_of HE5.out (fun _ _ _ => zeroA_in _ _ _) (HI.out.fin _ _))
  · obtain ⟨-, hone⟩ := atom_one hchk (by omega)
    obtain ⟨ab, cb, hcf⟩ := cells_fn hc
    obtain ⟨b, off, rfl, -, hb, hcells⟩ := hcf (by omega)
    obtain ⟨g0, g1, g2, g3⟩ := hcells 0 (by omega)
    simp only [Nat.zero_mul, Nat.add_zero] at g0 g1 g2
    have HE : Hid (discR x = if (cAt x.cells 0).1 = 2 then (bAt (cAt x.cells 0).2.2 0, 0) else (x, 0)) := by unfold discR Hid; rw [if_neg h0]
    have hs0 : x.shape.length = 0 := by omega
    have hck := ((chkA_iff 8 x).1 hchk).2.2.2 0 (by omega)
    simp only [hs0, hone] at q0 q1 HI I hx e2 ⊢
    have hbI := hb0.trans (I.bel.mono hb0.size)
    have r0 := (hbI.cell (p := ⟨b, off, none⟩) hb).trans g0
    have r1 := (hbI.cell (p := ⟨b, off + 1, none⟩) hb).trans g1
    have r2 := (hbI.cell (p := ⟨b, off + 2, none⟩) hb).trans g2
    have HX := hide hx
    have HBX : Hid ((cAt x.cells 0).1 = 2 → ∃ b off cap u0 u1, (cAt x.cells 0).2.2.length = 1 ∧ Value.slice (ab 0) (cAt x.cells 0).2.2.length (cb 0) = .slice (some ⟨b, off, none⟩) 1 cap ∧ b < w0.heap.size ∧ w0.cell? ⟨b, off, none⟩ = some u0 ∧ w0.cell? ⟨b, off + 1, none⟩ = some u1 ∧ ArIn n lo w0 (bAt (cAt x.cells 0).2.2 0) (.agg #[u0, u1]) ∧ chkA 7 (bAt (cAt x.cells 0).2.2 0) = 0) := fun h2 => box_of (inF 8) g3 hck h2
    clear hcells hcf hc R hx hchk g0 g1 g2 g3 hck
    obtain ⟨nb, hnb⟩ : ∃ nb, (cAt x.cells 0).2.2.length = nb := ⟨_, rfl⟩
    rw [hnb] at HBX r2
    generalize ab 0 = ab0 at *
    generalize cb 0 = cb0 at *
    obtain ⟨c, hcc⟩ : ∃ c, cAt x.cells 0 = c := ⟨_, rfl⟩
    rw [hcc] at HBX HE r0 r1
    clear hcc hnb
    by_cases h2 : c.1 = 2
    · obtain ⟨bb, ob, cap, u0, u1, hnb, hsl, hbb, t0, t1, hin, hch⟩ := HBX.out h2
      simp only [Value.slice.injEq] at hsl
      obtain ⟨rfl, rfl, rfl⟩ := hsl
      have k0 := (hbI.cell (p := ⟨bb, ob, none⟩) hbb).trans t0
      have k1 := (hbI.cell (p := ⟨bb, ob + 1, none⟩) hbb).trans t1
      cases n with
      | zero => exact hin.elim
      | succ n =>
      obtain ⟨v1, n1, v2, n2, hv, -, -⟩ := hin.form
      simp only [Value.agg.injEq, Array.mk.injEq, List.cons.injEq, and_true] at hv
      obtain ⟨rfl, rfl⟩ := hv
      have HE5 : Hid (discR x = (bAt c.2.2 0, 0)) := by unfold Hid; rw [HE.out, if_pos h2]
      have HIN := hide hin
      generalize bAt c.2.2 0 = y at *
      rw [h2] at r0
      have HT := hide (I.put (.slice v1 y.shape.length n1) (.slice v2 y.cells.length n2))
      clear I HBX HX HE h2 hin hch t0 t1 hnb
      generalize y.shape.length = YS at *
      generalize y.cells.length = YC at *
      go_enter Try.func43, Try.ntmps43
      go_wp2
      exact bodyPost_ret (v := .tuple #[.agg #[.slice v1 YS n1, .slice v2 YC n2], .int .i64 0]) (by simp [results, Try.results43, go_sem, HT.out.1, HT.out.2]) rfl (gives2z_of HE5.out (fun _ hW _ => (HIN.out.mono (Nat.zero_le _) hW).deeper) (HI.out.fin _ _))
    · have HE5 : Hid (discR x = (x, 0)) := by unfold Hid; rw [HE.out, if_neg h2]
      have HT := hide (I.put (.slice a1 0 c1) (.slice (some ⟨b, off, none⟩) 1 c2))
      have h2b : (c.1 == 2) = false := beq_eq_false_iff_ne.2 h2
      clear I HBX HE
      generalize c.1 = ck at *
      generalize c.2.1 = cN at *
      go_enter Try.func43, Try.ntmps43
      go_wp2
      exact bodyPost_ret (v := .tuple #[.agg #[.slice a1 0 c1, .slice (some ⟨b, off, none⟩) 1 c2], .int .i64 0]) (by simp [results, Try.results43, go_sem, HT.out.1, HT.out.2]) rfl (gives2z_of HE5.out (fun _ hW _ => HX.out.mono (Nat.zero_le _) hW) (HI.out.fin _ _))
set_option maxHeartbeats 4000000 in
theorem rbox17 {n lo : Nat} {x : Ar} {va : Value} {w0 w : World} (hx : ArIn (n + 1) lo w0 x va) (hb0 : Below w0.heap.size w0 w) (hchk : chkA 8 x = 0) (hcap : Caps va) : Calls Try.prog 43 #[.int .i64 17, va] w fun e w' => Gives2Z (n + 1) w0 (firstR x).1 (firstR x).2 w e w' := by
  obtain ⟨a1, c1, a2, c2, rfl, R, hc⟩ := hx.form
  have I := in2_new w (.slice a1 x.shape.length c1) (.slice a2 x.cells.length c2)
  obtain ⟨W2, e2⟩ : ∃ W2, (w.alloc (.cells #[.slice a1 x.shape.length c1, .slice a2 x.cells.length c2] 25)).alloc (.cells #[.slice none 0 0, .slice none 0 0] 25) = W2 := ⟨_, rfl⟩
  have hz2 : W2.heap.size = w.heap.size + 2 := by rw [← e2]; simp
  rw [e2] at I
  have q0 := I.q0
  have q1 := I.q1
  have p0 := I.p0
  have p1 := I.p1
  have f0 := I.f0
  have f1 := I.f1
  have HI := hide I
  have HX := hide hx
  obtain ⟨l8, c16⟩ := chk_len hchk
  have HE : Hid (firstR x = if tallyN x = 0 then (zeroA, 8) else if x.shape.length = 0 then (x, 0) else (itemR x, 0)) := rfl
  by_cases hS0 : x.shape.length = 0
  · have ht : tallyN x = 1 := by unfold tallyN; rw [if_pos hS0]
    have HE5 : Hid (firstR x = (x, 0)) := by unfold Hid; rw [HE.out, ht, if_neg (by decide), if_pos hS0]
    simp only [hS0] at q0 q1 HI I HX e2 ⊢
    have HT := hide (I.put (.slice a1 0 c1) (.slice a2 x.cells.length c2))
    clear I HE R hc hx ht hS0 hcap hchk l8
    generalize x.cells.length = CA at *
    go_enter Try.func43, Try.ntmps43
    go_wp2
    exact bodyPost_ret (v := .tuple #[.agg #[.slice a1 0 c1, .slice a2 CA c2], .int .i64 0]) (by simp [results, Try.results43, go_sem, HT.out.1, HT.out.2]) rfl (gives2z_of HE5.out (fun _ hW _ => HX.out.mono (Nat.zero_le _) hW) (HI.out.fin _ _))
  · obtain ⟨b, off, rfl, hb, hcz⟩ := row_at R (j := 0) (by omega)
    have u0 := ((hb0.trans (I.bel.mono hb0.size)).cell (p := ⟨b, off + 0, none⟩) hb).trans hcz
    have et : x.shape[0]?.getD 0 = tallyN x := by unfold tallyN; rw [if_neg hS0]; rfl
    rw [et, Nat.add_zero] at u0
    by_cases hT0 : tallyN x = 0
    · have HE5 : Hid (firstR x = (zeroA, 8)) := by unfold Hid; rw [HE.out, if_pos hT0]
      have HT := hide (I.put (.slice none 0 0) (.slice none 0 0))
      rw [hT0] at u0
      have hSb : ((x.shape.length : Int) == 0) = false := by simp; exact fun h => hS0 (by rw [h]; rfl)
      have hS1 : 0 < x.shape.length := by omega
      clear I HE R hc hx hcap hchk hS0 et hcz hT0 HX
      generalize x.cells.length = CA at *
      generalize x.shape.length = SA at *
      go_enter Try.func43, Try.ntmps43
      go_wp2
      exact bodyPost_ret (v := .tuple #[.agg #[.slice none 0 0, .slice none 0 0], .int .i64 8]) (by simp [results, Try.results43, go_sem, HT.out.1, HT.out.2]) rfl (gives2z_of HE5.out (fun _ _ _ => zeroA_in _ _ _) (HI.out.fin _ _))
    · obtain ⟨i1, i2, i3, i4, i5, i6⟩ := item_facts hchk (by omega) hT0
      have HE5 : Hid (firstR x = (itemR x, 0)) := by unfold Hid; rw [HE.out, if_neg hT0, if_neg hS0]
      have hle : x.cells.length / (tallyN x).toNat ≤ x.cells.length := Nat.div_le_self _ _
      have C := ritem_any (i := 0) (m := x.cells.length / (tallyN x).toNat) hx (hb0.trans (I.bel.mono hb0.size)) (by omega) l8 i6 (by omega) c16 (by omega) hcap
      have eit : itemAt x 0 (x.cells.length / (tallyN x).toNat) = itemR x := by unfold itemAt itemR; rw [Nat.zero_mul, List.drop_zero]
      rw [eit] at C
      have hTb : (tallyN x == 0) = false := beq_eq_false_iff_ne.2 hT0
      have hSb : ((x.shape.length : Int) == 0) = false := by simp; exact fun h => hS0 (by rw [h]; rfl)
      have hS1 : 0 < x.shape.length := by omega
      clear I HE R hc hx hcap hchk hS0 et hcz HX eit hle i1 i2 i3 i4 i5 i6
      generalize tallyN x = T at *
      generalize x.cells.length = CA at *
      generalize x.shape.length = SA at *
      go_enter Try.func43, Try.ntmps43
      go_wp2_with fail
      refine C.mono ?_
      rintro e w1 ⟨⟨v, rfl, hv⟩, hb1⟩
      obtain ⟨z1, m1, z2, m2, rfl, -, -⟩ := (hv w1 (hb0.trans ((HI.out.bel.trans (hb1.mono HI.out.bel.size)).mono hb0.size)) (Keeps.refl _ _)).form
      have I1 := HI.out.next hb1
      clear p0 p1 f0 f1
      have p0 := I1.p0
      have p1 := I1.p1
      have f0 := I1.f0
      have f1 := I1.f1
      have HT := hide (I1.put (.slice z1 (itemR x).shape.length m1) (.slice z2 (itemR x).cells.length m2))
      have HV : Hid (∀ u v W, Below w0.heap.size w0 W → Keeps w.heap.size ((w1.setCell ⟨w.heap.size + 1, 0, none⟩ u).setCell ⟨w.heap.size + 1, 1, none⟩ v) W → ArIn (n + 1) 0 W (itemR x) (.agg #[.slice z1 (itemR x).shape.length m1, .slice z2 (itemR x).cells.length m2])) := by
        intro u v W hW hK
        refine hv W hW ?_
        rw [hz2]
        exact (keeps_two w1 w.heap.size u v).trans (hK.mono (show w.heap.size ≤ w.heap.size + 2 by omega))
      have HFI := hide I1.fin
      clear I1 hv hb1 C HI hz2 e2 q0 q1 u0
      generalize (itemR x).shape.length = SI at *
      generalize (itemR x).cells.length = CI at *
      go_wp2
      exact bodyPost_ret (v := .tuple #[.agg #[.slice z1 SI m1, .slice z2 CI m2], .int .i64 0]) (by simp [results, Try.results43, go_sem, HT.out.1, HT.out.2]) rfl (gives2z_of HE5.out (HV.out _ _) (HFI.out _ _))
set_option maxHeartbeats 4000000 in
theorem rbox18 {n lo : Nat} {x : Ar} {va : Value} {w0 w : World} (hx : ArIn (n + 1) lo w0 x va) (hb0 : Below w0.heap.size w0 w) (hchk : chkA 8 x = 0) : Calls Try.prog 43 #[.int .i64 18, va] w fun e w' => Gives2Z (n + 1) w0 (listR x).1 (listR x).2 w e w' := by
  obtain ⟨a1, c1, a2, c2, rfl, R, hc⟩ := hx.form
  obtain ⟨i3, hi3, hz30, hz31, hz32⟩ := infoI3
  have I := in2_new w (.slice a1 x.shape.length c1) (.slice a2 x.cells.length c2)
  obtain ⟨W2, e2⟩ : ∃ W2, (w.alloc (.cells #[.slice a1 x.shape.length c1, .slice a2 x.cells.length c2] 25)).alloc (.cells #[.slice none 0 0, .slice none 0 0] 25) = W2 := ⟨_, rfl⟩
  have hz2 : W2.heap.size = w.heap.size + 2 := by rw [← e2]; simp
  rw [e2] at I
  have q0 := I.q0
  have q1 := I.q1
  have p0 := I.p0
  have p1 := I.p1
  have f0 := I.f0
  have f1 := I.f1
  have HI := hide I
  have HX := hide hx
  have HB0 := hide hb0
  obtain ⟨l8, c16⟩ := chk_len hchk
  have HE : Hid (listR x = if 8 ≤ x.shape.length then (zeroA, 6) else (.mk (1 :: x.shape) x.cells, 0)) := rfl
  by_cases h8 : 8 ≤ x.shape.length
  · have HE5 : Hid (listR x = (zeroA, 6)) := by unfold Hid; rw [HE.out, if_pos h8]
    have h88 : x.shape.length = 8 := by omega
    simp only [h88] at q0 q1 HI I HX e2 ⊢
    have HT := hide (I.put (.slice none 0 0) (.slice none 0 0))
    clear I HE R hc hx h8 h88 hchk l8
    generalize x.cells.length = CA at *
    go_enter Try.func43, Try.ntmps43
    go_wp2
    exact bodyPost_ret (v := .tuple #[.agg #[.slice none 0 0, .slice none 0 0], .int .i64 6]) (by simp [results, Try.results43, go_sem, HT.out.1, HT.out.2]) rfl (gives2z_of HE5.out (fun _ _ _ => zeroA_in _ _ _) (HI.out.fin _ _))
  · have HE5 : Hid (listR x = (.mk (1 :: x.shape) x.cells, 0)) := by unfold Hid; rw [HE.out, if_neg h8]
    obtain ⟨W3, e3⟩ : ∃ W3, W2.alloc (.cells #[.int .i64 1] 3) = W3 := ⟨_, rfl⟩
    have B3 : Below W2.heap.size W2 W3 := by rw [← e3]; exact one_alloc _ _
    have z3 : W3.heap.size = w.heap.size + 3 := by rw [← e3]; simp [hz2]
    obtain ⟨W4, e4⟩ : ∃ W4, W3.alloc (.cells #[.slice (some ⟨w.heap.size + 2, 0, none⟩) 1 1, .slice a2 x.cells.length c2] 25) = W4 := ⟨_, rfl⟩
    have B4 : Below W3.heap.size W3 W4 := by rw [← e4]; exact one_alloc _ _
    have z4 : W4.heap.size = w.heap.size + 4 := by rw [← e4]; simp [z3]
    have I4 := (I.next B3).next B4
    have OW3 : W3.ownsRow (w.heap.size + 2) 3 1 (.slice (some ⟨w.heap.size + 2, 0, none⟩) 1 1) 1 [.int .i64 1] := by
      have := World.ownsRow_lit (base := w.heap.size + 2) (e := 3) (size := 1) W2 #[.int .i64 1] 1 (by omega) (by unfold maxLen; omega) rfl
      rw [e3, hz2] at this
      exact this
    have OW4 : W4.ownsRow (w.heap.size + 2) 3 1 (.slice (some ⟨w.heap.size + 2, 0, none⟩) 1 1) 1 [.int .i64 1] := owns_below OW3 B4
    have m0 : W4.cell? ⟨w.heap.size + 3, 0, none⟩ = some (.slice (some ⟨w.heap.size + 2, 0, none⟩) 1 1) := by rw [← e4, ← z3]; exact cell_new0 W3 _ 25 0 _ rfl
    have m1 : W4.cell? ⟨w.heap.size + 3, 1, none⟩ = some (.slice a2 x.cells.length c2) := by rw [← e4, ← z3]; exact cell_new0 W3 _ 25 1 _ rfl
    have mf0 : W4.frozen? ⟨w.heap.size + 3, 0, none⟩ = false := by rw [← e4, ← z3]; exact frozen_new W3 _ 25 0
    have hbk : W4.heap[w.heap.size + 3]? = some (.cells #[.slice (some ⟨w.heap.size + 2, 0, none⟩) 1 1, .slice a2 x.cells.length c2] 25) := by rw [← e4, ← z3]; show (W3.heap.push _)[W3.heap.size]? = _; simp
    have q04 := I4.q0
    have HL4 : Hid (Lies W4 a1 (x.shape.map (Value.int .i64))) := Lies.row_next R (hb0.trans (I4.bel.mono hb0.size))
    have hsl : (x.shape.map (Value.int .i64)).length = x.shape.length * 1 := by rw [List.length_map]; omega
    have HI4 := hide I4
    have HSL : Hid (x.shape.length < 8) := by unfold Hid; omega
    obtain ⟨SA, hSA⟩ : ∃ SA, x.shape.length = SA := ⟨_, rfl⟩
    have hSb : ((SA : Int) == 8) = false := by simp; omega
    have HSA := hide hSA
    simp only [hSA] at q0 q1 HI I4 HI4 HX e2 hsl HSL q04 ⊢
    have hS8 : SA < 8 := HSL.out
    have HE34 := hide (And.intro e3 e4)
    have HZ := hide (And.intro z3 z4)
    clear I HE R hc hx h8 hchk l8 B3 B4 OW3 I4 hSA z3 z4 e3 e4
    generalize hCA : x.cells.length = CA at *
    go_enter Try.func43, Try.ntmps43
    have hmk : (W2.alloc (.cells #[.int .i64 1] 3)).alloc (.cells #[.slice (some ⟨w.heap.size + 2, 0, none⟩) 1 1, .slice a2 CA c2] 25) = W4 := by rw [HE34.out.1]; exact HE34.out.2
    go_wp2_with (at_builtin; refine wpList_append_G rfl _ _ 22 rfl (w.heap.size + 2) 3 i3 (.int .i64 0) 1 8 Try.underlying22 hi3 hz30 hz31 hz32 rfl (by decide) (.slice (some ⟨w.heap.size + 2, 0, none⟩) 1 1) 1 [.int .i64 1] rfl ?c1 a1 SA c1 (x.shape.map (Value.int .i64)) rfl hsl ?c2 ?c3 ?c4 ?c5 ?_)
    case c1 => exact OW4
    case c2 => exact HL4.out
    case c3 => unfold maxLen; omega
    case c4 => omega
    case c5 => have := HZ.out.2; omega
    intro v' w5 hown5 hg5
    have hz := HZ.out.2
    have hb5s := hg5.size
    have hob : (Value.slice (some ⟨w.heap.size + 2, 0, none⟩) 1 1).ownBlock = some (w.heap.size + 2) := rfl
    rw [hob] at hg5
    have hb5 : Below (w.heap.size + 2) W4 w5 := ⟨hg5.os, hg5.tape, hg5.output, hg5.size, fun k hk => hg5.block k (by omega) (by simp; omega)⟩
    have m0' : w5.cell? ⟨w.heap.size + 3, 0, none⟩ = some (.slice (some ⟨w.heap.size + 2, 0, none⟩) 1 1) := hg5.cell m0 (by simp)
    have m1' : w5.cell? ⟨w.heap.size + 3, 1, none⟩ = some (.slice a2 CA c2) := hg5.cell m1 (by simp)
    have mf0' : w5.frozen? ⟨w.heap.size + 3, 0, none⟩ = false := (World.frozen?_of_block (w := W4) (hg5.block (w.heap.size + 3) (by omega) (by simp))).trans mf0
    have hown6 : w5.ownsRow (w.heap.size + 2) 3 1 v' (1 :: x.shape).length ((1 :: x.shape).map (Value.int .i64)) := by
      have e : (1 :: x.shape).length = 1 + SA := by rw [List.length_cons, HSA.out]; omega
      rw [e]; exact hown5
    obtain ⟨al, cl, hal, RL⟩ := owns_rowE (1 :: x.shape) (by rw [List.length_cons, HSA.out]; omega) hown6
    have el : (1 :: x.shape).length = SA + 1 := by rw [List.length_cons, HSA.out]
    rw [el] at hal
    subst hal
    obtain ⟨w6, e6⟩ : ∃ w6, w5.setCell ⟨w.heap.size + 3, 0, none⟩ (.slice al (SA + 1) cl) = w6 := ⟨_, rfl⟩
    have I6 : In2 w (.slice a1 SA c1) (.slice a2 CA c2) w6 := by rw [← e6]; exact (HI4.out.belowS hb5 (Nat.le_refl _)).set (by omega) _
    have s0 : w6.cell? ⟨w.heap.size + 3, 0, none⟩ = some (.slice al (SA + 1) cl) := by rw [← e6]; exact World.cell?_setCell_same' _ _ _ (by rw [m0']; rfl)
    have s1 : w6.cell? ⟨w.heap.size + 3, 1, none⟩ = some (.slice a2 CA c2) := by rw [← e6, World.cell?_setCell_other _ _ _ _ (by simp)]; exact m1'
    have hown7 : w6.ownsRow (w.heap.size + 2) 3 1 (.slice al (SA + 1) cl) (1 :: x.shape).length ((1 :: x.shape).map (Value.int .i64)) := by
      rw [← e6]
      exact owns_apart hown6 ((hg5.block (w.heap.size + 3) (by omega) (by simp)).trans hbk) (by decide) _
    have p0 := I6.p0
    have p1 := I6.p1
    have f0 := I6.f0
    have f1 := I6.f1
    have HT := hide (I6.put (.slice al (SA + 1) cl) (.slice a2 CA c2))
    have HF : Hid (∀ u v W, Below w0.heap.size w0 W → Keeps w.heap.size ((w6.setCell ⟨w.heap.size + 1, 0, none⟩ u).setCell ⟨w.heap.size + 1, 1, none⟩ v) W → ArIn (n + 1) 0 W (.mk (1 :: x.shape) x.cells) (.agg #[.slice al (SA + 1) cl, .slice a2 CA c2])) := by
      intro u v W hW hK
      have K := (keeps_two w6 w.heap.size u v).trans (hK.mono (show w.heap.size ≤ w.heap.size + 2 by omega))
      have hown8 := owns_keeps hown7 K (Nat.le_refl _)
      obtain ⟨al', cl', hal', RL'⟩ := owns_rowE (1 :: x.shape) (by rw [el]; omega) hown8
      rw [el] at hal'
      simp only [Value.slice.injEq] at hal'
      obtain ⟨rfl, -, rfl⟩ := hal'
      have hxx := HX.out
      rw [← HSA.out, ← hCA] at hxx
      obtain ⟨y1, d1, y2, d2, hv, -, hcc⟩ := hxx.form
      simp only [Value.agg.injEq, Array.mk.injEq, List.cons.injEq, Value.slice.injEq, and_true] at hv
      obtain ⟨-, rfl, -, rfl⟩ := hv
      exact arIn_mk (x := .mk (1 :: x.shape) x.cells) (RL'.low (Nat.zero_le _)) (by show x.cells.length ≤ _; omega) (hcc.mono (Nat.zero_le _) hW) el hCA
    have HFI := hide I6.fin
    clear I6 hown5 hown6 hown7 hg5 hb5 m0 m1 mf0 m1' RL hbk e2 hmk HE34 HL4 q0 q1 q04 hz2 HI
    go_wp2
    exact bodyPost_ret (v := .tuple #[.agg #[.slice al (SA + 1) cl, .slice a2 CA c2], .int .i64 0]) (by simp [results, Try.results43, go_sem, HT.out.1, HT.out.2]) rfl (gives2z_of HE5.out (HF.out _ _) (HFI.out _ _))
end Go.Proofs.Ytmjncdhahdpplaa
namespace Go.Proofs.Ytmjncdhahdpplaa
open Go.ChangeShapes Go.WideShapes Go.ChangeAt Go.RowKit
set_option linter.unusedVariables false
set_option maxRecDepth 100000
/-- A row of the call's own, which may be written. -/
def Own1 (w w' : World) (a : Option Addr) (cap : Nat) (l : List Int) : Prop := l.length ≤ cap ∧ (0 < l.length → ∃ g, a = some ⟨g, 0, none⟩ ∧ w.heap.size ≤ g ∧ g < w'.heap.size ∧ SoftC w' g l) ∧ Row w.heap.size w' a l
theorem own1_of {w w' : World} {v : Value} {l : List Int} (hl : l.length ≤ 16384) (h : w'.ownsRow w.heap.size 3 1 v l.length (l.map (Value.int .i64))) : ∃ a cap, v = .slice a l.length cap ∧ Own1 w w' a cap l := by
  obtain ⟨a, cap, rfl, hc⟩ := owns_cap h
  obtain ⟨a', cap', he, RR⟩ := owns_rowE l (by omega) h
  simp only [Value.slice.injEq] at he
  obtain ⟨rfl, -, rfl⟩ := he
  refine ⟨a, cap, rfl, hc, fun h0 => ?_, RR⟩
  obtain ⟨g, cp, hg, h1, h2⟩ := owns_form1' h h0
  simp only [Value.slice.injEq] at hg
  obtain ⟨rfl, -, rfl⟩ := hg
  exact ⟨g, rfl, h1, h2, owns_softC rfl h⟩
set_option maxHeartbeats 4000000 in
theorem clone_any {lo : Nat} (l : List Int) (a : Option Addr) (cap : Nat) (w : World) (R : Row lo w a l) (hl : l.length ≤ 16) :
    Calls Try.prog 106 #[.slice a l.length cap] w fun e w' => (∃ a' cap', e = .returned (.slice a' l.length cap') ∧ Own1 w w' a' cap' l) ∧ Below w.heap.size w w' := by
  obtain ⟨i3, hi3, hz30, hz31, hz32⟩ := infoI3
  cases a with
  | none =>
    have h0 : l = [] := by
      rcases R.2 with h | ⟨b, o, h, -⟩
      · exact h
      · cases h
    subst h0
    have HO : Hid (Own1 w w none 0 []) := ⟨by simp, fun h => by simp at h, row_nil _ _ _⟩
    clear R
    simp only [List.length_nil]
    have hq : ∀ W, (binOp .eql 22 (.slice none 0 cap) (.slice none 0 0)).run Try.prog W = .ok (.bool true) W := fun W => Go.Lib.run_eql_slice_nil W 22 3 none 0 cap 0 0 Try.underlying22
    go_enter Try.func106, Try.ntmps106
    go_wp2
    go_ret
    exact ⟨⟨_, _, rfl, HO.out⟩, Below.refl _ _⟩
  | some p =>
    obtain ⟨W2, e2⟩ : ∃ W2, w.alloc (.cells #[] 3) = W2 := ⟨_, rfl⟩
    have B2 : Below w.heap.size w W2 := by rw [← e2]; exact one_alloc _ _
    have HO : Hid (W2.ownsRow w.heap.size 3 1 (.slice (some ⟨w.heap.size, 0, none⟩) 0 0) 0 []) := by
      have := World.ownsRow_lit (base := w.heap.size) (e := 3) (size := 1) w #[] 0 (Nat.le_refl _) (by unfold maxLen; omega) rfl
      rw [e2] at this
      exact this
    have HL := hide (R.next B2).lies
    have hsl : (l.map (Value.int .i64)).length = l.length * 1 := by rw [List.length_map]; omega
    have HB2 := hide B2
    have HLL := hide hl
    obtain ⟨L, hL⟩ : ∃ L, l.length = L := ⟨_, rfl⟩
    rw [hL] at hl hsl ⊢
    have HLE := hide hL
    clear R B2 hL
    have hq : ∀ W, (binOp .eql 22 (.slice (some p) L cap) (.slice none 0 0)).run Try.prog W = .ok (.bool false) W := fun W => Go.Lib.run_eql_slice_nil W 22 3 (some p) L cap 0 0 Try.underlying22
    go_enter Try.func106, Try.ntmps106
    go_wp2_with (at_builtin; refine wpList_append_any rfl _ _ 22 rfl w.heap.size 3 i3 (.int .i64 0) 1 8 Try.underlying22 hi3 hz30 hz31 hz32 rfl (by decide) (.slice (some ⟨w.heap.size, 0, none⟩) 0 0) 0 [] rfl HO.out (some p) L cap (l.map (Value.int .i64)) rfl hsl HL.out ?c3 ?c4 HB2.out.size ?_)
    case c3 => unfold maxLen; omega
    case c4 => omega
    intro v' w3 hown hb
    have hown' : w3.ownsRow w.heap.size 3 1 v' l.length (l.map (Value.int .i64)) := by rw [HLE.out]; simpa using hown
    obtain ⟨a', cap', rfl, ho⟩ := own1_of (by rw [HLE.out]; omega) hown'
    rw [HLE.out]
    have HF := hide (And.intro ho (HB2.out.trans hb))
    clear hown hown' hb ho HL hsl
    go_wp2
    go_ret
    exact ⟨⟨_, _, rfl, HF.out.1⟩, HF.out.2⟩
set_option maxHeartbeats 4000000 in
theorem reshaped_any {lo : Nat} (l : List Int) (a : Option Addr) (cap k : Nat) (long : Int) (w : World) (R : Row lo w a l) (hl : l.length ≤ 8) (hk : k < l.length) :
    Calls Try.prog 95 #[.slice a l.length cap, .int .i64 (k : Int), .int .i64 long] w fun e w' => (∃ a' cap', e = .returned (.tuple #[.slice a' l.length cap', .int .i64 (sizeV (l.set k long)), .int .i64 (sizeE (l.set k long))]) ∧ Own1 w w' a' cap' (l.set k long)) ∧ Below w.heap.size w w' := by
  have C := clone_any l a cap w R (by omega)
  have HSL : Hid ((l.set k long).length = l.length) := by unfold Hid; simp
  obtain ⟨L, hL⟩ : ∃ L, l.length = L := ⟨_, rfl⟩
  have HLE := hide hL
  rw [hL] at hl hk C HSL ⊢
  clear R hL
  go_enter Try.func95, Try.ntmps95
  go_wp2_with fail
  refine C.mono ?_
  rintro e w1 ⟨⟨a', cap', rfl, ho⟩, hb1⟩
  obtain ⟨g, rfl, hg1, hg2, SC⟩ := ho.2.1 (by rw [HLE.out]; omega)
  obtain ⟨u0, u1⟩ := SC k (by rw [HLE.out]; exact hk)
  have SC2 := SC.set k (by rw [HLE.out]; exact hk) long
  obtain ⟨w2, e2⟩ : ∃ w2, w1.setCell ⟨g, k, none⟩ (.int .i64 long) = w2 := ⟨_, rfl⟩
  rw [e2] at SC2
  have hs2 : w2.heap.size = w1.heap.size := by rw [← e2]; simp
  have R2 : Row w.heap.size w2 (some ⟨g, 0, none⟩) (l.set k long) := SC2.row (by omega) hg1 (by rw [HSL.out]; omega)
  have C2 := size_any (l.set k long) (some ⟨g, 0, none⟩) cap' w2 R2
  rw [HSL.out] at C2
  have HF : Hid (Own1 w w2 (some ⟨g, 0, none⟩) cap' (l.set k long) ∧ Below w.heap.size w w2) := ⟨⟨by rw [HSL.out, ← HLE.out]; exact ho.1, fun _ => ⟨g, rfl, hg1, by omega, SC2⟩, R2⟩, by rw [← e2]; exact hb1.setCell (p := ⟨g, k, none⟩) hg1 _⟩
  generalize gI l k = z0 at *
  clear C ho hb1 SC SC2 R2 hs2 hg1 hg2
  go_wp2_with fail
  clear e2 u0 u1
  refine C2.mono ?_
  rintro e w3 ⟨rfl, rfl⟩
  clear C2
  obtain ⟨SV, hSV⟩ : ∃ z, sizeV (l.set k long) = z := ⟨_, rfl⟩
  obtain ⟨SE, hSE⟩ : ∃ z, sizeE (l.set k long) = z := ⟨_, rfl⟩
  have HSV := hide (And.intro hSV hSE)
  rw [hSV, hSE]
  clear hSV hSE
  go_wp2
  exact bodyPost_ret (v := .tuple #[.slice (some ⟨g, 0, none⟩) L cap', .int .i64 SV, .int .i64 SE]) (by simp [results, Try.results95, go_sem]) rfl ⟨⟨_, _, by rw [HSV.out.1, HSV.out.2], HF.out.1⟩, HF.out.2⟩
/-- As GivesZ; the answer's slices are no longer than their rows. -/
def GivesK (n : Nat) (w0 : World) (x : Ar) (w : World) (e : Ending) (w' : World) : Prop := (∃ v, e = .returned v ∧ Caps v ∧ ∀ W, Below w0.heap.size w0 W → Keeps w.heap.size w' W → ArIn n 0 W x v) ∧ Below w.heap.size w w'
def lstA (x : Ar) : Ar := if x.shape.length = 0 then .mk [1] x.cells else x
def numR (x : Ar) : Int × Int := if 0 < x.shape.length then (0, 6) else if ¬ (cAt x.cells 0).1 = 0 then (0, 5) else ((cAt x.cells 0).2.1, 0)
def fillR (x : Ar) : Int × Int × Int := if 0 < x.cells.length then (if (cAt x.cells 0).1 = 1 then (1, 32, 0) else if (cAt x.cells 0).1 = 2 then (0, 0, 5) else (0, 0, 0)) else (0, 0, 0)
set_option maxHeartbeats 4000000 in
theorem plisted_any {n lo : Nat} {x : Ar} {va : Value} {w0 w : World} (hx : ArIn (n + 1) lo w0 x va) (hb0 : Below w0.heap.size w0 w) (hcap : Caps va) : Calls Try.prog 76 #[va] w fun e w' => GivesK (n + 1) w0 (lstA x) w e w' := by
  obtain ⟨a1, c1, a2, c2, rfl, R, hc⟩ := hx.form
  have I := in2_new w (.slice a1 x.shape.length c1) (.slice a2 x.cells.length c2)
  obtain ⟨W2, e2⟩ : ∃ W2, (w.alloc (.cells #[.slice a1 x.shape.length c1, .slice a2 x.cells.length c2] 25)).alloc (.cells #[.slice none 0 0, .slice none 0 0] 25) = W2 := ⟨_, rfl⟩
  have hz2 : W2.heap.size = w.heap.size + 2 := by rw [← e2]; simp
  have hf0 : W2.frozen? ⟨w.heap.size, 0, none⟩ = false := by
    rw [← e2]
    exact ((one_alloc (w.alloc (.cells #[.slice a1 x.shape.length c1, .slice a2 x.cells.length c2] 25)) _).frozen (p := ⟨w.heap.size, 0, none⟩) (by simp)).trans (frozen_new w _ 25 0)
  rw [e2] at I
  have q0 := I.q0
  have q1 := I.q1
  have HX := hide (And.intro hx hcap)
  have HXC := hide hc
  have HC16 : Hid (x.cells.length ≤ 5864062014805) := by obtain ⟨_, _, _, _, -, -, h, -⟩ := hx; exact h
  by_cases h0 : x.shape.length = 0
  · have HE : Hid (lstA x = .mk [1] x.cells) := by unfold Hid lstA; rw [if_pos h0]
    obtain ⟨W3, e3⟩ : ∃ W3, W2.alloc (.cells #[.int .i64 1] 3) = W3 := ⟨_, rfl⟩
    have B3 : Below W2.heap.size W2 W3 := by rw [← e3]; exact one_alloc _ _
    have z3 : W3.heap.size = w.heap.size + 3 := by rw [← e3]; simp [hz2]
    have o0 : W3.cell? ⟨w.heap.size + 2, 0, none⟩ = some (.int .i64 1) := by rw [← e3, ← hz2]; exact cell_new0 W2 _ 3 0 _ rfl
    have I3 := I.next B3
    have s0 : W3.cell? ⟨w.heap.size, 0, none⟩ = some (.slice a1 x.shape.length c1) := I3.q0
    have s1 : W3.cell? ⟨w.heap.size, 1, none⟩ = some (.slice a2 x.cells.length c2) := I3.q1
    have sf : W3.frozen? ⟨w.heap.size, 0, none⟩ = false := (B3.frozen (p := ⟨w.heap.size, 0, none⟩) (by show w.heap.size < _; omega)).trans hf0
    have p0 := I3.p0
    have p1 := I3.p1
    have f0 := I3.f0
    have f1 := I3.f1
    obtain ⟨W4, e4⟩ : ∃ W4, W3.setCell ⟨w.heap.size, 0, none⟩ (.slice (some ⟨w.heap.size + 2, 0, none⟩) 1 1) = W4 := ⟨_, rfl⟩
    have r0 : W4.cell? ⟨w.heap.size, 0, none⟩ = some (.slice (some ⟨w.heap.size + 2, 0, none⟩) 1 1) := by rw [← e4]; exact World.cell?_setCell_same' _ _ _ (by rw [s0]; rfl)
    have r1 : W4.cell? ⟨w.heap.size, 1, none⟩ = some (.slice a2 x.cells.length c2) := by rw [← e4, World.cell?_setCell_other _ _ _ _ (by simp)]; exact s1
    have g0 : W4.cell? ⟨w.heap.size + 1, 0, none⟩ = some (.slice none 0 0) := by rw [← e4, World.cell?_setCell_other _ _ _ _ (by simp)]; exact p0
    have g1 : W4.cell? ⟨w.heap.size + 1, 1, none⟩ = some (.slice none 0 0) := by rw [← e4, World.cell?_setCell_other _ _ _ _ (by simp)]; exact p1
    have gf0 : W4.frozen? ⟨w.heap.size + 1, 0, none⟩ = false := by rw [← e4]; exact frozen_set _ _ _ _ f0
    have gf1 : W4.frozen? ⟨w.heap.size + 1, 1, none⟩ = false := by rw [← e4]; exact frozen_set _ _ _ _ f1
    have HT := hide (set_two g0 g1 (.slice (some ⟨w.heap.size + 2, 0, none⟩) 1 1) (.slice a2 x.cells.length c2))
    have HF : Hid (∀ u v, GivesK (n + 1) w0 (lstA x) w (.returned (.agg #[.slice (some ⟨w.heap.size + 2, 0, none⟩) 1 1, .slice a2 x.cells.length c2])) ((W4.setCell ⟨w.heap.size + 1, 0, none⟩ u).setCell ⟨w.heap.size + 1, 1, none⟩ v)) := by
      intro u v
      have B4 : Below w.heap.size w W4 := by rw [← e4]; exact I3.bel.setCell (p := ⟨w.heap.size, 0, none⟩) (Nat.le_refl _) _
      refine ⟨⟨_, rfl, ⟨_, _, _, _, _, _, rfl, Nat.le_refl _, (caps_form HX.out.2).2⟩, fun W hW hK => ?_⟩, (B4.setCell (p := ⟨w.heap.size + 1, 0, none⟩) (by show _ ≤ w.heap.size + 1; omega) _).setCell (p := ⟨w.heap.size + 1, 1, none⟩) (by show _ ≤ w.heap.size + 1; omega) _⟩
      have K4 : Keeps (w.heap.size + 2) W3 W4 := by rw [← e4]; exact (Keeps.refl _ _).setCell (p := ⟨w.heap.size, 0, none⟩) (by show w.heap.size < _; omega) _
      have K := (K4.trans (keeps_two W4 w.heap.size u v)).trans (hK.mono (show w.heap.size ≤ w.heap.size + 2 by omega))
      have o1 := (K.cell (p := ⟨w.heap.size + 2, 0, none⟩) (Nat.le_refl _) (by show w.heap.size + 2 < _; omega)).trans o0
      have hk := K.1
      rw [HE.out]
      exact arIn_mk (x := .mk [1] x.cells) (row_one (by omega) (Nat.zero_le _) o1) HC16.out (HXC.out.mono (Nat.zero_le _) hW) rfl rfl
    have HE4 := hide e4
    clear hx hc R hb0 hcap B3 z3 I I3 o0 HX HXC
    simp only [h0] at q0 e2 ⊢
    clear h0
    generalize x.cells.length = CA at *
    go_enter Try.func76, Try.ntmps76
    go_wp2
    exact bodyPost_ret (v := .agg #[.slice (some ⟨w.heap.size + 2, 0, none⟩) 1 1, .slice a2 CA c2]) (by simp [results, Try.results76, go_sem, HT.out.1, HT.out.2]) rfl (HF.out _ _)
  · have HE : Hid (lstA x = x) := by unfold Hid lstA; rw [if_neg h0]
    have p0 := I.p0
    have p1 := I.p1
    have f0 := I.f0
    have f1 := I.f1
    have HT := hide (I.put (.slice a1 x.shape.length c1) (.slice a2 x.cells.length c2))
    have HF : Hid (∀ u v, GivesK (n + 1) w0 (lstA x) w (.returned (.agg #[.slice a1 x.shape.length c1, .slice a2 x.cells.length c2])) ((W2.setCell ⟨w.heap.size + 1, 0, none⟩ u).setCell ⟨w.heap.size + 1, 1, none⟩ v)) := fun u v => ⟨⟨_, rfl, HX.out.2, fun W hW _ => by rw [HE.out]; exact HX.out.1.mono (Nat.zero_le _) hW⟩, I.fin u v⟩
    have hSb : ((x.shape.length : Int) == 0) = false := by simp; exact fun h => h0 (by rw [h]; rfl)
    clear hx hc R hb0 hcap I h0 HX HXC
    generalize x.cells.length = CA at *
    generalize x.shape.length = SA at *
    go_enter Try.func76, Try.ntmps76
    go_wp2
    exact bodyPost_ret (v := .agg #[.slice a1 SA c1, .slice a2 CA c2]) (by simp [results, Try.results76, go_sem, HT.out.1, HT.out.2]) rfl (HF.out _ _)
set_option maxHeartbeats 4000000 in
theorem number_any {n lo : Nat} {x : Ar} {va : Value} {w : World} (hx : ArIn (n + 1) lo w x va) (hchk : chkA 8 x = 0) : Calls Try.prog 94 #[va] w fun e w' => e = .returned (.tuple #[.int .i64 (numR x).1, .int .i64 (numR x).2]) ∧ Below w.heap.size w w' := by
  obtain ⟨a1, c1, a2, c2, rfl, R, hc⟩ := hx.form
  have hb0 := one_alloc w (.cells #[.slice a1 x.shape.length c1, .slice a2 x.cells.length c2] 25)
  have q0 := cell_new0 w #[.slice a1 x.shape.length c1, .slice a2 x.cells.length c2] 25 0 _ rfl
  have q1 := cell_new0 w #[.slice a1 x.shape.length c1, .slice a2 x.cells.length c2] 25 1 _ rfl
  have hl := R.1
  by_cases h0 : 0 < x.shape.length
  · have HE : Hid (numR x = (0, 6)) := by unfold Hid numR; rw [if_pos h0]
    clear R hc hx hchk
    have h1 : (0 : Int) < (x.shape.length : Int) := by omega
    generalize x.shape.length = SA at *
    generalize x.cells.length = CA at *
    go_enter Try.func94, Try.ntmps94
    go_wp2
    exact bodyPost_ret (v := .tuple #[.int .i64 0, .int .i64 6]) (by simp [results, Try.results94, go_sem]) rfl ⟨by rw [HE.out], one_alloc _ _⟩
  · obtain ⟨-, hone⟩ := atom_one hchk (by omega)
    obtain ⟨ab, cb, hcf⟩ := cells_fn hc
    obtain ⟨b, off, rfl, -, hb, hcells⟩ := hcf (by omega)
    obtain ⟨g0, g1, g2, -⟩ := hcells 0 (by omega)
    simp only [Nat.zero_mul, Nat.add_zero] at g0 g1 g2
    have r0 := (hb0.cell (p := ⟨b, off, none⟩) hb).trans g0
    have r1 := (hb0.cell (p := ⟨b, off + 1, none⟩) hb).trans g1
    have HE : Hid (numR x = if ¬ (cAt x.cells 0).1 = 0 then (0, 5) else ((cAt x.cells 0).2.1, 0)) := by unfold Hid numR; rw [if_neg h0]
    have hs0 : x.shape.length = 0 := by omega
    clear hcells hcf hc R hx hchk g0 g1 g2 hb0
    rw [hs0, hone] at q0 q1 r0 r1 ⊢
    generalize (cAt x.cells 0).1 = ck at *
    generalize (cAt x.cells 0).2.1 = cN at *
    clear hs0 hone h0 hl
    by_cases hk : ck = 0
    · have HE5 : Hid (numR x = (cN, 0)) := by unfold Hid; rw [HE.out, if_neg (by simpa using hk)]
      subst hk
      clear HE
      go_enter Try.func94, Try.ntmps94
      go_wp2
      exact bodyPost_ret (v := .tuple #[.int .i64 cN, .int .i64 0]) (by simp [results, Try.results94, go_sem]) rfl ⟨by rw [HE5.out], one_alloc _ _⟩
    · have HE5 : Hid (numR x = (0, 5)) := by unfold Hid; rw [HE.out, if_pos hk]
      have hkb : (ck == 0) = false := beq_eq_false_iff_ne.2 hk
      clear HE
      go_enter Try.func94, Try.ntmps94
      go_wp2
      exact bodyPost_ret (v := .tuple #[.int .i64 0, .int .i64 5]) (by simp [results, Try.results94, go_sem]) rfl ⟨by rw [HE5.out], one_alloc _ _⟩
end Go.Proofs.Ytmjncdhahdpplaa
namespace Go.Proofs.Ytmjncdhahdpplaa
open Go.ChangeShapes Go.WideShapes Go.ChangeAt Go.RowKit
set_option linter.unusedVariables false
set_option maxRecDepth 100000
/-- A row with cells laid over it. -/
def spF (f : Nat → Value) (off : Nat) (cs : List Value) (i : Nat) : Value := if off ≤ i ∧ i < off + cs.length then cs[i - off]?.getD undef else f i
theorem run_copy_big {P : Program} (w : World) (dT sT ty elem : TypeId) (size g o dLen dCap : Nat) (a : Addr) (sLen sCap : Nat) (cur : Array Value) (t : TypeId) (cs : List Value)
    (hu : P.underlying dT = some (.slice elem)) (hs : (P.info? elem).map (·.size) = some size)
    (hg : w.heap[g]? = some (.cells cur t (0, 0))) (hn : cs.length = Nat.min sLen dLen * size)
    (hsrc : ∀ j v, cs[j]? = some v → w.cell? (a.add j) = some v) (hfit : o + cs.length ≤ cur.size) (h1 : ∀ v ∈ cs, v.oneCell' = true) :
    (Builtin.copy_ #[dT, sT] ty #[.slice (some ⟨g, o, none⟩) dLen dCap, .slice (some a) sLen sCap]).run P w =
      .ok (goInt (Nat.min sLen dLen)) (w.setRow g (cur.toList.take o ++ cs ++ cur.toList.drop (o + cs.length)).toArray) := by
  have hl := run_loadCells_list (P := P) w a cs hsrc
  have hst := run_storeCells_at P g o t cs 0 cur w hg (by simpa using hfit) h1
  cases hq : P.info? elem with
  | none => simp [hq] at hs
  | some i =>
    have hi : i.size = size := by simpa [hq] using hs
    rw [hn] at hl
    simp [Builtin.copy_, run_underlying hu, Builtin.lenOf, Builtin.firstCells, sizeOf, typeInfo, hq, hi, hl, hst]
theorem run_copy_zero {P : Program} (w : World) (dT sT ty elem : TypeId) (size : Nat) (d a : Option Addr) (dLen dCap sLen sCap : Nat) (hu : P.underlying dT = some (.slice elem)) (hs : (P.info? elem).map (·.size) = some size) (hn : Nat.min sLen dLen = 0) :
    (Builtin.copy_ #[dT, sT] ty #[.slice d dLen dCap, .slice a sLen sCap]).run P w = .ok (goInt 0) w := by
  cases hq : P.info? elem with
  | none => simp [hq] at hs
  | some i =>
    cases d <;> cases a <;> simp [Builtin.copy_, run_underlying hu, Builtin.lenOf, Builtin.firstCells, sizeOf, typeInfo, hq, hn, storeCells, loadCells, loadCellsFrom]
theorem rowIs_setRow {w : World} {g n : Nat} {t : TypeId} {f : Nat → Value} {cur : Array Value} (hg : w.heap[g]? = some (.cells cur t (0, 0))) (hc : cur.size = n) (hf : ∀ i, i < n → cur[i]? = some (f i)) (off : Nat) (cs : List Value) (hfit : off + cs.length ≤ n) :
    (w.setRow g (cur.toList.take off ++ cs ++ cur.toList.drop (off + cs.length)).toArray).rowIs g t n (spF f off cs) := by
  refine ⟨_, setRow_heap w g _ _ t _ hg, ?_, fun i hi => ?_⟩
  · simp; omega
  · have hi' := hf i hi
    unfold spF
    simp only [List.getElem?_toArray]
    have hl : cur.toList.length = n := by simpa using hc
    have hcur : cur.toList[i]? = some (f i) := by simpa using hi'
    by_cases h1 : i < off
    · rw [if_neg (by omega), List.append_assoc, List.getElem?_append_left (by rw [List.length_take]; omega), List.getElem?_take_of_lt h1, hcur]
    · by_cases h2 : i < off + cs.length
      · rw [if_pos ⟨by omega, h2⟩, List.append_assoc, List.getElem?_append_right (by rw [List.length_take]; omega), List.length_take, List.getElem?_append_left (by omega)]
        have e : min off cur.toList.length = off := by omega
        rw [e, List.getElem?_eq_getElem (by omega)]; rfl
      · rw [if_neg (by omega), List.getElem?_append_right (by rw [List.length_append, List.length_take]; omega), List.length_append, List.length_take, List.getElem?_drop]
        have e : off + cs.length + (i - (min off cur.toList.length + cs.length)) = i := by omega
        rw [e, hcur]
theorem two_setRow (w : World) (g : Nat) (c : Array Value) : Two w g g (w.setRow g c) := ⟨⟨rfl, rfl, rfl, by simp [World.setRow], fun k hk => by omega⟩, by simp [World.setRow], fun k h1 _ => setRow_other w g k c h1⟩
theorem run_copy_rowIs {P : Program} {w : World} (dT sT ty elem : TypeId) (size : Nat) (hu : P.underlying dT = some (.slice elem)) (hsz : (P.info? elem).map (·.size) = some size)
    (dp sp : Option Addr) (dLen dCap sLen sCap m : Nat) (g off n : Nat) (t : TypeId) (f : Nat → Value) (hr : w.rowIs g t n f) (cs : List Value) (hm : m = Nat.min sLen dLen) (hn : cs.length = m * size)
    (hpos : 0 < m → dp = some ⟨g, off, none⟩) (hsrc : Lies w sp cs) (hs0 : 0 < size) (hfit : off + cs.length ≤ n) :
    ∃ w', (Builtin.copy_ #[dT, sT] ty #[.slice dp dLen dCap, .slice sp sLen sCap]).run P w = .ok (goInt m) w' ∧ w'.rowIs g t n (spF f off cs) ∧ Two w g g w' := by
  by_cases h0 : m = 0
  · subst h0
    have hcs : cs = [] := List.eq_nil_of_length_eq_zero (by omega)
    subst hcs
    refine ⟨w, run_copy_zero w dT sT ty elem size dp sp dLen dCap sLen sCap hu hsz hm.symm, ?_, Two.refl _ _ _⟩
    have : spF f off [] = f := by funext i; unfold spF; rw [if_neg (by simp)]
    rw [this]; exact hr
  · have hd := hpos (by omega)
    subst hd
    obtain ⟨cur, h1, h2, h3⟩ := hr
    rcases hsrc.1 with he | ⟨p, rfl, -, hc⟩
    · have := Nat.mul_pos (show 0 < m by omega) hs0
      rw [he] at hn
      simp at hn
      omega
    · refine ⟨_, ?_, rowIs_setRow h1 h2 h3 off cs hfit, two_setRow _ _ _⟩
      rw [hm]
      exact run_copy_big w dT sT ty elem size g off dLen dCap p sLen sCap cur t cs hu hsz h1 (by rw [← hm]; exact hn) hc (by omega) hsrc.2
theorem step_copy_rowIs {P : Program} {w : World} {ops : Array Oper} {o : Oper} {a : Act} {K : Act → World → Prop} {Q : Exit → Act → World → Prop} {E : Prop} (hg : o.guard = none) (d s : Operand) (dT sT : TypeId)
    (ho : o.op = .call { callee := .builtin .copy, args := #[d, s], argTypes := #[dT, sT] }) (elem : TypeId) (size : Nat) (hu : P.underlying dT = some (.slice elem)) (hsz : (P.info? elem).map (·.size) = some size)
    (dp sp : Option Addr) (dLen dCap sLen sCap m : Nat) (hd : a.eval d = .slice dp dLen dCap) (hs : a.eval s = .slice sp sLen sCap) (g off n : Nat) (t : TypeId) (f : Nat → Value) (hr : w.rowIs g t n f) (cs : List Value) (hm : m = Nat.min sLen dLen) (hn : cs.length = m * size)
    (hpos : 0 < m → dp = some ⟨g, off, none⟩) (hsrc : Lies w sp cs) (hs0 : 0 < size) (hfit : off + cs.length ≤ n)
    (h : ∀ w', w'.rowIs g t n (spF f off cs) → Two w g g w' → K (a.put o.dst (goInt m)) w') : if Region.wanted o (yielded ops a.tmps) = true then Oper.wp P o a w K Q else E := by
  have hw : Region.wanted o (yielded ops a.tmps) = true := by simp [Region.wanted, hg]
  rw [if_pos hw]
  obtain ⟨w', hrun, h2, h3⟩ := run_copy_rowIs (P := P) dT sT o.type elem size hu hsz dp sp dLen dCap sLen sCap m g off n t f hr cs hm hn hpos hsrc hs0 hfit
  unfold Oper.wp execOp
  simp only [ho, resolve, invoke, builtin, Sem.run_bind, Sem.run_pure, Result.andThen_ok, List.map_toArray, List.map_cons, List.map_nil, hd, hs, hrun]
  exact h w' h2 h3
theorem wpList_copy_rowIs {P : Program} {w : World} {ops : Array Oper} {rest : List Oper} {o : Oper} {a : Act} {Q : Exit → Act → World → Prop} (hgd : o.guard = none) (d s : Operand) (dT sT : TypeId)
    (ho : o.op = .call { callee := .builtin .copy, args := #[d, s], argTypes := #[dT, sT] }) (elem : TypeId) (size : Nat) (hu : P.underlying dT = some (.slice elem)) (hsz : (P.info? elem).map (·.size) = some size)
    (dp sp : Option Addr) (dLen dCap sLen sCap m : Nat) (hd : a.eval d = .slice dp dLen dCap) (hs : a.eval s = .slice sp sLen sCap) (g off n : Nat) (t : TypeId) (f : Nat → Value) (hr : w.rowIs g t n f) (cs : List Value) (hm : m = Nat.min sLen dLen) (hn : cs.length = m * size)
    (hpos : 0 < m → dp = some ⟨g, off, none⟩) (hsrc : Lies w sp cs) (hs0 : 0 < size) (hfit : off + cs.length ≤ n)
    (h : ∀ w', w'.rowIs g t n (spF f off cs) → Two w g g w' → wpList P ops Q rest (a.put o.dst (goInt m)) w') : wpList P ops Q (o :: rest) a w := by
  refine BigFrame.wpList_want (by simp [Region.wanted, hgd]) fun K hK => ?_
  obtain ⟨w', hrun, h2, h3⟩ := run_copy_rowIs (P := P) dT sT o.type elem size hu hsz dp sp dLen dCap sLen sCap m g off n t f hr cs hm hn hpos hsrc hs0 hfit
  unfold Oper.wp
  simp only [execOp, ho, resolve, invoke, builtin, Sem.run_bind, Sem.run_pure, Result.andThen_ok, List.map_toArray, List.map_cons, List.map_nil, hd, hs, hrun]
  exact hK _ _ (h w' h2 h3)
/-- Cells laid behind the first t ones. -/
theorem spF_gF (T : Nat → Value × Value × Value) (t m N : Nat) (i : Nat) (hi : i < N * 3) : spF (gF T t) (t * 3) (rowT (fun q => T (t + q)) m) i = gF T (t + m) i := by
  unfold spF
  rw [rowT_len]
  by_cases h : t * 3 ≤ i ∧ i < t * 3 + m * 3
  · rw [if_pos h]
    obtain ⟨r0, r1, r2⟩ := rowT_at (fun q => T (t + q)) m ((i - t * 3) / 3) (by omega)
    obtain ⟨s0, s1, s2⟩ := gF_at T (t + m) (t + (i - t * 3) / 3) (by omega)
    have hm : i - t * 3 = (i - t * 3) / 3 * 3 ∨ i - t * 3 = (i - t * 3) / 3 * 3 + 1 ∨ i - t * 3 = (i - t * 3) / 3 * 3 + 2 := by omega
    rcases hm with e | e | e
    · rw [← e] at r0; rw [r0, show i = (t + (i - t * 3) / 3) * 3 by omega, s0]; simp
      congr 2; omega
    · rw [← e] at r1; rw [r1, show i = (t + (i - t * 3) / 3) * 3 + 1 by omega, s1]; simp
      congr 3; omega
    · rw [← e] at r2; rw [r2, show i = (t + (i - t * 3) / 3) * 3 + 2 by omega, s2]; simp
      congr 3; omega
  · rw [if_neg h]
    unfold gF
    by_cases h1 : i < t * 3
    · have h2 : i < (t + m) * 3 := by omega
      simp only [h1, h2, if_true]
    · have h2 : ¬ i < (t + m) * 3 := by omega
      simp only [h1, h2, if_false]
/-- Where the cell at place p comes from, along an axis of D places, each of w cells, of which L are laid. -/
def alongQ (D w L : Nat) (at' : Nat → Nat) (p : Nat) : Nat := p / w / L * (D * w) + at' (p / w % L) * w + p % w
theorem alongQ_at (D w L : Nat) (at' : Nat → Nat) (r j q : Nat) (hj : j < L) (hq : q < w) : alongQ D w L at' ((r * L + j) * w + q) = r * (D * w) + at' j * w + q := by
  unfold alongQ
  have h1 : ((r * L + j) * w + q) / w = r * L + j := by
    rw [Nat.mul_comm, Nat.mul_add_div (by omega), Nat.div_eq_of_lt hq]; omega
  have h2 : ((r * L + j) * w + q) % w = q := by rw [Nat.mul_comm, Nat.mul_add_mod, Nat.mod_eq_of_lt hq]
  have h3 : (r * L + j) / L = r := by rw [Nat.mul_comm, Nat.mul_add_div (by omega), Nat.div_eq_of_lt hj]; omega
  have h4 : (r * L + j) % L = j := by rw [Nat.mul_comm, Nat.mul_add_mod, Nat.mod_eq_of_lt hj]
  rw [h1, h2, h3, h4]
end Go.Proofs.Ytmjncdhahdpplaa
