/-
  The contract of layer 3's Text; and what the document's Nums and Text rest on: a row of cells put together by append.
-/
import Derived.Test.YtljanfmmhglpiaaDoorOwnN
import Derived.Test.YtljanfmmhglpiaaDoorOwnQ
import Derived.Test.YtljanfmmhglpiaaDoorRows
import Derived.WalkKit
import Derived.ProofKit
import Derived.Below
import Derived.Deep.OwnRows
import Derived.Deep.QuietTactic
import Derived.BigQuiet
import Derived.Deep.RegionWith
import Derived.Laws.MakeOwn
import Derived.Deep.RegionHeld3
import Derived.Deep.RegionLaw
namespace Go.Proofs.YtljanfmmhglpiaaDoor
open Go.ChangeShapes Go.WideShapes Go.ChangeAt Go.RowKit
set_option maxRecDepth 100000
set_option linter.unusedVariables false
set_option maxHeartbeats 1000000 in
theorem text_many {lo : Nat} (n : Nat) (l : List Int) (a : Option Addr) (cap : Nat) (w : World) (R : Row lo w a l) (hl : l.length ≤ 5864062014805) (h1 : ¬ l.length = 1) :
    Calls Tryd.prog 37 #[.slice a l.length cap] w fun e w' => GivesA (n + 1) (textA l) w e w' := by
  have B1 : Below w.heap.size w ((w.alloc (.cells #[.slice none 0 0, .slice none 0 0] 33)).alloc (.cells #[.int .i64 (l.length : Int)] 3)) := two_allocs _ _ _
  have C := cells_any n 1 l a cap _ (R.next B1) hl
  have HB1 := hide B1
  have c0 := cell_new2 w #[.int .i64 (l.length : Int)] 3 (0, 0) (.cells #[.slice none 0 0, .slice none 0 0] 33) 0 _ rfl
  have HC0 := hide c0
  have c1 := cell_new1 w #[.slice none 0 0, .slice none 0 0] 33 (0, 0) (.cells #[.int .i64 (l.length : Int)] 3) 0 _ rfl
  have c2 := cell_new1 w #[.slice none 0 0, .slice none 0 0] 33 (0, 0) (.cells #[.int .i64 (l.length : Int)] 3) 1 _ rfl
  have f1 : ∀ i, ((w.alloc (.cells #[.slice none 0 0, .slice none 0 0] 33)).alloc (.cells #[.int .i64 (l.length : Int)] 3)).frozen? ⟨w.heap.size, i, none⟩ = false := fun i =>
    (((Below.refl _ _).alloc (Nat.le_refl _) _).frozen (p := ⟨w.heap.size, i, none⟩) (by simp)).trans (frozen_new w _ 33 i)
  have HC1 := hide (And.intro c1 (And.intro c2 f1))
  have hne : ¬ (l.length : Int) = 1 := by omega
  have HTA : Hid (textA l = .mk [(l.length : Int)] (numCs 1 l)) := by show _ = _; unfold textA; rw [if_neg h1]
  clear B1 c0 R c1 c2 f1
  go_enter Tryd.func37, Tryd.ntmps37
  go_wp2_with fail
  refine C.mono ?_
  rintro e w1 ⟨⟨a2, rfl, hcs⟩, hb1⟩
  have sz := hb1.size
  rw [size_two] at sz
  have d1 := (hb1.cell (p := ⟨w.heap.size, 0, none⟩) (by rw [size_two]; show w.heap.size < _; omega)).trans HC1.out.1
  have d2 := (hb1.cell (p := ⟨w.heap.size, 1, none⟩) (by rw [size_two]; show w.heap.size < _; omega)).trans HC1.out.2.1
  have d3 : w1.frozen? ⟨w.heap.size, 0, none⟩ = false := (hb1.frozen (p := ⟨w.heap.size, 0, none⟩) (by rw [size_two]; show w.heap.size < _; omega)).trans (HC1.out.2.2 0)
  have d4 : w1.frozen? ⟨w.heap.size, 1, none⟩ = false := (hb1.frozen (p := ⟨w.heap.size, 1, none⟩) (by rw [size_two]; show w.heap.size < _; omega)).trans (HC1.out.2.2 1)
  have d5 := (hb1.cell (p := ⟨w.heap.size + 1, 0, none⟩) (by rw [size_two]; show w.heap.size + 1 < _; omega)).trans HC0.out
  have HB2 : Hid (Below w.heap.size w w1) := HB1.out.trans (hb1.mono (by rw [size_two]; omega))
  have HF : Hid (∀ x y, ArIn (n + 1) w.heap.size ((w1.setCell ⟨w.heap.size, 0, none⟩ x).setCell ⟨w.heap.size, 1, none⟩ y) (textA l) (.agg #[.slice (some ⟨w.heap.size + 1, 0, none⟩) 1 1, .slice a2 l.length l.length])) := by
    intro x y
    rw [HTA.out]
    have hk : Keeps (w.heap.size + 1) w1 ((w1.setCell ⟨w.heap.size, 0, none⟩ x).setCell ⟨w.heap.size, 1, none⟩ y) := ((Keeps.refl _ _).setCell (p := ⟨w.heap.size, 0, none⟩) (by show w.heap.size < _; omega) x).setCell (p := ⟨w.heap.size, 1, none⟩) (by show w.heap.size < _; omega) y
    refine arIn_mk (x := .mk [(l.length : Int)] (numCs 1 l)) ?_ (by simpa [Ar.cells, numCs_len] using hl) ?_ rfl (numCs_len 1 l)
    · exact ((row_one (lo := w.heap.size + 1) (b := w.heap.size + 1) (by omega) (Nat.le_refl _) d5).keeps hk).low (by omega)
    · rw [size_two] at hcs
      exact ((hcs.mono (lo' := w.heap.size + 1) (by omega) (Below.refl _ _)).keeps hk).mono (by omega) (Below.refl _ _)
  have HT := hide (set_two d1 d2 (.slice (some ⟨w.heap.size + 1, 0, none⟩) 1 1) (.slice a2 l.length l.length))
  clear C hcs HC0 HC1 HB1 hb1 d5 sz
  go_wp2
  exact bodyPost_ret (v := .agg #[.slice (some ⟨w.heap.size + 1, 0, none⟩) 1 1, .slice a2 l.length l.length]) (by simp [results, Tryd.results37, go_sem, HT.out.1, HT.out.2]) rfl ⟨⟨_, rfl, HF.out _ _⟩, (HB2.out.setCell (p := ⟨w.heap.size, 0, none⟩) (Nat.le_refl _) _).setCell (p := ⟨w.heap.size, 1, none⟩) (Nat.le_refl _) _⟩
set_option maxHeartbeats 1000000 in
theorem text_one {lo : Nat} (n : Nat) (l : List Int) (a : Option Addr) (cap : Nat) (w : World) (R : Row lo w a l) (h1 : l.length = 1) :
    Calls Tryd.prog 37 #[.slice a 1 cap] w fun e w' => GivesA (n + 1) (textA l) w e w' := by
  have B1 : Below w.heap.size w (w.alloc (.cells #[.slice none 0 0, .slice none 0 0] 33)) := one_alloc _ _
  have C := cells_any n 1 l a cap _ (R.next B1) (by omega)
  rw [h1] at C
  have HB1 := hide B1
  have c1 := cell_new0 w #[.slice none 0 0, .slice none 0 0] 33 0 _ rfl
  have c2 := cell_new0 w #[.slice none 0 0, .slice none 0 0] 33 1 _ rfl
  have f1 := fun i => frozen_new w #[.slice none 0 0, .slice none 0 0] 33 i
  have sz0 : (w.alloc (.cells #[.slice none 0 0, .slice none 0 0] 33)).heap.size = w.heap.size + 1 := by simp
  have HC1 := hide (And.intro c1 (And.intro c2 (And.intro f1 sz0)))
  have HTA : Hid (textA l = .mk [] (numCs 1 l)) := by show _ = _; unfold textA; rw [if_pos h1]
  have HL := hide h1
  clear B1 R c1 c2 f1 h1 sz0
  go_enter Tryd.func37, Tryd.ntmps37
  go_wp2_with fail
  refine C.mono ?_
  rintro e w1 ⟨⟨a2, rfl, hcs⟩, hb1⟩
  have sz := hb1.size
  have sz0 := HC1.out.2.2.2
  rw [sz0] at sz
  have d1 := (hb1.cell (p := ⟨w.heap.size, 0, none⟩) (by rw [sz0]; show w.heap.size < _; omega)).trans HC1.out.1
  have d2 := (hb1.cell (p := ⟨w.heap.size, 1, none⟩) (by rw [sz0]; show w.heap.size < _; omega)).trans HC1.out.2.1
  have d3 : w1.frozen? ⟨w.heap.size, 0, none⟩ = false := (hb1.frozen (p := ⟨w.heap.size, 0, none⟩) (by rw [sz0]; show w.heap.size < _; omega)).trans (HC1.out.2.2.1 0)
  have d4 : w1.frozen? ⟨w.heap.size, 1, none⟩ = false := (hb1.frozen (p := ⟨w.heap.size, 1, none⟩) (by rw [sz0]; show w.heap.size < _; omega)).trans (HC1.out.2.2.1 1)
  have HB2 : Hid (Below w.heap.size w w1) := HB1.out.trans (hb1.mono (by rw [sz0]; omega))
  have HF : Hid (∀ x y, ArIn (n + 1) w.heap.size ((w1.setCell ⟨w.heap.size, 0, none⟩ x).setCell ⟨w.heap.size, 1, none⟩ y) (textA l) (.agg #[.slice none 0 0, .slice a2 1 1])) := by
    intro x y
    rw [HTA.out]
    have hk : Keeps (w.heap.size + 1) w1 ((w1.setCell ⟨w.heap.size, 0, none⟩ x).setCell ⟨w.heap.size, 1, none⟩ y) := ((Keeps.refl _ _).setCell (p := ⟨w.heap.size, 0, none⟩) (by show w.heap.size < _; omega) x).setCell (p := ⟨w.heap.size, 1, none⟩) (by show w.heap.size < _; omega) y
    refine arIn_mk (x := .mk [] (numCs 1 l)) (row_nil _ _ _) (by have := HL.out; simp [Ar.cells, numCs_len]; omega) ?_ rfl (by show (numCs 1 l).length = 1; rw [numCs_len]; exact HL.out)
    rw [sz0] at hcs
    exact (hcs.keeps hk).mono (by omega) (Below.refl _ _)
  have HT := hide (set_two d1 d2 (.slice none 0 0) (.slice a2 1 1))
  clear C hcs HC1 HB1 hb1 sz sz0
  go_wp2
  exact bodyPost_ret (v := .agg #[.slice none 0 0, .slice a2 1 1]) (by simp [results, Tryd.results37, go_sem, HT.out.1, HT.out.2]) rfl ⟨⟨_, rfl, HF.out _ _⟩, (HB2.out.setCell (p := ⟨w.heap.size, 0, none⟩) (Nat.le_refl _) _).setCell (p := ⟨w.heap.size, 1, none⟩) (Nat.le_refl _) _⟩
theorem text_any {lo : Nat} (n : Nat) (l : List Int) (a : Option Addr) (cap : Nat) (w : World) (R : Row lo w a l) (hl : l.length ≤ 5864062014805) :
    Calls Tryd.prog 37 #[.slice a l.length cap] w fun e w' => GivesA (n + 1) (textA l) w e w' := by
  by_cases h1 : l.length = 1
  · have := text_one n l a cap w R h1
    rw [h1]; exact this
  · exact text_many n l a cap w R hl h1
/-- append onto a row of the call's own, as one step of a region. -/
theorem step_append_own {P : Program} {w : World} {ops : Array Oper} {o : Oper} {a : Act} {K : Act → World → Prop} {Q : Exit → Act → World → Prop} {E : Prop} (hg : o.guard = none) (s x : Operand) (t : TypeId)
    (ho : o.op = .call { callee := .builtin .append, args := #[s, x], argTypes := #[t, t] })
    (base : Nat) (e : TypeId) (i : TypeInfo) (z : Value) (size bytes : Nat) (ht : P.underlying t = some (.slice e)) (hi : P.info? e = some i) (hz : i.zero = some z)
    (hsize : i.size = size) (hby : i.bytes = bytes) (hzs : z.cells.size = size) (hsz : 0 < size)
    (v : Value) (n : Nat) (xs : List Value) (hs : a.eval s = v) (hown : w.ownsRow base e size v n xs)
    (ad : Addr) (m c : Nat) (news : List Value) (hx : a.eval x = .slice (some ad) m c) (hl : news.length = m * size) (hnews : ∀ j u, news[j]? = some u → w.cell? (ad.add j) = some u) (h1 : ∀ u ∈ news, u.oneCell' = true)
    (h63 : n + m ≤ maxLen) (hbytes : (n + m) * bytes ≤ 140737488355328) (hbase : base ≤ w.heap.size)
    (h : ∀ v' w', w'.ownsRow base e size v' (n + m) (xs ++ news) → Below base w w' → K (a.put o.dst v') w') : if Region.wanted o (yielded ops a.tmps) = true then Oper.wp P o a w K Q else E := by
  have hw : Region.wanted o (yielded ops a.tmps) = true := by simp [Region.wanted, hg]
  rw [if_pos hw]
  refine wp_append_own w s x t ho base e i z size bytes ht hi hz hsize hby hzs hsz v n xs hs hown ad m c news hx hl hnews h1 h63 hbytes hbase ?_
  intro v' w' hown' hgrow _
  exact h v' w' hown' ((Below.refl _ _).grown hgrow hbase (fun q hq => (hown.lt q hq).1))
/-- What the row holds that append has put together, up to number j. -/
def rowF (k : Int) (l : List Int) (j : Nat) : List Value := (List.range (j * 3)).map (numF k l l.length)
theorem rowF_step (k : Int) (l : List Int) (j : Nat) (hj : j < l.length) : rowF k l (j + 1) = rowF k l j ++ [.int .i64 k, .int .i64 (l[j]?.getD 0), .slice none 0 0] := by
  unfold rowF
  have e : (j + 1) * 3 = j * 3 + 1 + 1 + 1 := by omega
  rw [e, List.range_succ, List.range_succ, List.range_succ]
  simp only [List.map_append, List.map_cons, List.map_nil, List.append_assoc, List.cons_append, List.nil_append]
  have f0 : numF k l l.length (j * 3) = .int .i64 k := by
    unfold numF; rw [if_pos (by omega), if_pos (by omega)]
  have f1 : numF k l l.length (j * 3 + 1) = .int .i64 (l[j]?.getD 0) := by
    unfold numF; rw [if_pos (by omega), if_neg (by omega), if_pos (by omega), show (j * 3 + 1) / 3 = j by omega]
  have f2 : numF k l l.length (j * 3 + 1 + 1) = .slice none 0 0 := by
    unfold numF; rw [if_pos (by omega), if_neg (by omega), if_neg (by omega)]
  rw [f0, f1, f2]
theorem owns_form {w : World} {base n : Nat} {e : TypeId} {v : Value} {xs : List Value} (h : w.ownsRow base e 3 v n xs) (hn : 0 < n) : ∃ g cap, v = .slice (some ⟨g, 0, none⟩) n cap ∧ base ≤ g ∧ g < w.heap.size := by
  obtain ⟨h1, h2⟩ := h
  rcases h2 with ⟨rfl, h2⟩ | ⟨g, cap, cur, rfl, hb, hg, -⟩
  · omega
  · exact ⟨g, cap, rfl, hb, lt_of_block hg⟩
theorem owns_cells {w : World} {base lo n : Nat} {v : Value} (k : Int) (l : List Int) (h : w.ownsRow base 42 3 v l.length (rowF k l l.length)) (hlo : lo ≤ base) :
    ∃ a2 cap, v = .slice a2 l.length cap ∧ CellsIn n lo w (numCs k l) a2 := by
  have h' := h
  obtain ⟨h1, h2⟩ := h'
  rcases h2 with ⟨rfl, h2⟩ | ⟨g, cap, cur, rfl, hb, hg, -⟩
  · have e : l = [] := List.eq_nil_of_length_eq_zero h2
    subst e
    exact ⟨none, 0, rfl, Or.inl rfl⟩
  · refine ⟨_, cap, rfl, Or.inr ⟨g, 0, rfl, by omega, lt_of_block hg, ?_⟩⟩
    intro i hi
    rw [numCs_len] at hi
    rw [numCs_at k l i hi]
    have hc : ∀ m, m < l.length * 3 → w.cell? ⟨g, m, none⟩ = some (numF k l l.length m) := by
      intro m hm
      have := h.cellAt m (by simpa [rowF] using hm)
      rw [this]
      simp [rowF, hm]
    have f0 : numF k l l.length (i * 3) = .int .i64 k := by
      unfold numF; rw [if_pos (by omega), if_pos (by omega)]
    have f1 : numF k l l.length (i * 3 + 1) = .int .i64 (l[i]?.getD 0) := by
      unfold numF; rw [if_pos (by omega), if_neg (by omega), if_pos (by omega), show (i * 3 + 1) / 3 = i by omega]
    have f2 : numF k l l.length (i * 3 + 2) = .slice none 0 0 := by
      unfold numF; rw [if_pos (by omega), if_neg (by omega), if_neg (by omega)]
    have h0 := hc (i * 3) (by omega)
    have h1 := hc (i * 3 + 1) (by omega)
    have h2 := hc (i * 3 + 2) (by omega)
    rw [f0] at h0
    rw [f1] at h1
    rw [f2] at h2
    rw [Nat.zero_add]
    exact ⟨_, _, _, h0, h1, h2, rfl, rfl, none, 0, rfl, by simp, Or.inl rfl⟩
end Go.Proofs.YtljanfmmhglpiaaDoor
