/-
  The contract of layer 3's Text; and what the document's Nums and Text rest on: a row of cells put together by append.
-/
import Derived.Test.YtkgpoibnilgaeaaOwnP
import Derived.Test.YtkgpoibnilgaeaaRows
import Derived.WalkKit
import Derived.ProofKit
import Derived.Below
import Derived.Deep.OwnRows
import Derived.Deep.QuietTactic
import Derived.BigQuiet
import Derived.Deep.RegionWith
import Derived.Laws.MakeOwn
import Derived.Deep.RegionHeld3
import Derived.Deep.RegionLaw
namespace Go.Proofs.Ytkgpoibnilgaeaa
open Go.ChangeShapes Go.WideShapes Go.ChangeAt Go.RowKit
set_option linter.unusedVariables false
/-- append onto a row of the call's own, as one step of a region. -/
theorem step_append_own {P : Program} {w : World} {ops : Array Oper} {o : Oper} {a : Act} {K : Act → World → Prop} {Q : Exit → Act → World → Prop} {E : Prop} (hg : o.guard = none) (s x : Operand) (t : TypeId)
    (ho : o.op = .call { callee := .builtin .append, args := #[s, x], argTypes := #[t, t] })
    (base : Nat) (e : TypeId) (i : TypeInfo) (z : Value) (size bytes : Nat) (ht : P.underlying t = some (.slice e)) (hi : P.info? e = some i) (hz : i.zero = some z)
    (hsize : i.size = size) (hby : i.bytes = bytes) (hzs : z.cells.size = size) (hsz : 0 < size)
    (v : Value) (n : Nat) (xs : List Value) (hs : a.eval s = v) (hown : w.ownsRow base e size v n xs)
    (ad : Addr) (m c : Nat) (news : List Value) (hx : a.eval x = .slice (some ad) m c) (hl : news.length = m * size) (hnews : ∀ j u, news[j]? = some u → w.cell? (ad.add j) = some u) (h1 : ∀ u ∈ news, u.oneCell' = true)
    (h63 : n + m ≤ maxLen) (hbytes : (n + m) * bytes ≤ 140737488355328) (hbase : base ≤ w.heap.size)
    (h : ∀ v' w', w'.ownsRow base e size v' (n + m) (xs ++ news) → Below base w w' → K (a.put o.dst v') w') : if Region.wanted o (yielded ops a.tmps) = true then Oper.wp P o a w K Q else E := by
  have hw : Region.wanted o (yielded ops a.tmps) = true := by simp [Region.wanted, hg]
  rw [if_pos hw]
  refine wp_append_own w s x t ho base e i z size bytes ht hi hz hsize hby hzs hsz v n xs hs hown ad m c news hx hl hnews h1 h63 hbytes hbase ?_
  intro v' w' hown' hgrow _
  exact h v' w' hown' ((Below.refl _ _).grown hgrow hbase (fun q hq => (hown.lt q hq).1))
/-- What the row holds that append has put together, up to number j. -/
def rowF (k : Int) (l : List Int) (j : Nat) : List Value := (List.range (j * 3)).map (numF k l l.length)
theorem rowF_step (k : Int) (l : List Int) (j : Nat) (hj : j < l.length) : rowF k l (j + 1) = rowF k l j ++ [.int .i64 k, .int .i64 (l[j]?.getD 0), .slice none 0 0] := by
  unfold rowF
  have e : (j + 1) * 3 = j * 3 + 1 + 1 + 1 := by omega
  rw [e, List.range_succ, List.range_succ, List.range_succ]
  simp only [List.map_append, List.map_cons, List.map_nil, List.append_assoc, List.cons_append, List.nil_append]
  have f0 : numF k l l.length (j * 3) = .int .i64 k := by
    unfold numF; rw [if_pos (by omega), if_pos (by omega)]
  have f1 : numF k l l.length (j * 3 + 1) = .int .i64 (l[j]?.getD 0) := by
    unfold numF; rw [if_pos (by omega), if_neg (by omega), if_pos (by omega), show (j * 3 + 1) / 3 = j by omega]
  have f2 : numF k l l.length (j * 3 + 1 + 1) = .slice none 0 0 := by
    unfold numF; rw [if_pos (by omega), if_neg (by omega), if_neg (by omega)]
  rw [f0, f1, f2]
theorem owns_form {w : World} {base n : Nat} {e : TypeId} {v : Value} {xs : List Value} (h : w.ownsRow base e 3 v n xs) (hn : 0 < n) : ∃ g cap, v = .slice (some ⟨g, 0, none⟩) n cap ∧ base ≤ g ∧ g < w.heap.size := by
  obtain ⟨h1, h2⟩ := h
  rcases h2 with ⟨rfl, h2⟩ | ⟨g, cap, cur, rfl, hb, hg, -⟩
  · omega
  · exact ⟨g, cap, rfl, hb, lt_of_block hg⟩
theorem owns_cells {w : World} {base lo n : Nat} {v : Value} (k : Int) (l : List Int) (h : w.ownsRow base 60 3 v l.length (rowF k l l.length)) (hlo : lo ≤ base) :
    ∃ a2 cap, v = .slice a2 l.length cap ∧ CellsIn n lo w (numCs k l) a2 := by
  have h' := h
  obtain ⟨h1, h2⟩ := h'
  rcases h2 with ⟨rfl, h2⟩ | ⟨g, cap, cur, rfl, hb, hg, -⟩
  · have e : l = [] := List.eq_nil_of_length_eq_zero h2
    subst e
    exact ⟨none, 0, rfl, Or.inl rfl⟩
  · refine ⟨_, cap, rfl, Or.inr ⟨g, 0, rfl, by omega, lt_of_block hg, ?_⟩⟩
    intro i hi
    rw [numCs_len] at hi
    rw [numCs_at k l i hi]
    have hc : ∀ m, m < l.length * 3 → w.cell? ⟨g, m, none⟩ = some (numF k l l.length m) := by
      intro m hm
      have := h.cellAt m (by simpa [rowF] using hm)
      rw [this]
      simp [rowF, hm]
    have f0 : numF k l l.length (i * 3) = .int .i64 k := by
      unfold numF; rw [if_pos (by omega), if_pos (by omega)]
    have f1 : numF k l l.length (i * 3 + 1) = .int .i64 (l[i]?.getD 0) := by
      unfold numF; rw [if_pos (by omega), if_neg (by omega), if_pos (by omega), show (i * 3 + 1) / 3 = i by omega]
    have f2 : numF k l l.length (i * 3 + 2) = .slice none 0 0 := by
      unfold numF; rw [if_pos (by omega), if_neg (by omega), if_neg (by omega)]
    have h0 := hc (i * 3) (by omega)
    have h1 := hc (i * 3 + 1) (by omega)
    have h2 := hc (i * 3 + 2) (by omega)
    rw [f0] at h0
    rw [f1] at h1
    rw [f2] at h2
    rw [Nat.zero_add]
    exact ⟨_, _, _, h0, h1, h2, rfl, rfl, none, 0, rfl, by simp, Or.inl rfl⟩
end Go.Proofs.Ytkgpoibnilgaeaa
