/-
  What a call of layer 10's statements is told of a program that came in: it is one of the plain programs, as deep as it may be; no condition.
-/
import Derived.Test.YtkgpoibnilgaeaaCoB
import Derived.Test.YtkgpoibnilgaeaaOwnS
import Derived.Test.YtkgpoibnilgaeaaOwnV
namespace Go.Proofs.Ytkgpoibnilgaeaa
open Go.ChangeShapes Go.WideShapes Go.ChangeAt Go.RowKit Go.Deep
set_option linter.unusedVariables false
theorem cells28 : Try.prog.cellsOf 28 = 7 := by kernel_rfl
theorem cells9 : Try.prog.cellsOf 9 = 1 := by kernel_rfl
theorem cells26 : Try.prog.cellsOf 26 = 1 := by kernel_rfl
theorem bytes28 : Try.prog.bytesOf 28 = 112 := by kernel_rfl
theorem fit_node {H : Type} {d0 d1 d2 d3 d4 d5 : DataW H} (h : Fit 28 (.agg [d0, d1, d2, d3, d4, d5])) : Fit 9 d2 ∧ Fit 25 d3 ∧ Fit 26 d4 := by
  unfold Fit at *
  simp only [DataW.weights, Try.underlying28, DataW.weightsEach, List.map_cons, List.map_nil, List.append_nil, List.mem_append] at h
  exact ⟨fun n hn => h n (Or.inr (Or.inr (Or.inl hn))), fun n hn => h n (Or.inr (Or.inr (Or.inr (Or.inl hn)))), fun n hn => h n (Or.inr (Or.inr (Or.inr (Or.inr (Or.inl hn)))))⟩
theorem seven_of {W : World} {a : Addr} {cs : List Value} (h : W.cells? 0 a 7 = some cs) : ∃ c0 c1 c2 c3 c4 c5 c6, cs = [c0, c1, c2, c3, c4, c5, c6] ∧ W.cell? a = some c0 ∧ W.cell? (a.add 1) = some c1 ∧ W.cell? (a.add 2) = some c2 ∧ W.cell? (a.add 3) = some c3 ∧ W.cell? (a.add 4) = some c4 ∧ W.cell? (a.add 5) = some c5 ∧ W.cell? (a.add 6) = some c6 := by
  obtain ⟨_, hl, hc⟩ := World.cells?_some h
  match cs, hl with
  | [c0, c1, c2, c3, c4, c5, c6], _ =>
    have h0 := hc 0 (by omega)
    have h1 := hc 1 (by omega)
    have h2 := hc 2 (by omega)
    have h3 := hc 3 (by omega)
    have h4 := hc 4 (by omega)
    have h5 := hc 5 (by omega)
    have h6 := hc 6 (by omega)
    exact ⟨c0, c1, c2, c3, c4, c5, c6, rfl, by simpa [Addr.add] using h0, by simpa using h1, by simpa using h2, by simpa using h3, by simpa using h4, by simpa using h5, by simpa using h6⟩
instance : Inhabited Nd := ⟨nNil⟩
section
variable {H : Type} {enc : TypeId × Value → H} {W : World} {sp : Nat → Bool} {held : Bool}
theorem trod_struct6 {P : Program} {w : World} {base : Nat} {spare : Nat → Bool} {t : TypeId} {f0 f1 f2 f3 f4 f5 : Field} {fuel : Nat} {cs : List Value} {x : DataW H × List MemPlace} (ht : P.underlying t = some (.struct #[f0, f1, f2, f3, f4, f5])) (h : DataW.trod enc P w base spare held fuel t cs = some x) :
    ∃ y0 y1 y2 y3 y4 y5 n, x.1 = .agg [y0.1, y1.1, y2.1, y3.1, y4.1, y5.1] ∧ cs.length = P.cellsOf t ∧ DataW.trod enc P w base spare held n f0.type ((cs.drop f0.offset).take (P.cellsOf f0.type)) = some y0 ∧
      DataW.trod enc P w base spare held n f1.type ((cs.drop f1.offset).take (P.cellsOf f1.type)) = some y1 ∧ DataW.trod enc P w base spare held n f2.type ((cs.drop f2.offset).take (P.cellsOf f2.type)) = some y2 ∧ DataW.trod enc P w base spare held n f3.type ((cs.drop f3.offset).take (P.cellsOf f3.type)) = some y3 ∧
      DataW.trod enc P w base spare held n f4.type ((cs.drop f4.offset).take (P.cellsOf f4.type)) = some y4 ∧ DataW.trod enc P w base spare held n f5.type ((cs.drop f5.offset).take (P.cellsOf f5.type)) = some y5 := by
  obtain ⟨xs, n, _, rfl, hl, hlen, hf⟩ := DataW.trod_struct ht h
  match xs, hlen with
  | [y0, y1, y2, y3, y4, y5], _ => exact ⟨y0, y1, y2, y3, y4, y5, n, by simp, hl, by simpa using hf 0 f0 rfl, by simpa using hf 1 f1 rfl, by simpa using hf 2 f2 rfl, by simpa using hf 3 f3 rfl, by simpa using hf 4 f4 rfl, by simpa using hf 5 f5 rfl⟩
/-- What the opening of a program promises. -/
def OpensN (enc : TypeId × Value → H) (W : World) (sp : Nat → Bool) (held : Bool) (k : Nat) : Prop := ∀ (x : DataW H × List MemPlace) (cs : List Value) (fuel : Nat), SizeOf.sizeOf x.1 < k → DataW.trod enc Try.prog W 0 sp held fuel 28 cs = some x → Fit 28 x.1 →
  ∃ m n y c0 c1 c2 c3 c4 c5 c6, cs = [c0, c1, c2, c3, c4, c5, c6] ∧ NdIn m n 0 W y (.agg #[c0, c1, c2, c3, c4, c5, c6])
theorem open_node (k : Nat) : OpensN enc W sp held k := by
  induction k with
  | zero => intro x cs fuel hk; omega
  | succ k ih =>
    intro x cs fuel hk h hf
    obtain ⟨y0, y1, y2, y3, y4, y5, n0, hx0, hl, h0, h1, h2, h3, h4, h5⟩ := trod_struct6 Try.underlying28 h
    rw [cells28] at hl
    match cs, hl with
    | [v0, v1, v2, v3, v4, v5, v6], _ =>
      simp only [cells3, cells9, cells25, cells26, List.drop_zero, List.take_succ_cons, List.take_zero, List.drop_succ_cons] at h0 h1 h2 h3 h4 h5
      rw [hx0] at hf
      obtain ⟨f2, f3, f4⟩ := fit_node hf
      obtain ⟨z0, e0, -, -⟩ := DataW.trod_int Try.underlying3 h0
      obtain ⟨z1, e1, -, -⟩ := DataW.trod_int Try.underlying3 h1
      obtain ⟨s2, e2, r2, -⟩ := DataW.trod_string Try.underlying9 h2
      have l2 : s2.size ≤ 140737488355328 := by
        have hh := f2 s2.data.toList.length (by rw [r2]; simp [DataW.weights])
        have h3 : s2.data.toList.length = s2.size := Array.length_toList
        unfold reachBytes at hh
        omega
      obtain ⟨z5, e5, -, -⟩ := DataW.trod_int Try.underlying3 h5
      simp only [List.cons.injEq, and_true] at e0 e1 e2 e5
      subst e0 e1 e2 e5
      obtain ⟨n3, A, c0, c1, hc3, hA, -⟩ := open_arr (SizeOf.sizeOf y3.1 + 1) y3 _ n0 (by omega) h3 f3
      simp only [List.cons.injEq, and_true] at hc3
      obtain ⟨rfl, rfl⟩ := hc3
      have hAf : ∃ a1 k1 a2 k2, v3 = .slice a1 A.shape.length k1 ∧ v4 = .slice a2 A.cells.length k2 := by
        cases n3 with
        | zero => exact hA.elim
        | succ n3 =>
          obtain ⟨a1, k1, a2, k2, hv, -⟩ := hA
          simp only [Value.agg.injEq, Array.mk.injEq, List.cons.injEq, and_true] at hv
          exact ⟨a1, k1, a2, k2, hv.1, hv.2⟩
      obtain ⟨a1, k1, a2, k2, rfl, rfl⟩ := hAf
      rcases open_slice Try.underlying26 h4 with ⟨hcs, hx⟩ | ⟨a, len, cap, mm, n, D, Pl, hcs, _, hlc, hm, hmm, hx, hel⟩
      · simp only [List.cons.injEq, and_true] at hcs
        subst hcs
        exact ⟨1, n3, .mk z0 z1 s2 A [] z5, _, _, _, _, _, _, _, rfl, ⟨a1, k1, a2, k2, none, 0, rfl, hA, by simp [Nd.kids], l2, Or.inl rfl⟩⟩
      · simp only [List.cons.injEq, and_true] at hcs
        subst hcs
        rw [hx] at f4
        obtain ⟨hb, hfe⟩ := fit_slice Try.underlying26 f4
        have hlen : len * 112 ≤ reachBytes := by
          rw [bytes28] at hb
          simp only [List.length_map, List.length_range] at hb
          omega
        have hlm : len ≤ mm := by rw [hmm]; split <;> omega
        have hE : ∀ i, i < len → ∃ p : Nd × (Value × Value × Value × Value × Value × Value × Value), ∃ mn : Nat × Nat, W.cell? (a.add (i * 7)) = some p.2.1 ∧ W.cell? (a.add (i * 7 + 1)) = some p.2.2.1 ∧ W.cell? (a.add (i * 7 + 2)) = some p.2.2.2.1 ∧ W.cell? (a.add (i * 7 + 3)) = some p.2.2.2.2.1 ∧ W.cell? (a.add (i * 7 + 4)) = some p.2.2.2.2.2.1 ∧ W.cell? (a.add (i * 7 + 5)) = some p.2.2.2.2.2.2.1 ∧ W.cell? (a.add (i * 7 + 6)) = some p.2.2.2.2.2.2.2 ∧ NdIn mn.1 mn.2 0 W p.1 (.agg #[p.2.1, p.2.2.1, p.2.2.2.1, p.2.2.2.2.1, p.2.2.2.2.2.1, p.2.2.2.2.2.2.1, p.2.2.2.2.2.2.2]) := by
          intro i hi
          obtain ⟨cs', hc', ht'⟩ := hel i (by omega)
          rw [cells28] at hc'
          obtain ⟨w0, w1, w2, w3, w4, w5, w6, rfl, g0, g1, g2, g3, g4, g5, g6⟩ := seven_of hc'
          rw [add_add] at g1 g2 g3 g4 g5 g6
          have hmem : D i ∈ (List.range len).map D := List.mem_map_of_mem (List.mem_range.2 hi)
          have hs : SizeOf.sizeOf (D i) < k := by
            have s1 := List.sizeOf_lt_of_mem hmem
            have s2 : SizeOf.sizeOf y4.1 < SizeOf.sizeOf x.1 := by
              rw [hx0]
              simp only [DataW.agg.sizeOf_spec, List.cons.sizeOf_spec, List.nil.sizeOf_spec]
              omega
            rw [hx] at s2
            simp only [DataW.slice.sizeOf_spec] at s2
            omega
          obtain ⟨m', n', y, c0, c1, c2, c3, c4, c5, c6, hcc, hin⟩ := ih (D i, Pl i) _ n hs ht' (hfe _ hmem)
          simp only [List.cons.injEq, and_true] at hcc
          obtain ⟨rfl, rfl, rfl, rfl, rfl, rfl, rfl⟩ := hcc
          exact ⟨(y, w0, w1, w2, w3, w4, w5, w6), (m', n'), g0, g1, g2, g3, g4, g5, g6, hin⟩
        obtain ⟨F, hF⟩ := choose_lt hE
        obtain ⟨M, hM⟩ := fuel_lt (n := len) (q := fun i m => ∃ n, NdIn m n 0 W (F i).1 (.agg #[(F i).2.1, (F i).2.2.1, (F i).2.2.2.1, (F i).2.2.2.2.1, (F i).2.2.2.2.2.1, (F i).2.2.2.2.2.2.1, (F i).2.2.2.2.2.2.2])) (fun i a b hab ⟨n, h⟩ => ⟨n, h.deep hab⟩) (fun i hi => by obtain ⟨mn, _, _, _, _, _, _, _, h⟩ := hF i hi; exact ⟨mn.1, mn.2, h⟩)
        obtain ⟨N, hN⟩ := fuel_lt (n := len) (q := fun i n => NdIn M n 0 W (F i).1 (.agg #[(F i).2.1, (F i).2.2.1, (F i).2.2.2.1, (F i).2.2.2.2.1, (F i).2.2.2.2.2.1, (F i).2.2.2.2.2.2.1, (F i).2.2.2.2.2.2.2])) (fun i a b hab h => h.boxes hab) hM
        have hbl : ((List.range len).map fun i => (F i).1).length = len := by simp
        refine ⟨M + 1, max n3 N, .mk z0 z1 s2 A ((List.range len).map fun i => (F i).1) z5, _, _, _, _, _, _, _, rfl, ⟨a1, k1, a2, k2, some a, cap, ?_, hA.deep (by omega), ?_, ?_, ?_⟩⟩
        · show Value.agg #[_, _, _, _, _, .slice (some a) len cap, _] = Value.agg #[_, _, _, _, _, .slice (some a) ((List.range len).map fun i => (F i).1).length cap, _]
          rw [hbl]
          rfl
        · show ((List.range len).map fun i => (F i).1).length ≤ _
          rw [hbl]; unfold reachBytes at hlen; omega
        · exact l2
        · show ((List.range len).map fun i => (F i).1) = [] ∨ _
          by_cases hl0 : len = 0
          · left; subst hl0; rfl
          · right
            obtain ⟨b, off, spot⟩ := a
            obtain ⟨_, g0, _⟩ := hF 0 (by omega)
            have hspot : spot = none := by simpa [Addr.add] using World.cell?_spot g0
            subst hspot
            refine ⟨b, off, rfl, Nat.zero_le _, ?_, ?_⟩
            · refine Decidable.byContradiction fun hbn => ?_
              have : W.heap[b]? = none := by simp; omega
              rw [add_off] at g0
              simp [World.cell?, this] at g0
            · intro j hj
              have hj' : j < len := by
                have : j < ((List.range len).map fun i => (F i).1).length := hj
                rw [hbl] at this
                exact this
              have hy : nAt ((List.range len).map fun i => (F i).1) j = (F j).1 := by simp [nAt, hj']
              obtain ⟨_, g0, g1, g2, g3, g4, g5, g6, _⟩ := hF j hj'
              rw [add_off] at g0 g1 g2 g3 g4 g5 g6
              have hin : NdIn M (max n3 N) 0 W (F j).1 _ := (hN j hj').boxes (Nat.le_max_right n3 N)
              obtain ⟨m', hm', d1, q1, d2, q2, dk, ek, hv, -⟩ := hin.form
              unfold ndV at hv
              simp only [Value.agg.injEq, Array.mk.injEq, List.cons.injEq, and_true] at hv
              obtain ⟨e0, e1, e2, e3, e4, e5, e6⟩ := hv
              show ∃ d1 e1 d2 e2 dk ek, Seven W b (off + j * 7) (nAt ((List.range len).map fun i => (F i).1) j) d1 e1 d2 e2 dk ek ∧ NdIn M (max n3 N) 0 W (nAt ((List.range len).map fun i => (F i).1) j) (ndV (nAt ((List.range len).map fun i => (F i).1) j) d1 e1 d2 e2 dk ek)
              rw [hy]
              refine ⟨d1, q1, d2, q2, dk, ek, ⟨?_, ?_, ?_, ?_, ?_, ?_, ?_⟩, ?_⟩
              · rw [← e0]; exact g0
              · rw [← e1, Nat.add_assoc]; exact g1
              · rw [← e2, Nat.add_assoc]; exact g2
              · rw [← e3, Nat.add_assoc]; exact g3
              · rw [← e4, Nat.add_assoc]; exact g4
              · rw [← e5, Nat.add_assoc]; exact g5
              · rw [← e6, Nat.add_assoc]; exact g6
              · unfold ndV
                rw [← e0, ← e1, ← e2, ← e3, ← e4, ← e5, ← e6]
                exact hin
/-- A program that came in. -/
theorem node_of {ts : List TypeId} {ds : List (DataW H)} {j : Nat} {d : DataW H} {v : Value} {p : List MemPlace}
    (hsz : (DataW.weightsEach Try.prog ts ds).all (· ≤ reachBytes) = true) (ht : ts[j]? = some 28) (hd : ds[j]? = some d)
    (h : DataW.Trod enc Try.prog W 0 sp held 28 v d p) : ∃ m n y c0 c1 c2 c3 c4 c5 c6, v.cells.toList = [c0, c1, c2, c3, c4, c5, c6] ∧ NdIn m n 0 W y (.agg #[c0, c1, c2, c3, c4, c5, c6]) := by
  obtain ⟨fuel, hf⟩ := h
  exact open_node (SizeOf.sizeOf d + 1) (d, p) _ fuel (by simp) hf (fun n hn => by
    have := List.all_eq_true.1 hsz n (DataW.weights_mem_each ht hd n hn)
    simpa using this)
end
theorem agg_seven {v c0 c1 c2 c3 c4 c5 c6 : Value} (h : v.cells.toList = [c0, c1, c2, c3, c4, c5, c6]) : v = .agg #[c0, c1, c2, c3, c4, c5, c6] := by
  cases v with
  | agg cs =>
    simp only [Value.cells] at h
    congr 1
    cases cs
    simpa using h
  | _ => simp [Value.cells] at h
end Go.Proofs.Ytkgpoibnilgaeaa
