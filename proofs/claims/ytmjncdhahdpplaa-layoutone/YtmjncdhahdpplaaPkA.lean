/-
  Parts of slices as letters, append of whatever row behind a row of the call's own, rows that append has put together and that may be written. No program's function is named.
-/
import Derived.Test.YtmjncdhahdpplaaLyX
import Derived.Laws.OwnMore
import Derived.Deep.RegionLaw
namespace Go.Proofs.Ytmjncdhahdpplaa
open Go.ChangeShapes Go.WideShapes Go.ChangeAt Go.RowKit
set_option linter.unusedVariables false
set_option maxRecDepth 100000
/-- Where a part of a slice begins. -/
def subA (a : Option Addr) (l c sz : Nat) : Option Addr := if c = l then a else a.map (·.add (l * sz))
theorem part_lh {P : Program} {t e : TypeId} {sz : Nat} (ht : P.underlying t = some (.slice e)) (hsz : (P.info? e).map (·.size) = some sz) (a : Option Addr) (n c l h : Nat) (kl kh : Int) (el : kl = (l : Int)) (eh : kh = (h : Int)) (h1 : l ≤ h) (h2 : h ≤ c) (W : World) :
    (Instr.sliceAt t (.slice a n c) (some (.int .i64 kl)) (some (.int .i64 kh)) none).run P W = .ok (.slice (subA a l c sz) (h - l) (c - l)) W := by
  subst el eh
  have he : P.elem t = e := by simp [Program.elem, ht]
  have ht' : P.underlying t = some (.slice (P.elem t)) := by rw [he]; exact ht
  obtain ⟨i, hi, hs⟩ := Option.map_eq_some_iff.1 hsz
  rw [run_sliceAt_slice W t _ _ _ _ ht', run_slice_lh W t a n c ht' .i64 .i64 l h (by omega) (by omega) (by omega), he]
  simp [sizeOf, typeInfo, hi, hs, sliced, subA]
theorem part_l {P : Program} {t e : TypeId} {sz : Nat} (ht : P.underlying t = some (.slice e)) (hsz : (P.info? e).map (·.size) = some sz) (a : Option Addr) (n c l : Nat) (kl : Int) (el : kl = (l : Int)) (h1 : l ≤ n) (W : World) :
    (Instr.sliceAt t (.slice a n c) (some (.int .i64 kl)) none none).run P W = .ok (.slice (subA a l c sz) (n - l) (c - l)) W := by
  subst el
  have he : P.elem t = e := by simp [Program.elem, ht]
  have ht' : P.underlying t = some (.slice (P.elem t)) := by rw [he]; exact ht
  obtain ⟨i, hi, hs⟩ := Option.map_eq_some_iff.1 hsz
  rw [run_sliceAt_slice W t _ _ _ _ ht', run_slice_l W t a n c ht' .i64 l (by omega) (by omega), he]
  simp [sizeOf, typeInfo, hi, hs, sliced, subA]
theorem part_h {P : Program} {t e : TypeId} {sz : Nat} (ht : P.underlying t = some (.slice e)) (hsz : (P.info? e).map (·.size) = some sz) (a : Option Addr) (n c h : Nat) (kh : Int) (eh : kh = (h : Int)) (h2 : h ≤ c) (W : World) :
    (Instr.sliceAt t (.slice a n c) none (some (.int .i64 kh)) none).run P W = .ok (.slice a h c) W := by
  subst eh
  have he : P.elem t = e := by simp [Program.elem, ht]
  have ht' : P.underlying t = some (.slice (P.elem t)) := by rw [he]; exact ht
  obtain ⟨i, hi, hs⟩ := Option.map_eq_some_iff.1 hsz
  rw [run_sliceAt_slice W t _ _ _ _ ht', run_slice_h W t a n c ht' .i64 h (by omega) (by omega), he]
  have : (if c = 0 then a else a.map (·.add 0)) = a := by
    split
    · rfl
    · cases a with
      | none => rfl
      | some p => cases p with | mk b o f => simp [Addr.add]
  simp [sizeOf, typeInfo, hi, hs, sliced, this]
/-- The part of a row of numbers. -/
theorem Row.part {lo : Nat} {w : World} {a : Option Addr} {zs : List Int} (R : Row lo w a zs) (l c m : Nat) (h1 : l + m ≤ zs.length) (h2 : zs.length ≤ c) : Row lo w (subA a l c 1) ((zs.drop l).take m) := by
  obtain ⟨r1, r2⟩ := R
  have hlen : ((zs.drop l).take m).length = m := by rw [List.length_take, List.length_drop]; omega
  refine ⟨by rw [hlen]; omega, ?_⟩
  by_cases hm : m = 0
  · left; exact List.eq_nil_of_length_eq_zero (by rw [hlen]; exact hm)
  · rcases r2 with rfl | ⟨b, off, rfl, hlo, hb, hc⟩
    · simp at h1; omega
    · refine Or.inr ⟨b, off + l, ?_, hlo, hb, fun i hi => ?_⟩
      · unfold subA; rw [if_neg (by omega)]; simp [Addr.add]
      · rw [hlen] at hi
        have := hc (l + i) (by omega)
        rw [show off + l + i = off + (l + i) by omega, this, List.getElem?_take_of_lt hi, List.getElem?_drop]
/-- The part of a row of cells. -/
theorem CellsIn.part {n lo : Nat} {w : World} {a : Option Addr} {cs : List Ce} (R : CellsIn n lo w cs a) (l c m : Nat) (h1 : l + m ≤ cs.length) (h2 : cs.length ≤ c) : CellsIn n lo w ((cs.drop l).take m) (subA a l c 3) := by
  have hlen : ((cs.drop l).take m).length = m := by rw [List.length_take, List.length_drop]; omega
  by_cases hm : m = 0
  · left; exact List.eq_nil_of_length_eq_zero (by rw [hlen]; exact hm)
  · rcases R with rfl | ⟨b, off, rfl, hlo, hb, hc⟩
    · simp at h1; omega
    · refine Or.inr ⟨b, off + l * 3, ?_, hlo, hb, fun i hi => ?_⟩
      · unfold subA; rw [if_neg (by omega)]; simp [Addr.add]
      · rw [hlen] at hi
        have := hc (l + i) (by omega)
        have e : cAt ((cs.drop l).take m) i = cAt cs (l + i) := by unfold cAt; rw [List.getElem?_take_of_lt hi, List.getElem?_drop]
        rw [e, show off + l * 3 + i * 3 = off + (l + i) * 3 by omega]
        exact this
theorem run_append_none_any {P : Program} {w : World} (base : Nat) (t ty e : TypeId) (i : TypeInfo) (size : Nat) (ht : P.underlying t = some (.slice e)) (hi : P.info? e = some i)
    (v : Value) (n c : Nat) (xs : List Value) (hown : w.ownsRow base e size v n xs) :
    (Builtin.append_ #[t, t] ty #[v, .slice none 0 c]).run P w = .ok v w := by
  rcases hown.2 with ⟨rfl, rfl⟩ | ⟨g, cap, cur, rfl, _, _, hnc, _⟩
  · simp [Builtin.append_, run_underlying ht, sizeOf, typeInfo, hi, Builtin.lenOf, Builtin.firstCells]
  · simp [Builtin.append_, run_underlying ht, sizeOf, typeInfo, hi, Builtin.lenOf, Builtin.firstCells, hnc, storeCells]
/-- Values that lie one behind the other from an address on, if there are any. -/
def Lies (w : World) (ad : Option Addr) (news : List Value) : Prop := (news = [] ∨ ∃ p, ad = some p ∧ p.block < w.heap.size ∧ ∀ j u, news[j]? = some u → w.cell? (p.add j) = some u) ∧ ∀ u ∈ news, u.oneCell' = true
theorem run_append_any {P : Program} {w : World} (base : Nat) (t ty e : TypeId) (i : TypeInfo) (z : Value) (size bytes : Nat) (ht : P.underlying t = some (.slice e)) (hi : P.info? e = some i) (hz : i.zero = some z)
    (hsize : i.size = size) (hby : i.bytes = bytes) (hzs : z.cells.size = size) (hsz : 0 < size)
    (v : Value) (n : Nat) (xs : List Value) (hown : w.ownsRow base e size v n xs)
    (ad : Option Addr) (m c : Nat) (news : List Value) (hl : news.length = m * size) (hnews : Lies w ad news)
    (h63 : n + m ≤ maxLen) (hbytes : (n + m) * bytes ≤ 140737488355328) (hbase : base ≤ w.heap.size) :
    ∃ v' w', (Builtin.append_ #[t, t] ty #[v, .slice ad m c]).run P w = .ok v' w' ∧ w'.ownsRow base e size v' (n + m) (xs ++ news) ∧ Below base w w' := by
  cases ad with
  | none =>
    have hn : news = [] := by
      rcases hnews.1 with h | ⟨p, hp, -⟩
      · exact h
      · cases hp
    subst hn
    have hm : m = 0 := by
      rcases Nat.eq_zero_or_pos m with h | h
      · exact h
      · have := Nat.mul_pos h hsz; simp at hl; omega
    subst hm
    exact ⟨v, w, run_append_none_any base t ty e i size ht hi v n c xs hown, by simpa using hown, Below.refl _ _⟩
  | some p =>
    have hc : ∀ j u, news[j]? = some u → w.cell? (p.add j) = some u := by
      rcases hnews.1 with h | ⟨q, hq, -, h⟩
      · subst h; intro j u hj; simp at hj
      · cases hq; exact h
    obtain ⟨v', w', hr, h2, h3, -⟩ := run_append_own (P := P) w base t ty e i z size bytes ht hi hz hsize hby hzs hsz v n xs hown p m c news hl hc hnews.2 h63 hbytes hbase
    exact ⟨v', w', hr, h2, (Below.refl _ _).grown h3 hbase (fun q hq => (hown.lt q hq).1)⟩
theorem wpList_append_any {P : Program} {w : World} {ops : Array Oper} {rest : List Oper} {o : Oper} {a : Act} {Q : Exit → Act → World → Prop} (hgd : o.guard = none) (s x : Operand) (t : TypeId)
    (ho : o.op = .call { callee := .builtin .append, args := #[s, x], argTypes := #[t, t] })
    (base : Nat) (e : TypeId) (i : TypeInfo) (z : Value) (size bytes : Nat) (ht : P.underlying t = some (.slice e)) (hi : P.info? e = some i) (hz : i.zero = some z)
    (hsize : i.size = size) (hby : i.bytes = bytes) (hzs : z.cells.size = size) (hsz : 0 < size)
    (v : Value) (n : Nat) (xs : List Value) (hs : a.eval s = v) (hown : w.ownsRow base e size v n xs)
    (ad : Option Addr) (m c : Nat) (news : List Value) (hx : a.eval x = .slice ad m c) (hl : news.length = m * size) (hnews : Lies w ad news)
    (h63 : n + m ≤ maxLen) (hbytes : (n + m) * bytes ≤ 140737488355328) (hbase : base ≤ w.heap.size)
    (h : ∀ v' w', w'.ownsRow base e size v' (n + m) (xs ++ news) → Below base w w' → wpList P ops Q rest (a.put o.dst v') w') : wpList P ops Q (o :: rest) a w := by
  obtain ⟨v', w', hr, h2, h3⟩ := run_append_any base t o.type e i z size bytes ht hi hz hsize hby hzs hsz v n xs hown ad m c news hl hnews h63 hbytes hbase
  exact wpList_append_run (by simp [Region.wanted, hgd]) s x t t ho _ _ hs hx v' w' hr (h v' w' h2 h3)
theorem step_append_any {P : Program} {w : World} {ops : Array Oper} {o : Oper} {a : Act} {K : Act → World → Prop} {Q : Exit → Act → World → Prop} {E : Prop} (hg : o.guard = none) (s x : Operand) (t : TypeId)
    (ho : o.op = .call { callee := .builtin .append, args := #[s, x], argTypes := #[t, t] })
    (base : Nat) (e : TypeId) (i : TypeInfo) (z : Value) (size bytes : Nat) (ht : P.underlying t = some (.slice e)) (hi : P.info? e = some i) (hz : i.zero = some z)
    (hsize : i.size = size) (hby : i.bytes = bytes) (hzs : z.cells.size = size) (hsz : 0 < size)
    (v : Value) (n : Nat) (xs : List Value) (hs : a.eval s = v) (hown : w.ownsRow base e size v n xs)
    (ad : Option Addr) (m c : Nat) (news : List Value) (hx : a.eval x = .slice ad m c) (hl : news.length = m * size) (hnews : Lies w ad news)
    (h63 : n + m ≤ maxLen) (hbytes : (n + m) * bytes ≤ 140737488355328) (hbase : base ≤ w.heap.size)
    (h : ∀ v' w', w'.ownsRow base e size v' (n + m) (xs ++ news) → Below base w w' → K (a.put o.dst v') w') : if Region.wanted o (yielded ops a.tmps) = true then Oper.wp P o a w K Q else E := by
  have hw : Region.wanted o (yielded ops a.tmps) = true := by simp [Region.wanted, hg]
  rw [if_pos hw]
  obtain ⟨v', w', hr, h2, h3⟩ := run_append_any base t o.type e i z size bytes ht hi hz hsize hby hzs hsz v n xs hown ad m c news hl hnews h63 hbytes hbase
  unfold Oper.wp execOp
  simp only [ho, resolve, invoke, builtin, Sem.run_bind, Sem.run_pure, Result.andThen_ok, List.map_toArray, List.map_cons, List.map_nil, hs, hx, hr]
  exact h v' w' h2 h3
theorem Row.lies {lo : Nat} {w : World} {a : Option Addr} {zs : List Int} (R : Row lo w a zs) : Lies w a (zs.map (Value.int .i64)) := by
  refine ⟨?_, fun u hu => by obtain ⟨y, -, rfl⟩ := List.mem_map.1 hu; rfl⟩
  rcases R.2 with rfl | ⟨b, off, rfl, -, hb, hc⟩
  · exact Or.inl rfl
  · refine Or.inr ⟨_, rfl, hb, fun j u hj => ?_⟩
    rw [List.getElem?_map] at hj
    obtain ⟨z, hz, rfl⟩ := Option.map_eq_some_iff.1 hj
    have hjl : j < zs.length := by
      rcases Nat.lt_or_ge j zs.length with h | h
      · exact h
      · rw [List.getElem?_eq_none h] at hz; cases hz
    rw [add_off, hc j hjl, hz]; rfl
/-- The three values of each cell. -/
def cellT (cs : List Ce) (ab : Nat → Option Addr) (cb : Nat → Nat) (i : Nat) : Value × Value × Value := (.int .i64 (cAt cs i).1, .int .i64 (cAt cs i).2.1, .slice (ab i) (cAt cs i).2.2.length (cb i))
theorem rowT_one (T : Nat → Value × Value × Value) (m : Nat) (h : ∀ i, i < m → (T i).1.oneCell' = true ∧ (T i).2.1.oneCell' = true ∧ (T i).2.2.oneCell' = true) : ∀ u ∈ rowT T m, u.oneCell' = true := by
  intro u hu
  unfold rowT at hu
  rw [List.mem_flatMap] at hu
  obtain ⟨i, hi, hu⟩ := hu
  have := h i (List.mem_range.1 hi)
  simp at hu
  rcases hu with rfl | rfl | rfl
  · exact this.1
  · exact this.2.1
  · exact this.2.2
/-- Cells of an array as values that lie one behind the other. -/
theorem cells_lie {n lo : Nat} {w : World} {cs : List Ce} {a : Option Addr} (h : CellsIn n lo w cs a) : ∃ (ab : Nat → Option Addr) (cb : Nat → Nat), Lies w a (rowT (cellT cs ab cb) cs.length) ∧ ∀ i, i < cs.length → CeIn (fun x v => ArIn n lo w x v) lo w (cAt cs i) (cellT cs ab cb i).1 (cellT cs ab cb i).2.1 (cellT cs ab cb i).2.2 := by
  obtain ⟨ab, cb, hf⟩ := cells_fn h
  refine ⟨ab, cb, ⟨?_, rowT_one _ _ fun i _ => ⟨rfl, rfl, rfl⟩⟩, fun i hi => ?_⟩
  · by_cases h0 : 0 < cs.length
    · obtain ⟨b, off, rfl, -, hb, hc⟩ := hf h0
      refine Or.inr ⟨_, rfl, hb, fun j u hj => ?_⟩
      have hjl : j < cs.length * 3 := by
        rcases Nat.lt_or_ge j (cs.length * 3) with h | h
        · exact h
        · rw [List.getElem?_eq_none (by rw [rowT_len]; exact h)] at hj; cases hj
      obtain ⟨t0, t1, t2⟩ := rowT_at (cellT cs ab cb) cs.length (j / 3) (by omega)
      obtain ⟨g0, g1, g2, -⟩ := hc (j / 3) (by omega)
      rw [add_off]
      have hm : j = j / 3 * 3 ∨ j = j / 3 * 3 + 1 ∨ j = j / 3 * 3 + 2 := by omega
      rcases hm with e | e | e
      · rw [← e] at t0 g0; rw [t0] at hj; cases hj; exact g0
      · rw [← e] at t1; rw [t1] at hj; cases hj
        rw [show off + j = off + j / 3 * 3 + 1 by omega]; exact g1
      · rw [← e] at t2; rw [t2] at hj; cases hj
        rw [show off + j = off + j / 3 * 3 + 2 by omega]; exact g2
    · have : cs.length = 0 := by omega
      rw [this]; exact Or.inl rfl
  · obtain ⟨b, off, rfl, -, hb, hc⟩ := hf (by omega)
    exact (hc i hi).2.2.2
/-- Rows that append has put together may be written. -/
theorem owns_softC {w : World} {base g cap n : Nat} {e : TypeId} {l : List Int} (hl : l.length = n) (h : w.ownsRow base e 1 (.slice (some ⟨g, 0, none⟩) n cap) n (l.map (Value.int .i64))) : SoftC w g l := by
  intro i hi
  refine ⟨?_, h.frozenAt i⟩
  rw [h.cellAt i (by omega), List.getElem?_map]
  unfold gI
  rw [List.getElem?_eq_getElem hi]; rfl
theorem Lies.next {w w' : World} {a : Option Addr} {l : List Value} (h : Lies w a l) (hb : Below w.heap.size w w') : Lies w' a l := by
  refine ⟨?_, h.2⟩
  rcases h.1 with h1 | ⟨p, hp, hl, h1⟩
  · exact Or.inl h1
  · refine Or.inr ⟨p, hp, Nat.lt_of_lt_of_le hl hb.size, fun j u hj => (hb.cell (p := p.add j) ?_).trans (h1 j u hj)⟩
    have e : (p.add j).block = p.block := by unfold Addr.add; split <;> rfl
    rw [e]; exact hl
end Go.Proofs.Ytmjncdhahdpplaa
