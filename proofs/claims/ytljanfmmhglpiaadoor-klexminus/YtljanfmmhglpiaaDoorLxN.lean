/-
  Words in memory, and the mathematics of the loop that reads them one behind the other.
-/
import Derived.Test.YtljanfmmhglpiaaDoorLxM
import Derived.Maps.AppendAt
namespace Go.Proofs.YtljanfmmhglpiaaDoor
open Go.ChangeShapes Go.WideShapes Go.ChangeAt Go.RowKit
open Rn (Byte)
set_option maxRecDepth 100000
set_option linter.unusedVariables false
set_option linter.unusedSimpArgs false
theorem wpList_append_at {P : Program} {w : World} {ops : Array Oper} {rest : List Oper} {o : Oper} {a : Act} {Q : Exit → Act → World → Prop} (hgd : o.guard = none) (s x : Operand) (t : TypeId)
    (ho : o.op = .call { callee := .builtin .append, args := #[s, x], argTypes := #[t, t] })
    (base : Nat) (e : TypeId) (i : TypeInfo) (z : Value) (size bytes : Nat) (ht : P.underlying t = some (.slice e)) (hi : P.info? e = some i) (hz : i.zero = some z)
    (hsize : i.size = size) (hby : i.bytes = bytes) (hzs : z.cells.size = size) (hsz : 0 < size)
    (v : Value) (n : Nat) (xs : List Value) (hs : a.eval s = v) (hown : w.ownsRow base e size v n xs)
    (ad : Addr) (m c : Nat) (news : List Value) (hx : a.eval x = .slice (some ad) m c) (hl : news.length = m * size) (hnews : ∀ j u, news[j]? = some u → w.cell? (ad.add j) = some u) (h1 : ∀ u ∈ news, u.oneCell' = true)
    (h63 : n + m ≤ maxLen) (hbytes : (n + m) * bytes ≤ 140737488355328) (hbase : base ≤ w.heap.size)
    (h : ∀ v' w', w'.ownsRow base e size v' (n + m) (xs ++ news) → w.grownBy w' v.ownBlock → (v'.ownBlock = v.ownBlock ∨ v'.ownBlock = some w.heap.size) → wpList P ops Q rest (a.put o.dst v') w') : wpList P ops Q (o :: rest) a w := by
  refine wpList_plain hgd fun _ hK => ?_
  obtain ⟨v', w', hr, h2, h3, -, h5⟩ := run_append_own_at (P := P) w base t o.type e i z size bytes ht hi hz hsize hby hzs hsz v n xs hown ad m c news hl hnews h1 h63 hbytes hbase
  unfold Oper.wp execOp
  simp only [ho, resolve, invoke, builtin, Sem.run_bind, Sem.run_pure, Result.andThen_ok, List.map_toArray, List.map_cons, List.map_nil, hs, hx, hr]
  exact hK _ _ (h v' w' h2 h3 h5)
/-- All blocks but two are as they were. -/
def KB (s : Nat) (g : Option Nat) (w W : World) : Prop := w.heap.size ≤ W.heap.size ∧ ∀ k, k < w.heap.size → k ≠ s → some k ≠ g → W.heap[k]? = w.heap[k]?
/-- A value off that block. -/
def LitIn (s : Nat) (g : Option Nat) (w : World) (x : Ar) (v : Value) : Prop := ∀ W, KB s g w W → ArIn 1 0 W x v
theorem LitIn.next {s : Nat} {g : Option Nat} {w w' : World} {x : Ar} {v : Value} (h : LitIn s g w x v) (hb : Below w.heap.size w w') : LitIn s g w' x v :=
  fun W hW => h W ⟨Nat.le_trans hb.size hW.1, fun k hk hs hg => (hW.2 k (Nat.lt_of_lt_of_le hk hb.size) hs hg).trans (hb.block k hk)⟩
theorem LitIn.grow {s : Nat} {g g' : Option Nat} {w w' : World} {x : Ar} {v : Value} (h : LitIn s g w x v) (hg : w.grownBy w' g) (hn : g' = g ∨ g' = some w.heap.size) : LitIn s g' w' x v :=
  fun W hW => h W ⟨Nat.le_trans hg.size hW.1, fun k hk hs hk' => (hW.2 k (Nat.lt_of_lt_of_le hk hg.size) hs (fun e => by
    rcases hn with hn | hn
    · exact hk' (e.trans hn)
    · rw [hn] at e; cases e; omega)).trans (hg.block k hk hk')⟩
/-- A value that was made behind these blocks. -/
theorem LitIn.of {s : Nat} {g : Option Nat} {w : World} {x : Ar} {v : Value} {lo : Nat} (h : ArIn 1 lo w x v) (hs : s < lo) (hg : ∀ k, g = some k → k < lo) : LitIn s g w x v :=
  fun W hW => (h.keeps ⟨hW.1, fun b h1 h2 => hW.2 b h2 (by omega) (fun e => by have := hg b e.symm; omega)⟩).low (Nat.zero_le _)
/-- Words as values, five each. -/
def TkL (s : Nat) (g : Option Nat) (w : World) (ts : List Tk) (vs : List Value) : Prop := ∀ i t, ts[i]? = some t → ∃ z1 m1 z2 m2, vs[i * 5]? = some (.int .i64 t.kind) ∧ vs[i * 5 + 1]? = some (.string (strOfNums t.text)) ∧ vs[i * 5 + 2]? = some (.slice z1 t.lit.shape.length m1) ∧ vs[i * 5 + 3]? = some (.slice z2 t.lit.cells.length m2) ∧ vs[i * 5 + 4]? = some (.int .i64 (t.at' : Int)) ∧ LitIn s g w t.lit (.agg #[.slice z1 t.lit.shape.length m1, .slice z2 t.lit.cells.length m2])
theorem TkL.nil (s : Nat) (g : Option Nat) (w : World) : TkL s g w [] [] := fun i t h => by simp at h
theorem TkL.next {s : Nat} {g : Option Nat} {w w' : World} {ts : List Tk} {vs : List Value} (h : TkL s g w ts vs) (hb : Below w.heap.size w w') : TkL s g w' ts vs := fun i t hi => by
  obtain ⟨z1, m1, z2, m2, a, b, c, d, e, f⟩ := h i t hi
  exact ⟨z1, m1, z2, m2, a, b, c, d, e, f.next hb⟩
theorem TkL.snoc {s : Nat} {g g' : Option Nat} {w w' : World} {ts : List Tk} {vs : List Value} {t : Tk} {z1 z2 : Option Addr} {m1 m2 : Nat} (h : TkL s g w ts vs) (hl : vs.length = ts.length * 5) (ht : LitIn s g w t.lit (.agg #[.slice z1 t.lit.shape.length m1, .slice z2 t.lit.cells.length m2])) (hg : w.grownBy w' g) (hn : g' = g ∨ g' = some w.heap.size) :
    TkL s g' w' (ts ++ [t]) (vs ++ [.int .i64 t.kind, .string (strOfNums t.text), .slice z1 t.lit.shape.length m1, .slice z2 t.lit.cells.length m2, .int .i64 (t.at' : Int)]) := by
  intro i u hi
  by_cases hlt : i < ts.length
  · rw [List.getElem?_append_left hlt] at hi
    obtain ⟨y1, k1, y2, k2, a, b, c, d, e, f⟩ := h i u hi
    have lf : ∀ j, j < vs.length → ∀ x, vs[j]? = some x → (vs ++ [.int .i64 t.kind, .string (strOfNums t.text), .slice z1 t.lit.shape.length m1, .slice z2 t.lit.cells.length m2, .int .i64 (t.at' : Int)])[j]? = some x := fun j hj x hx => by rw [List.getElem?_append_left hj]; exact hx
    exact ⟨y1, k1, y2, k2, lf _ (by omega) _ a, lf _ (by omega) _ b, lf _ (by omega) _ c, lf _ (by omega) _ d, lf _ (by omega) _ e, f.grow hg hn⟩
  · have hie : i = ts.length := by
      have := (List.getElem?_eq_some_iff.1 hi).1
      rw [List.length_append] at this
      simp at this
      omega
    subst hie
    rw [List.getElem?_append_right (Nat.le_refl _)] at hi
    simp at hi
    subst hi
    have rf : ∀ j x, ([.int .i64 t.kind, .string (strOfNums t.text), .slice z1 t.lit.shape.length m1, .slice z2 t.lit.cells.length m2, .int .i64 (t.at' : Int)] : List Value)[j]? = some x → (vs ++ [.int .i64 t.kind, .string (strOfNums t.text), .slice z1 t.lit.shape.length m1, .slice z2 t.lit.cells.length m2, .int .i64 (t.at' : Int)])[ts.length * 5 + j]? = some x := fun j x hx => by
      rw [List.getElem?_append_right (by omega), show ts.length * 5 + j - vs.length = j by omega]; exact hx
    exact ⟨z1, m1, z2, m2, rf 0 _ rfl, rf 1 _ rfl, rf 2 _ rfl, rf 3 _ rfl, rf 4 _ rfl, ht.grow hg hn⟩
/-- Words in memory, at an address. -/
def TkIn (w : World) (a : Option Addr) (ts : List Tk) : Prop := ts.length ≤ 2048 ∧ (ts = [] ∨ ∃ g off, a = some ⟨g, off, none⟩ ∧ g < w.heap.size ∧ ∀ i t, ts[i]? = some t → ∃ z1 m1 z2 m2, w.cell? ⟨g, off + i * 5, none⟩ = some (.int .i64 t.kind) ∧ w.cell? ⟨g, off + i * 5 + 1, none⟩ = some (.string (strOfNums t.text)) ∧ w.cell? ⟨g, off + i * 5 + 2, none⟩ = some (.slice z1 t.lit.shape.length m1) ∧ w.cell? ⟨g, off + i * 5 + 3, none⟩ = some (.slice z2 t.lit.cells.length m2) ∧ w.cell? ⟨g, off + i * 5 + 4, none⟩ = some (.int .i64 (t.at' : Int)) ∧ ArIn 1 0 w t.lit (.agg #[.slice z1 t.lit.shape.length m1, .slice z2 t.lit.cells.length m2]))
theorem TkIn.next {w w' : World} {a : Option Addr} {ts : List Tk} (h : TkIn w a ts) (hb : Below w.heap.size w w') : TkIn w' a ts := by
  refine ⟨h.1, ?_⟩
  rcases h.2 with h | ⟨g, off, ha, hg, hc⟩
  · exact Or.inl h
  · refine Or.inr ⟨g, off, ha, Nat.lt_of_lt_of_le hg hb.size, fun i t hi => ?_⟩
    obtain ⟨z1, m1, z2, m2, a0, a1, a2, a3, a4, a5⟩ := hc i t hi
    have c : ∀ o v, w.cell? ⟨g, o, none⟩ = some v → w'.cell? ⟨g, o, none⟩ = some v := fun o v hv => (hb.cell (p := ⟨g, o, none⟩) hg).trans hv
    exact ⟨z1, m1, z2, m2, c _ _ a0, c _ _ a1, c _ _ a2, c _ _ a3, c _ _ a4, a5.next hb⟩
theorem tkIn_of {w : World} {base s : Nat} {v : Value} {ts : List Tk} {vs : List Value} (hs : s < base) (hown : w.ownsRow base 35 5 v ts.length vs) (h : TkL s v.ownBlock w ts vs) (hl : ts.length ≤ 2048) : ∃ a c, v = .slice a ts.length c ∧ ∀ W, w.heap.size ≤ W.heap.size → (∀ k, k < w.heap.size → k ≠ s → W.heap[k]? = w.heap[k]?) → TkIn W a ts := by
  have hown' := hown
  obtain ⟨h1, h2⟩ := hown
  rcases h2 with ⟨rfl, h2⟩ | ⟨g, cap, cur, rfl, hb, hg, hn, hm, hz, ht⟩
  · have e : ts = [] := List.eq_nil_of_length_eq_zero h2
    subst e
    exact ⟨none, 0, rfl, fun W _ _ => ⟨by simp, Or.inl rfl⟩⟩
  · refine ⟨_, _, rfl, fun W hW1 hW2 => ⟨hl, Or.inr ⟨g, 0, rfl, Nat.lt_of_lt_of_le (lt_of_block hg) hW1, fun i t hi => ?_⟩⟩⟩
    have hlt := (List.getElem?_eq_some_iff.1 hi).1
    obtain ⟨z1, m1, z2, m2, a0, a1, a2, a3, a4, a5⟩ := h i t hi
    have c : ∀ j x, j < ts.length * 5 → vs[j]? = some x → W.cell? ⟨g, 0 + j, none⟩ = some x := fun j x hj hx => by
      have := hown'.cellAt j hj
      rw [hx] at this
      rw [World.cell?_of_block (w := w) (a := ⟨g, 0 + j, none⟩) (hW2 g (lt_of_block hg) (by omega))]
      simpa using this
    exact ⟨z1, m1, z2, m2, c _ _ (by omega) a0, c (i * 5 + 1) _ (by omega) a1, c (i * 5 + 2) _ (by omega) a2, c (i * 5 + 3) _ (by omega) a3, c (i * 5 + 4) _ (by omega) a4, a5 W ⟨hW1, fun k hk h1 _ => hW2 k hk h1⟩⟩
/-- The words from a place on behind those that were read. -/
def jn (ts : List Tk) (q : List Tk × Int × Nat) : List Tk × Int × Nat := if q.2.1 = 0 then (ts ++ q.1, 0, 0) else ([], q.2)
def LX (B : List Int) (n p : Nat) : List Tk × Int × Nat := lexB (B.length + 1) n p (ahd 32 B p) (B.drop p)
theorem lead_drop (p : Int → Bool) (l : List Int) : lead p (l.drop (lead p l)) = 0 := by
  cases h : l.drop (lead p l) with
  | nil => rfl
  | cons c t => simp only [lead]; rw [if_neg (by rw [lead_stop p l c t h]; simp)]
theorem wrd_at {v : Int} {l : List Int} (h : lead blB l = 0) : wrd v l = readW v l := by
  unfold wrd
  rw [h]
  rfl
theorem wrd_skip (v : Int) (l : List Int) : wrd (ahd v l (lead blB l)) (l.drop (lead blB l)) = wrd v l := wrd_at (lead_drop _ _)
theorem lexB_skip (f n p : Nat) (v : Int) (l : List Int) : lexB f n p v l = lexB f n (p + lead blB l) (ahd v l (lead blB l)) (l.drop (lead blB l)) := by
  cases f with
  | zero => rfl
  | succ f =>
    rw [lexB, lexB, wrd_skip, lead_drop]
    simp only [List.drop_zero, Nat.add_zero, Nat.zero_add, ahd_zero, ahd_drop, List.drop_drop]
theorem lexM_start {B : List Int} (h : B.length ≤ 8192) : lexM B = jn [] (LX B 0 (lead blB B)) := by
  unfold lexM LX
  rw [if_neg (by omega), lexB_skip, Nat.zero_add]
  generalize hq : lexB (B.length + 1) 0 (lead blB B) (ahd 32 B (lead blB B)) (B.drop (lead blB B)) = q
  have hz := lexB_zero (B.length + 1) 0 (lead blB B) (ahd 32 B (lead blB B)) (B.drop (lead blB B))
  rw [hq] at hz
  unfold jn
  split
  · rename_i h0
    exact Prod.ext (by simp) (Prod.ext h0 (hz h0))
  · rename_i h0
    refine Prod.ext ?_ rfl
    rw [← hq] at h0 ⊢
    rw [lexB] at h0 ⊢
    split
    · rfl
    · rename_i h1
      rw [if_neg h1] at h0
      split
      · rfl
      · rename_i h2
        rw [if_neg h2] at h0
        split
        · rfl
        · rename_i h3
          rw [if_neg h3] at h0
          split
          · rfl
          · rename_i h4
            rw [if_neg h4] at h0
            exact absurd rfl h0
/-- What is read at a place. -/
def RW (B : List Int) (p : Nat) : Rd := readW (ahd 32 B p) (B.drop p)
def EndP (B : List Int) (p : Nat) : Prop := B.drop p = [] ∨ remB (ahd 32 B p) (B.drop p) = true
theorem LX_eq {B : List Int} {n p : Nat} (hp : lead blB (B.drop p) = 0) : LX B n p = (open Classical in if EndP B p then ([], 0, 0) else
    if ¬ (RW B p).kind = 0 ∧ n = 2048 then ([], 14, p) else
    if ¬ (RW B p).err = 0 then ([], (RW B p).err, p + (RW B p).ea) else
    if ¬ (lexB B.length (n + 1) (p + (RW B p).stop) (ahd 32 B (p + (RW B p).stop)) (B.drop (p + (RW B p).stop))).2.1 = 0 then
      ([], (lexB B.length (n + 1) (p + (RW B p).stop) (ahd 32 B (p + (RW B p).stop)) (B.drop (p + (RW B p).stop))).2) else
    (⟨(RW B p).kind, (RW B p).text, (RW B p).lit, p⟩ :: (lexB B.length (n + 1) (p + (RW B p).stop) (ahd 32 B (p + (RW B p).stop)) (B.drop (p + (RW B p).stop))).1, 0, 0)) := by
  have h := wrd_at (v := ahd 32 B p) hp
  unfold LX
  rw [lexB, h, hp]
  simp only [List.drop_zero, Nat.add_zero, Nat.zero_add, ahd_zero, ahd_drop, List.drop_drop]
  unfold RW EndP
  congr
theorem LX_end {B : List Int} {n p : Nat} (hp : lead blB (B.drop p) = 0) (h : EndP B p) : LX B n p = ([], 0, 0) := by
  rw [LX_eq hp, if_pos h]
theorem LX_long {B : List Int} {n p : Nat} (hp : lead blB (B.drop p) = 0) (h : ¬ EndP B p) (hk : ¬ (RW B p).kind = 0 ∧ n = 2048) : LX B n p = ([], 14, p) := by
  rw [LX_eq hp, if_neg h, if_pos hk]
theorem LX_bad {B : List Int} {n p : Nat} (hp : lead blB (B.drop p) = 0) (h : ¬ EndP B p) (hk : ¬ (¬ (RW B p).kind = 0 ∧ n = 2048)) (he : ¬ (RW B p).err = 0) : LX B n p = ([], (RW B p).err, p + (RW B p).ea) := by
  rw [LX_eq hp, if_neg h, if_neg hk, if_pos he]
theorem LX_go {B : List Int} {n p : Nat} {ts : List Tk} (hp : lead blB (B.drop p) = 0) (h : ¬ EndP B p) (hk : ¬ (¬ (RW B p).kind = 0 ∧ n = 2048)) (he : (RW B p).err = 0) :
    jn ts (LX B n p) = jn (ts ++ [⟨(RW B p).kind, (RW B p).text, (RW B p).lit, p⟩]) (LX B (n + 1) (p + (RW B p).stop + lead blB (B.drop (p + (RW B p).stop)))) := by
  have hne : B.drop p ≠ [] := fun h0 => h (Or.inl h0)
  obtain ⟨s1, s2, -⟩ := (readW_end (v := ahd 32 B p) hne).1 he
  rw [List.length_drop] at s2
  have s1' : 1 ≤ (RW B p).stop := s1
  have s2' : (RW B p).stop ≤ B.length - p := s2
  have hsk := lexB_skip B.length (n + 1) (p + (RW B p).stop) (ahd 32 B (p + (RW B p).stop)) (B.drop (p + (RW B p).stop))
  rw [ahd_drop, List.drop_drop] at hsk
  rw [LX_eq hp, if_neg h, if_neg hk, if_neg (fun hh => hh he), hsk]
  have hf := lex_fuel B.length (B.length + 1) (n + 1) (p + (RW B p).stop + lead blB (B.drop (p + (RW B p).stop))) (ahd 32 B (p + (RW B p).stop + lead blB (B.drop (p + (RW B p).stop)))) (B.drop (p + (RW B p).stop + lead blB (B.drop (p + (RW B p).stop)))) (by rw [List.length_drop]; omega) (by rw [List.length_drop]; omega)
  unfold LX
  rw [hf]
  generalize lexB B.length (n + 1) (p + (RW B p).stop + lead blB (B.drop (p + (RW B p).stop))) (ahd 32 B (p + (RW B p).stop + lead blB (B.drop (p + (RW B p).stop)))) (B.drop (p + (RW B p).stop + lead blB (B.drop (p + (RW B p).stop)))) = q
  unfold jn
  by_cases h0 : q.2.1 = 0
  · simp [h0]
  · simp [h0]
end Go.Proofs.YtljanfmmhglpiaaDoor
