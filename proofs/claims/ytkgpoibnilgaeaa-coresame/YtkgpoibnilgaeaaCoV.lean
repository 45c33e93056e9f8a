/-
  A program with all places gone (the document's Bare): what it makes is the program's own shape in new memory; for all programs.
-/
import Derived.Test.YtkgpoibnilgaeaaCoU
import Derived.Test.YtkgpoibnilgaeaaOwnX
import Derived.Test.YtkgpoibnilgaeaaOwnS
import Derived.Maps.AppendAt
import Derived.Deep.LoopGhost
import Derived.Deep.RegionLaw
import Derived.Deep.Cut
import Derived.Deep.CutRange
namespace Go.Proofs.Ytkgpoibnilgaeaa
open Go.ChangeShapes Go.WideShapes Go.ChangeAt Go.RowKit
set_option linter.unusedVariables false
set_option linter.unusedSimpArgs false
/-- append onto a row of the call's own, as one step of a region; where the new row lies. -/
theorem step_append_at {P : Program} {w : World} {ops : Array Oper} {o : Oper} {a : Act} {K : Act → World → Prop} {Q : Exit → Act → World → Prop} {E : Prop} (hg : o.guard = none) (s x : Operand) (t : TypeId)
    (ho : o.op = .call { callee := .builtin .append, args := #[s, x], argTypes := #[t, t] })
    (base : Nat) (e : TypeId) (i : TypeInfo) (z : Value) (size bytes : Nat) (ht : P.underlying t = some (.slice e)) (hi : P.info? e = some i) (hz : i.zero = some z)
    (hsize : i.size = size) (hby : i.bytes = bytes) (hzs : z.cells.size = size) (hsz : 0 < size)
    (v : Value) (n : Nat) (xs : List Value) (hs : a.eval s = v) (hown : w.ownsRow base e size v n xs)
    (ad : Addr) (m c : Nat) (news : List Value) (hx : a.eval x = .slice (some ad) m c) (hl : news.length = m * size) (hnews : ∀ j u, news[j]? = some u → w.cell? (ad.add j) = some u) (h1 : ∀ u ∈ news, u.oneCell' = true)
    (h63 : n + m ≤ maxLen) (hbytes : (n + m) * bytes ≤ 140737488355328) (hbase : base ≤ w.heap.size)
    (h : ∀ v' w', w'.ownsRow base e size v' (n + m) (xs ++ news) → w.grownBy w' v.ownBlock → (v'.ownBlock = v.ownBlock ∨ v'.ownBlock = some w.heap.size) → K (a.put o.dst v') w') : if Region.wanted o (yielded ops a.tmps) = true then Oper.wp P o a w K Q else E := by
  have hw : Region.wanted o (yielded ops a.tmps) = true := by simp [Region.wanted, hg]
  rw [if_pos hw]
  obtain ⟨v', w', hr, h2, h3, -, h5⟩ := run_append_own_at (P := P) w base t o.type e i z size bytes ht hi hz hsize hby hzs hsz v n xs hown ad m c news hl hnews h1 h63 hbytes hbase
  unfold Oper.wp execOp
  simp only [ho, resolve, invoke, builtin, Sem.run_bind, Sem.run_pure, Result.andThen_ok, List.map_toArray, List.map_cons, List.map_nil, hs, hx, hr]
  exact h v' w' h2 h3 h5
/-- A program with all places gone. -/
def bareD : Nat → Nd → Nd
  | 0, x => x
  | m + 1, x => .mk x.kind x.op x.name x.lit ((List.range x.kids.length).map fun i => bareD m (nAt x.kids i)) 0
/-- A node's seven values as a list. -/
def nds (x : Nd) (a1 : Option Addr) (c1 : Nat) (a2 : Option Addr) (c2 : Nat) (ak : Option Addr) (ck : Nat) : List Value :=
  [.int .i64 x.kind, .int .i64 x.op, .string x.name, .slice a1 x.lit.shape.length c1, .slice a2 x.lit.cells.length c2, .slice ak x.kids.length ck, .int .i64 x.pos]
/-- What was made of one part: it stays while what was made stays. -/
def KidOK (m n : Nat) (w0 : World) (B : Nat) (wr : World) (row : Option Nat) (y : Nd) (vs : List Value) : Prop :=
  ∃ d1 e1 d2 e2 dk ek, vs = nds y d1 e1 d2 e2 dk ek ∧ ∀ W, Below w0.heap.size w0 W → wr.heap.size ≤ W.heap.size → (∀ b, B ≤ b → b < wr.heap.size → row ≠ some b → W.heap[b]? = wr.heap[b]?) → NdIn m n 0 W y (ndV y d1 e1 d2 e2 dk ek)
theorem KidOK.next {m n : Nat} {w0 : World} {B : Nat} {wr wr' : World} {row row' : Option Nat} {y : Nd} {vs : List Value} (h : KidOK m n w0 B wr row y vs) (hs : wr.heap.size ≤ wr'.heap.size) (hr : ∀ b, b < wr.heap.size → row ≠ some b → row' ≠ some b) (hb : ∀ b, B ≤ b → b < wr.heap.size → row ≠ some b → wr'.heap[b]? = wr.heap[b]?) : KidOK m n w0 B wr' row' y vs := by
  obtain ⟨d1, e1, d2, e2, dk, ek, hv, h⟩ := h
  exact ⟨d1, e1, d2, e2, dk, ek, hv, fun W hW hsz hag => h W hW (Nat.le_trans hs hsz) fun b h1 h2 h3 => (hag b h1 (Nat.lt_of_lt_of_le h2 hs) (hr b h2 h3)).trans (hb b h1 h2 h3)⟩
def BareC (m : Nat) : Prop := ∀ n x lo va w0 w, NdIn m n lo w0 x va → Below w0.heap.size w0 w → Calls Try.prog 23 #[va] w fun e w' => (∃ d1 e1 d2 e2 dk ek, e = .returned (.agg #[.int .i64 x.kind, .int .i64 x.op, .string x.name, .slice d1 x.lit.shape.length e1, .slice d2 x.lit.cells.length e2, .slice dk x.kids.length ek, .int .i64 0]) ∧ (∀ W, Below w0.heap.size w0 W → Keeps w.heap.size w' W → NdIn m n 0 W (bareD m x) (.agg #[.int .i64 x.kind, .int .i64 x.op, .string x.name, .slice d1 x.lit.shape.length e1, .slice d2 x.lit.cells.length e2, .slice dk x.kids.length ek, .int .i64 0]))) ∧ Below w.heap.size w w'
theorem info28 : (Try.prog.info? 28).map (fun i => (i.zero, i.size, i.bytes)) = some (some (.agg #[.int .i64 0, .int .i64 0, .string { data := #[] }, .slice none 0 0, .slice none 0 0, .slice none 0 0, .int .i64 0]), 7, 112) := by kernel_rfl
/-- The blocks of the call: the box, the answer's, the variable's. -/
def InB (w : World) (K O : Int) (S : ByteArray) (s1 s2 sk : Value) (P : Int) (rowv : Value) (wr : World) : Prop :=
  Below w.heap.size w wr ∧ wr.heap[w.heap.size]? = some (.cells #[.int .i64 K, .int .i64 O, .string S, s1, s2, sk, .int .i64 P] 28 (0, 0)) ∧ Zb wr (w.heap.size + 1) ∧ Vr wr (w.heap.size + 2) (.int .i64 K) (.int .i64 O) (.string S) s1 s2 rowv (.int .i64 0)
theorem drop_take_left {xs ys : List Value} {i : Nat} (h : i * 7 + 7 ≤ xs.length) : ((xs ++ ys).drop (i * 7)).take 7 = (xs.drop (i * 7)).take 7 := by
  rw [List.drop_append_of_le_length (by omega), List.take_append_of_le_length (by rw [List.length_drop]; omega)]
theorem drop_take_last {xs ys : List Value} {i : Nat} (h : xs.length = i * 7) (hy : ys.length = 7) : ((xs ++ ys).drop (i * 7)).take 7 = ys := by
  rw [← h, List.drop_left, ← hy, List.take_length]
theorem grown_set (w : World) (V i : Nat) (v : Value) : w.grownBy (w.setCell ⟨V, i, none⟩ v) (some V) := ⟨rfl, rfl, rfl, by simp, fun k hk hne => heap_setCell_other w ⟨V, i, none⟩ k v (fun e => hne (by rw [e]))⟩

theorem inB_new (w : World) (K0 O0 : Int) (S0 : ByteArray) (a1 : Option Addr) (L10 c1 : Nat) (a2 : Option Addr) (L20 c2 : Nat) (ak : Option Addr) (L ck : Nat) (P0 : Int) : InB w K0 O0 S0 (.slice a1 L10 c1) (.slice a2 L20 c2) (.slice ak L ck) P0 (.slice none 0 0) (((w.alloc (.cells #[.int .i64 K0, .int .i64 O0, .string S0, .slice a1 L10 c1, .slice a2 L20 c2, .slice ak L ck, .int .i64 P0] 28)).alloc (.cells #[.int .i64 0, .int .i64 0, .string { data := #[] }, .slice none 0 0, .slice none 0 0, .slice none 0 0, .int .i64 0] 28)).alloc (.cells #[.int .i64 K0, .int .i64 O0, .string S0, .slice a1 L10 c1, .slice a2 L20 c2, .slice none 0 0, .int .i64 0] 28)) := by
  have h0 := heap_alloc_new w (.cells #[.int .i64 K0, .int .i64 O0, .string S0, .slice a1 L10 c1, .slice a2 L20 c2, .slice ak L ck, .int .i64 P0] 28)
  have z1 : (w.alloc (.cells #[.int .i64 K0, .int .i64 O0, .string S0, .slice a1 L10 c1, .slice a2 L20 c2, .slice ak L ck, .int .i64 P0] 28)).heap.size = w.heap.size + 1 := by simp
  have b0 := one_alloc w (.cells #[.int .i64 K0, .int .i64 O0, .string S0, .slice a1 L10 c1, .slice a2 L20 c2, .slice ak L ck, .int .i64 P0] 28)
  generalize w.alloc (.cells #[.int .i64 K0, .int .i64 O0, .string S0, .slice a1 L10 c1, .slice a2 L20 c2, .slice ak L ck, .int .i64 P0] 28) = W1 at *
  have h1 := Zb.new W1
  have z2 : (W1.alloc (.cells #[.int .i64 0, .int .i64 0, .string { data := #[] }, .slice none 0 0, .slice none 0 0, .slice none 0 0, .int .i64 0] 28)).heap.size = w.heap.size + 2 := by simp; omega
  have b1 := one_alloc W1 (.cells #[.int .i64 0, .int .i64 0, .string { data := #[] }, .slice none 0 0, .slice none 0 0, .slice none 0 0, .int .i64 0] 28)
  generalize W1.alloc (.cells #[.int .i64 0, .int .i64 0, .string { data := #[] }, .slice none 0 0, .slice none 0 0, .slice none 0 0, .int .i64 0] 28) = W2 at *
  have h2 := heap_alloc_new W2 (.cells #[.int .i64 K0, .int .i64 O0, .string S0, .slice a1 L10 c1, .slice a2 L20 c2, .slice none 0 0, .int .i64 0] 28)
  have b2 := one_alloc W2 (.cells #[.int .i64 K0, .int .i64 O0, .string S0, .slice a1 L10 c1, .slice a2 L20 c2, .slice none 0 0, .int .i64 0] 28)
  generalize W2.alloc (.cells #[.int .i64 K0, .int .i64 O0, .string S0, .slice a1 L10 c1, .slice a2 L20 c2, .slice none 0 0, .int .i64 0] 28) = W3 at *
  rw [z1] at h1 b1
  rw [z2] at h2 b2
  refine ⟨(b0.trans (b1.mono (by omega))).trans (b2.mono (by omega)), ?_, ?_, h2⟩
  · exact (b2.block _ (by omega)).trans ((b1.block _ (by omega)).trans h0)
  · exact (b2.block _ (by omega)).trans h1
/-- Where the parts of what is made lie. -/
theorem bare_fin {m n lo : Nat} {w0 w wr Wf : World} {x : Nd} {a1 : Option Addr} {c1 : Nat} {a2 : Option Addr} {c2 : Nat} {rowv : Value} {xs : List Value} (hA : ArIn n lo w0 x.lit (.agg #[.slice a1 x.lit.shape.length c1, .slice a2 x.lit.cells.length c2])) (hl : x.kids.length ≤ 1256584717421) (hs : x.name.size ≤ 140737488355328)
    (hown : wr.ownsRow (w.heap.size + 3) 28 7 rowv x.kids.length xs) (hk : ∀ i, i < x.kids.length → KidOK m n w0 (w.heap.size + 3) wr rowv.ownBlock (bareD m (nAt x.kids i)) ((xs.drop (i * 7)).take 7))
    (hsz : wr.heap.size ≤ Wf.heap.size) (hof : ∀ b, w.heap.size + 3 ≤ b → b < wr.heap.size → Wf.heap[b]? = wr.heap[b]?) :
    ∃ dk ek, rowv = .slice dk x.kids.length ek ∧ ∀ W, Below w0.heap.size w0 W → Keeps w.heap.size Wf W → NdIn (m + 1) n 0 W (bareD (m + 1) x) (.agg #[.int .i64 x.kind, .int .i64 x.op, .string x.name, .slice a1 x.lit.shape.length c1, .slice a2 x.lit.cells.length c2, .slice dk x.kids.length ek, .int .i64 0]) := by
  have hlen : ((List.range x.kids.length).map fun i => bareD m (nAt x.kids i)).length = x.kids.length := by simp
  have hat : ∀ j, j < x.kids.length → nAt ((List.range x.kids.length).map fun i => bareD m (nAt x.kids i)) j = bareD m (nAt x.kids j) := by
    intro j hj
    simp [nAt, hj]
  rcases hown.2 with ⟨rfl, h0⟩ | ⟨g, cap, cur, rfl, hg, hb, hn, hc, hsize, htake⟩
  · refine ⟨none, 0, by rw [h0], fun W hW hK => ?_⟩
    refine ⟨a1, c1, a2, c2, none, 0, ?_, (hA.mono (Nat.zero_le _) hW), ?_, hs, Or.inl ?_⟩
    · unfold ndV
      show _ = Value.agg #[_, _, _, _, _, .slice none ((List.range x.kids.length).map fun i => bareD m (nAt x.kids i)).length 0, _]
      rw [hlen]
      rfl
    · show ((List.range x.kids.length).map fun i => bareD m (nAt x.kids i)).length ≤ _
      rw [hlen]; exact hl
    · show ((List.range x.kids.length).map fun i => bareD m (nAt x.kids i)) = []
      rw [h0]; rfl
  · have hgl : g < wr.heap.size := by
      refine Decidable.byContradiction fun hn => ?_
      have : wr.heap[g]? = none := by simp; omega
      rw [this] at hb
      cases hb
    refine ⟨some ⟨g, 0, none⟩, cap, rfl, fun W hW hK => ?_⟩
    refine ⟨a1, c1, a2, c2, some ⟨g, 0, none⟩, cap, ?_, (hA.mono (Nat.zero_le _) hW), ?_, hs, ?_⟩
    · unfold ndV
      show _ = Value.agg #[_, _, _, _, _, .slice (some ⟨g, 0, none⟩) ((List.range x.kids.length).map fun i => bareD m (nAt x.kids i)).length cap, _]
      rw [hlen]
      rfl
    · show ((List.range x.kids.length).map fun i => bareD m (nAt x.kids i)).length ≤ _
      rw [hlen]; exact hl
    · show ((List.range x.kids.length).map fun i => bareD m (nAt x.kids i)) = [] ∨ _
      have hW2 : ∀ b, w.heap.size + 3 ≤ b → b < wr.heap.size → W.heap[b]? = wr.heap[b]? := fun b h1 h2 => (hK.2 b (by omega) (Nat.lt_of_lt_of_le h2 hsz)).trans (hof b h1 h2)
      have hWs : wr.heap.size ≤ W.heap.size := Nat.le_trans hsz hK.1
      refine Or.inr ⟨g, 0, rfl, Nat.zero_le _, by omega, fun j hj => ?_⟩
      have hj' : j < x.kids.length := by
        have : j < ((List.range x.kids.length).map fun i => bareD m (nAt x.kids i)).length := hj
        rw [hlen] at this
        exact this
      obtain ⟨d1, e1, d2, e2, dk, ek, hv, hN⟩ := hk j hj'
      show ∃ d1 e1 d2 e2 dk ek, Seven W g (0 + j * 7) (nAt ((List.range x.kids.length).map fun i => bareD m (nAt x.kids i)) j) d1 e1 d2 e2 dk ek ∧ NdIn m n 0 W (nAt ((List.range x.kids.length).map fun i => bareD m (nAt x.kids i)) j) (ndV (nAt ((List.range x.kids.length).map fun i => bareD m (nAt x.kids i)) j) d1 e1 d2 e2 dk ek)
      rw [hat j hj']
      refine ⟨d1, e1, d2, e2, dk, ek, ?_, hN W hW hWs fun b h1 h2 _ => hW2 b h1 h2⟩
      have hcell : ∀ k u, (nds (bareD m (nAt x.kids j)) d1 e1 d2 e2 dk ek)[k]? = some u → W.cell? ⟨g, 0 + j * 7 + k, none⟩ = some u := by
        intro k u hu
        have hk7 : k < 7 := by
          have h7 : (nds (bareD m (nAt x.kids j)) d1 e1 d2 e2 dk ek).length = 7 := rfl
          have := (List.getElem?_eq_some_iff.1 hu).1
          omega
        rw [← hv, List.getElem?_take_of_lt hk7, List.getElem?_drop, ← htake] at hu
        have hlt : j * 7 + k < x.kids.length * 7 := by omega
        rw [List.getElem?_take_of_lt hlt, Array.getElem?_toList] at hu
        unfold World.cell?
        rw [hW2 g hg hgl, hb]
        simp only [Nat.zero_add, hu]
        rfl
      exact ⟨hcell 0 _ rfl, hcell 1 _ rfl, hcell 2 _ rfl, hcell 3 _ rfl, hcell 4 _ rfl, hcell 5 _ rfl, hcell 6 _ rfl⟩

theorem owns_slice {w : World} {base e size n : Nat} {v : Value} {xs : List Value} (h : w.ownsRow base e size v n xs) : ∃ ad c, v = .slice ad n c := by
  rcases h.2 with ⟨rfl, h0⟩ | ⟨g, cap, cur, rfl, -⟩
  · exact ⟨none, 0, by rw [h0]⟩
  · exact ⟨_, _, rfl⟩
theorem owns_later {w w' : World} {base e size n : Nat} {v : Value} {xs : List Value} (h : w.ownsRow base e size v n xs) (hb : Below w.heap.size w w') : w'.ownsRow base e size v n xs := by
  refine h.kept (row := none) ⟨hb.os, hb.tape, hb.output, hb.size, fun k hk _ => hb.block k hk⟩ ?_
  cases v.ownBlock with
  | none => exact Or.inl rfl
  | some k => exact Or.inr (by simp)
theorem bare_next {m n j : Nat} {w0 w wr w9 w1 : World} {x y : Nd} {K O : Int} {S : ByteArray} {s1 s2 sk : Value} {P : Int} {rowv v' : Value} {xs : List Value} {o : Obj} {d1 : Option Addr} {e1 : Nat} {d2 : Option Addr} {e2 : Nat} {dk : Option Addr} {ek : Nat}
    (hy : y = nAt x.kids j) (hw : Below w0.heap.size w0 w) (hIn : InB w K O S s1 s2 sk P rowv wr) (hown : wr.ownsRow (w.heap.size + 3) 28 7 rowv j xs) (hk : ∀ i, i < j → KidOK m n w0 (w.heap.size + 3) wr rowv.ownBlock (bareD m (nAt x.kids i)) ((xs.drop (i * 7)).take 7)) (hsz : w.heap.size + 3 ≤ wr.heap.size)
    (hb9 : Below wr.heap.size wr w9) (hkid : ∀ W, Below w0.heap.size w0 W → Keeps wr.heap.size w9 W → NdIn m n 0 W (bareD m y) (.agg #[.int .i64 y.kind, .int .i64 y.op, .string y.name, .slice d1 y.lit.shape.length e1, .slice d2 y.lit.cells.length e2, .slice dk y.kids.length ek, .int .i64 0]))
    (hown1 : w1.ownsRow (w.heap.size + 3) 28 7 v' (j + 1) (xs ++ ([.int .i64 y.kind, .int .i64 y.op, .string y.name, .slice d1 y.lit.shape.length e1, .slice d2 y.lit.cells.length e2, .slice dk y.kids.length ek, .int .i64 0] : List Value))) (hg1 : (w9.alloc o).grownBy w1 rowv.ownBlock) (hl1 : v'.ownBlock = rowv.ownBlock ∨ v'.ownBlock = some (w9.alloc o).heap.size) :
    InB w K O S s1 s2 sk P v' (w1.setCell ⟨w.heap.size + 2, 5, none⟩ v') ∧ (w1.setCell ⟨w.heap.size + 2, 5, none⟩ v').ownsRow (w.heap.size + 3) 28 7 v' (j + 1) (xs ++ ([.int .i64 y.kind, .int .i64 y.op, .string y.name, .slice d1 y.lit.shape.length e1, .slice d2 y.lit.cells.length e2, .slice dk y.kids.length ek, .int .i64 0] : List Value)) ∧ (∀ i, i < j + 1 → KidOK m n w0 (w.heap.size + 3) (w1.setCell ⟨w.heap.size + 2, 5, none⟩ v') v'.ownBlock (bareD m (nAt x.kids i)) (((xs ++ ([.int .i64 y.kind, .int .i64 y.op, .string y.name, .slice d1 y.lit.shape.length e1, .slice d2 y.lit.cells.length e2, .slice dk y.kids.length ek, .int .i64 0] : List Value)).drop (i * 7)).take 7)) ∧ w.heap.size + 3 ≤ (w1.setCell ⟨w.heap.size + 2, 5, none⟩ v').heap.size := by
  have hso : (w9.alloc o).heap.size = w9.heap.size + 1 := by simp
  have hs9 := hb9.size
  have hs1 := hg1.size
  have hro : ∀ k, rowv.ownBlock = some k → w.heap.size + 3 ≤ k ∧ k < wr.heap.size := fun k hk => hown.lt k hk
  have hblk : ∀ b, b < wr.heap.size → rowv.ownBlock ≠ some b → w1.heap[b]? = wr.heap[b]? := fun b hb hne => (hg1.block b (by omega) (fun e => hne e.symm)).trans ((heap_alloc_old w9 o (by omega)).trans (hb9.block b hb))
  have hset : ∀ b, b ≠ w.heap.size + 2 → (w1.setCell ⟨w.heap.size + 2, 5, none⟩ v').heap[b]? = w1.heap[b]? := fun b hb => heap_setCell_other w1 ⟨w.heap.size + 2, 5, none⟩ b v' hb
  have hnr : ∀ b, b < w.heap.size + 3 → rowv.ownBlock ≠ some b := fun b hb e => by have := (hro b e).1; omega
  have hsf : (w1.setCell ⟨w.heap.size + 2, 5, none⟩ v').heap.size = w1.heap.size := by simp
  obtain ⟨i1, i2, i3, i4⟩ := hIn
  have hv4 : w1.heap[w.heap.size + 2]? = some (.cells #[.int .i64 K, .int .i64 O, .string S, s1, s2, rowv, .int .i64 0] 28 (0, 0)) := (hblk _ (by omega) (hnr _ (by omega))).trans i4
  have hxs : xs.length = j * 7 := hown.1
  refine ⟨⟨?_, ?_, ?_, ?_⟩, ?_, ?_, by rw [hsf]; omega⟩
  · refine ⟨(hg1.os).trans (hb9.os.trans i1.os), (hg1.tape).trans (hb9.tape.trans i1.tape), (hg1.output).trans (hb9.output.trans i1.output), by rw [hsf]; have := i1.size; omega, fun k hk => ?_⟩
    rw [hset k (by omega), hblk k (by omega) (hnr k (by omega))]
    exact i1.block k hk
  · rw [hset _ (by omega), hblk _ (by omega) (hnr _ (by omega))]
    exact i2
  · show (w1.setCell ⟨w.heap.size + 2, 5, none⟩ v').heap[w.heap.size + 1]? = _
    rw [hset _ (by omega), hblk _ (by omega) (hnr _ (by omega))]
    exact i3
  · show (w1.setCell ⟨w.heap.size + 2, 5, none⟩ v').heap[w.heap.size + 2]? = _
    rw [heap_setCell_same w1 _ 5 _ 28 v' hv4]
    simp
  · refine hown1.kept (grown_set w1 (w.heap.size + 2) 5 v') (Or.inr fun e => ?_)
    have := (hown1.lt _ e).1
    omega
  · intro i hi
    have hrow : ∀ b, b < wr.heap.size → rowv.ownBlock ≠ some b → v'.ownBlock ≠ some b := by
      intro b hb hne e
      rcases hl1 with h | h
      · exact hne (h ▸ e)
      · rw [h] at e
        injection e with e
        omega
    by_cases hij : i < j
    · rw [drop_take_left (by omega)]
      refine (hk i hij).next (by rw [hsf]; omega) hrow fun b h1 h2 h3 => ?_
      rw [hset b (by omega)]
      exact hblk b h2 h3
    · obtain rfl : i = j := by omega
      rw [drop_take_last hxs rfl, ← hy]
      have hB9 : Below w0.heap.size w0 w9 := (hw.trans (i1.mono hw.size)).trans (hb9.mono (by have := hw.size; have := i1.size; omega))
      obtain ⟨m', hm, f1, q1, f2, q2, fk, qk, hv, -⟩ := (hkid w9 hB9 (Keeps.refl _ _)).form
      have hv' := hv
      unfold ndV at hv
      simp only [Value.agg.injEq, Array.mk.injEq] at hv
      refine ⟨f1, q1, f2, q2, fk, qk, hv, fun W hW hWs hag => ?_⟩
      rw [← hv']
      refine hkid W hW ⟨by rw [hsf] at hWs; omega, fun b h1 h2 => ?_⟩
      have hnv : v'.ownBlock ≠ some b := by
        intro e
        rcases hl1 with h | h
        · rw [h] at e
          have := (hro b e).2
          omega
        · rw [h] at e
          injection e with e
          omega
      have hnr' : rowv.ownBlock ≠ some b := fun e => by have := (hro b e).2; omega
      rw [hag b (by omega) (by rw [hsf]; omega) hnv, hset b (by omega), hg1.block b (by omega) (fun e => hnr' e.symm)]
      exact heap_alloc_old w9 o h2

set_option maxHeartbeats 8000000 in
theorem bare23_step (m : Nat) (IH : BareC m) : BareC (m + 1) := by
  intro n x lo va w0 w hx hw
  obtain ⟨m', hm', a1, c1, a2, c2, ak, ck, rfl, hA, hl, hs, hK⟩ := hx.letters
  obtain rfl : m = m' := by omega
  have HKS : Hid (∀ j, j < x.kids.length → ∃ b off K O S A1 L1 C1 A2 L2 C2 AK LK CK P, ak = some ⟨b, off, none⟩ ∧ ∀ wr, Below w0.heap.size w0 wr → (wr.cell? ⟨b, off + j * 7, none⟩ = some (.int .i64 K) ∧ wr.cell? ⟨b, off + j * 7 + 1, none⟩ = some (.int .i64 O) ∧ wr.cell? ⟨b, off + j * 7 + 2, none⟩ = some (.string S) ∧ wr.cell? ⟨b, off + j * 7 + 3, none⟩ = some (.slice A1 L1 C1) ∧ wr.cell? ⟨b, off + j * 7 + 4, none⟩ = some (.slice A2 L2 C2) ∧ wr.cell? ⟨b, off + j * 7 + 5, none⟩ = some (.slice AK LK CK) ∧ wr.cell? ⟨b, off + j * 7 + 6, none⟩ = some (.int .i64 P)) ∧
      Calls Try.prog 23 #[.agg #[.int .i64 K, .int .i64 O, .string S, .slice A1 L1 C1, .slice A2 L2 C2, .slice AK LK CK, .int .i64 P]] wr fun e w' => (∃ d1 e1 d2 e2 dk ek, e = .returned (.agg #[.int .i64 (nAt x.kids j).kind, .int .i64 (nAt x.kids j).op, .string (nAt x.kids j).name, .slice d1 (nAt x.kids j).lit.shape.length e1, .slice d2 (nAt x.kids j).lit.cells.length e2, .slice dk (nAt x.kids j).kids.length ek, .int .i64 0]) ∧ (∀ W, Below w0.heap.size w0 W → Keeps wr.heap.size w' W → NdIn m n 0 W (bareD m (nAt x.kids j)) (.agg #[.int .i64 (nAt x.kids j).kind, .int .i64 (nAt x.kids j).op, .string (nAt x.kids j).name, .slice d1 (nAt x.kids j).lit.shape.length e1, .slice d2 (nAt x.kids j).lit.cells.length e2, .slice dk (nAt x.kids j).kids.length ek, .int .i64 0]))) ∧ Below wr.heap.size wr w') := by
    intro j hj
    obtain ⟨b, off, K, O, S, A1, L1, C1, A2, L2, C2, AK, LK, CK, P, ha, hb, hwk⟩ := kid_cells hK hj
    exact ⟨b, off, K, O, S, A1, L1, C1, A2, L2, C2, AK, LK, CK, P, ha, fun wr hwr => ⟨(hwk wr hwr).1, IH n _ lo _ w0 wr (hwk w0 (Below.refl _ _)).2 hwr⟩⟩
  have HFIN := hide (fun (wr Wf : World) (rowv : Value) (xs : List Value) => bare_fin (m := m) (w := w) (wr := wr) (Wf := Wf) (rowv := rowv) (xs := xs) hA hl hs)
  have HW0 := hide hw
  obtain ⟨i0, hi0, hz00, hz01, hz02⟩ := info_parts info28
  clear hA hK hx hm' IH hs
  have HMAX : Hid (x.kids.length ≤ 1256584717421) := hl
  have HNEXT : Hid (∀ j, j < x.kids.length → True) := fun _ _ => trivial
  generalize hLL : x.kids.length = L at *
  have HLL := hide hLL
  generalize hK0 : x.kind = K0 at *
  generalize hO0 : x.op = O0 at *
  generalize hS0 : x.name = S0 at *
  generalize x.pos = P0 at *
  generalize hL1 : x.lit.shape.length = L10 at *
  generalize hL2 : x.lit.cells.length = L20 at *
  have HI0 := hide (inB_new w K0 O0 S0 a1 L10 c1 a2 L20 c2 ak L ck P0)
  clear hLL hK0 hO0 hS0 hL1 hL2 HNEXT
  go_enter Try.func23, Try.ntmps23
  go_wp2
  go_loopg [4] L (fun g i wr => ∃ (j : Nat) (rowv : Value) (xs : List Value), g + j = L ∧ i = .int .i64 (j : Int) ∧ InB w K0 O0 S0 (.slice a1 L10 c1) (.slice a2 L20 c2) (.slice ak L ck) P0 rowv wr ∧ wr.ownsRow (w.heap.size + 3) 28 7 rowv j xs ∧ (∀ i, i < j → KidOK m n w0 (w.heap.size + 3) wr rowv.ownBlock (bareD m (nAt x.kids i)) ((xs.drop (i * 7)).take 7)) ∧ w.heap.size + 3 ≤ wr.heap.size)
  case atStart => exact ⟨0, .slice none 0 0, [], rfl, rfl, HI0.out, World.ownsRow_nil _ _ _ _, (by intro i hi; omega), (by simp)⟩
  case round =>
    clear HI0
    obtain ⟨j, rowv, xs, hj, rfl, hin, hown, hkids, hsz⟩ := hrel
    have HIN := hide hin
    have HOWN := hide hown
    have HKIDS := hide hkids
    have HSZ := hide hsz
    have k5 : wr.cell? ⟨w.heap.size, 5, none⟩ = some (.slice ak L ck) := by
      have h' := hin.2.1
      simp [World.cell?, h']
    obtain ⟨v0, v1, v2, v3, v4, v5, v6⟩ := hin.2.2.2.cells
    clear hin hown hkids hsz
    by_cases hlt : j < L
    · obtain ⟨b, off, K, O, S, A1, L1, C1, A2, L2, C2, AK, LK, CK, P, rfl, hwk⟩ := HKS.out j hlt
      have hB0 : Below w0.heap.size w0 wr.drew := (HW0.out.trans (HIN.out.1.mono HW0.out.size)).drew
      obtain ⟨⟨g0, g1, g2, g3, g4, g5, g6⟩, C⟩ := hwk _ hB0
      obtain ⟨⟨f0, f1, f2, f3, f4, f5, f6⟩, -⟩ := hwk wr (HW0.out.trans (HIN.out.1.mono HW0.out.size))
      obtain ⟨y, hy⟩ : ∃ y, y = nAt x.kids j := ⟨_, rfl⟩
      rw [← hy] at C
      have HY := hide hy
      have HC := hide C
      have HMX : Hid (j + 1 ≤ maxLen ∧ (j + 1) * 112 ≤ 140737488355328) := ⟨by have := HMAX.out; unfold maxLen; omega, by have := HMAX.out; omega⟩
      have HVLT : Hid (w.heap.size + 2 < wr.drew.heap.size) := by show w.heap.size + 2 < wr.heap.size; have := HSZ.out; omega
      have hf5 : wr.frozen? ⟨w.heap.size + 2, 5, none⟩ = false := frozen_of_row wr _ 5 _ 28 HIN.out.2.2.2
      clear C hwk hy hB0 HKS v0 v1 v2 v3 v4 v6
      go_wp2
      go_region_law (first
        | (refine step_append_at rfl (.tmp 22) (.tmp 29) 26 rfl (w.heap.size + 3) 28 i0 (.agg #[.int .i64 0, .int .i64 0, .string { data := #[] }, .slice none 0 0, .slice none 0 0, .slice none 0 0, .int .i64 0]) 7 112 Try.underlying26 hi0 hz00 hz01 hz02 rfl (by decide) rowv j xs (by first | rfl | go_simp) HO9.out ⟨w9.heap.size, 0, none⟩ 1 1 [.int .i64 y.kind, .int .i64 y.op, .string y.name, .slice d1 y.lit.shape.length e1, .slice d2 y.lit.cells.length e2, .slice dk y.kids.length ek, .int .i64 0] (by first | rfl | go_simp) rfl HN9.out HONE.out HMX.out.1 HMX.out.2 HS9.out ?_; intro v' w1 hown1 hg1 hl1; obtain ⟨a4, c4, rfl⟩ := owns_slice hown1; have dd1 : w1.cell? ⟨w.heap.size + 2, 5, none⟩ = some rowv := (World.cell?_of_block (a := ⟨w.heap.size + 2, 5, none⟩) (hg1.block (w.heap.size + 2) HV9.out HVR.out)).trans d10; have dd3 : w1.frozen? ⟨w.heap.size + 2, 5, none⟩ = false := (World.frozen?_of_block (a := ⟨w.heap.size + 2, 5, none⟩) (hg1.block (w.heap.size + 2) HV9.out HVR.out)).trans df10)
        | (go_simp; go_at_call 23; refine HC.out.mono ?_; rintro e w9 ⟨⟨d1, e1, d2, e2, dk, ek, rfl, hN9⟩, hb9⟩; have HKN := hide hN9; have HB9 : Hid (Below wr.heap.size wr w9) := (Below.refl wr.heap.size wr).drew.trans hb9; have HO9 := hide ((owns_later HOWN.out HB9.out).alloc (.cells #[.int .i64 y.kind, .int .i64 y.op, .string y.name, .slice d1 y.lit.shape.length e1, .slice d2 y.lit.cells.length e2, .slice dk y.kids.length ek, .int .i64 0] 28)); have HN9 : Hid (∀ (j : Nat) u, ([.int .i64 y.kind, .int .i64 y.op, .string y.name, .slice d1 y.lit.shape.length e1, .slice d2 y.lit.cells.length e2, .slice dk y.kids.length ek, .int .i64 0] : List Value)[j]? = some u → (w9.alloc (.cells #[.int .i64 y.kind, .int .i64 y.op, .string y.name, .slice d1 y.lit.shape.length e1, .slice d2 y.lit.cells.length e2, .slice dk y.kids.length ek, .int .i64 0] 28)).cell? ((⟨w9.heap.size, 0, none⟩ : Addr).add j) = some u) := (fun i u hu => by rw [add_off, Nat.zero_add]; exact cell_new0 w9 _ 28 i u (by simpa using hu)); have HONE : Hid (∀ u ∈ ([.int .i64 y.kind, .int .i64 y.op, .string y.name, .slice d1 y.lit.shape.length e1, .slice d2 y.lit.cells.length e2, .slice dk y.kids.length ek, .int .i64 0] : List Value), u.oneCell' = true) := (fun u hu => by simp at hu; rcases hu with rfl | rfl | rfl | rfl | rfl | rfl | rfl <;> rfl); have HS9 := hide (show w.heap.size + 3 ≤ (w9.alloc (.cells #[.int .i64 y.kind, .int .i64 y.op, .string y.name, .slice d1 y.lit.shape.length e1, .slice d2 y.lit.cells.length e2, .slice dk y.kids.length ek, .int .i64 0] 28)).heap.size by have a := HSZ.out; have b := HB9.out.size; simp; omega); have HV9 := hide (show w.heap.size + 2 < (w9.alloc (.cells #[.int .i64 y.kind, .int .i64 y.op, .string y.name, .slice d1 y.lit.shape.length e1, .slice d2 y.lit.cells.length e2, .slice dk y.kids.length ek, .int .i64 0] 28)).heap.size by have a := HSZ.out; have b := HB9.out.size; simp; omega); have HVR : Hid (some (w.heap.size + 2) ≠ rowv.ownBlock) := (fun e => by have := (HOWN.out.lt _ e.symm).1; omega); have d9 := (hb9.cell (p := ⟨w.heap.size + 2, 5, none⟩) HVLT.out).trans v5; have d10 : (w9.alloc (.cells #[.int .i64 y.kind, .int .i64 y.op, .string y.name, .slice d1 y.lit.shape.length e1, .slice d2 y.lit.cells.length e2, .slice dk y.kids.length ek, .int .i64 0] 28)).cell? ⟨w.heap.size + 2, 5, none⟩ = some rowv := cell_one d9 (Nat.lt_of_lt_of_le HVLT.out hb9.size) _; have df10 : (w9.alloc (.cells #[.int .i64 y.kind, .int .i64 y.op, .string y.name, .slice d1 y.lit.shape.length e1, .slice d2 y.lit.cells.length e2, .slice dk y.kids.length ek, .int .i64 0] 28)).frozen? ⟨w.heap.size + 2, 5, none⟩ = false := ((one_alloc w9 _).frozen (p := ⟨w.heap.size + 2, 5, none⟩) (Nat.lt_of_lt_of_le HVLT.out hb9.size)).trans ((hb9.frozen (p := ⟨w.heap.size + 2, 5, none⟩) HVLT.out).trans hf5)))
      all_goals
        have HNX := hide (bare_next HY.out HW0.out HIN.out HOWN.out HKIDS.out HSZ.out HB9.out HKN.out hown1 hg1 hl1)
        clear hown1 hg1 hl1 dd1 dd3 HKN HB9 HO9 HN9 HS9 HV9 HVR d9 d10 df10 hb9 hN9 HC HMX
        go_wp2
        go_roundg (L - (j + 1))
        case rel => exact ⟨j + 1, _, _, by omega, by go_num, HNX.out⟩
        case measure => omega
    · have hje : j = L := by omega
      subst hje
      obtain ⟨ar, cr, rfl⟩ := owns_slice HOWN.out
      have hzb := HIN.out.2.2.1
      obtain ⟨⟨z0, z1, z2, z3, z4, z5, z6⟩, y0, y1, y2, y3, y4, y5, y6⟩ := hzb.facts
      have HVO := hide (vr_old w wr (w.heap.size + 1) (.int .i64 K0) (.int .i64 O0) (.string S0) (.slice a1 L10 c1) (.slice a2 L20 c2) (.slice ar j cr) (.int .i64 0) hzb (by omega) HIN.out.1)
      clear hzb HKS
      go_wp2
      obtain ⟨Wf, hWf⟩ : ∃ Wf, (((((((wr.setCell ⟨w.heap.size + 1, 0, none⟩ (.int .i64 K0)).setCell ⟨w.heap.size + 1, 1, none⟩ (.int .i64 O0)).setCell ⟨w.heap.size + 1, 2, none⟩ (.string S0)).setCell ⟨w.heap.size + 1, 3, none⟩ (.slice a1 L10 c1)).setCell ⟨w.heap.size + 1, 4, none⟩ (.slice a2 L20 c2)).setCell ⟨w.heap.size + 1, 5, none⟩ (.slice ar j cr)).setCell ⟨w.heap.size + 1, 6, none⟩ (.int .i64 0)) = Wf := ⟨_, rfl⟩
      rw [hWf] at HVO ⊢
      obtain ⟨r0, r1, r2, r3, r4, r5, r6⟩ := HVO.out.2.1.cells
      have hof : ∀ b, w.heap.size + 3 ≤ b → b < wr.heap.size → Wf.heap[b]? = wr.heap[b]? := fun b h1 h2 => by
        have : ∃ o, wr.heap[b]? = some o := ⟨wr.heap[b], by simp [h2]⟩
        obtain ⟨o, ho⟩ := this
        rw [HVO.out.2.2 b o (by omega) ho, ho]
      have hszf : wr.heap.size ≤ Wf.heap.size := by rw [← hWf]; simp
      obtain ⟨dk, ek, hr, hN⟩ := HFIN.out wr Wf _ xs HOWN.out HKIDS.out hszf hof
      injection hr with hr1 hr2 hr3
      subst hr1 hr3
      exact bodyPost_ret (v := .agg #[.int .i64 K0, .int .i64 O0, .string S0, .slice a1 L10 c1, .slice a2 L20 c2, .slice ar j cr, .int .i64 0]) (by simp [results, Try.results23, go_sem, r0, r1, r2, r3, r4, r5, r6]) rfl ⟨⟨_, _, _, _, _, _, rfl, hN⟩, HVO.out.1⟩
theorem bare23 (m : Nat) : BareC m := by
  induction m with
  | zero => exact fun n x lo va w0 w hx => hx.elim
  | succ m ih => exact bare23_step m ih
end Go.Proofs.Ytkgpoibnilgaeaa
