/-
  Programs as plain data, how they lie in memory: kind, number, name, literal, parts, place; sums, greatest and 'any' over parts; no program is named.
-/
import Derived.Test.YtkgpoibnilgaeaaOwnU
import Derived.Test.YtkgpoibnilgaeaaOwnL
import Derived.Test.YtkgpoibnilgaeaaOwnO
import Derived.Test.YtkgpoibnilgaeaaOwnP
import Derived.Test.YtkgpoibnilgaeaaCoA
namespace Go.Proofs.Ytkgpoibnilgaeaa
open Go.ChangeShapes Go.WideShapes Go.ChangeAt Go.RowKit
set_option linter.unusedVariables false
/-- A program: kind, number, name, literal, parts, place. -/
inductive Nd where
  | mk (k o : Int) (s : ByteArray) (l : Ar) (ks : List Nd) (p : Int)
def Nd.kind : Nd → Int
  | .mk k _ _ _ _ _ => k
def Nd.op : Nd → Int
  | .mk _ o _ _ _ _ => o
def Nd.name : Nd → ByteArray
  | .mk _ _ s _ _ _ => s
def Nd.lit : Nd → Ar
  | .mk _ _ _ l _ _ => l
def Nd.kids : Nd → List Nd
  | .mk _ _ _ _ ks _ => ks
def Nd.pos : Nd → Int
  | .mk _ _ _ _ _ p => p
def nNil : Nd := .mk 0 0 ⟨#[]⟩ (.mk [] []) [] 0
/-- The part at a place. -/
def nAt (l : List Nd) (i : Nat) : Nd := l[i]?.getD nNil
/-- A node's value: seven cells. -/
def ndV (x : Nd) (a1 : Option Addr) (c1 : Nat) (a2 : Option Addr) (c2 : Nat) (ak : Option Addr) (ck : Nat) : Value :=
  .agg #[.int .i64 x.kind, .int .i64 x.op, .string x.name, .slice a1 x.lit.shape.length c1, .slice a2 x.lit.cells.length c2, .slice ak x.kids.length ck, .int .i64 x.pos]
/-- Seven cells from a place on. -/
def Seven (w : World) (b o : Nat) (x : Nd) (a1 : Option Addr) (c1 : Nat) (a2 : Option Addr) (c2 : Nat) (ak : Option Addr) (ck : Nat) : Prop :=
  w.cell? ⟨b, o, none⟩ = some (.int .i64 x.kind) ∧ w.cell? ⟨b, o + 1, none⟩ = some (.int .i64 x.op) ∧ w.cell? ⟨b, o + 2, none⟩ = some (.string x.name) ∧
  w.cell? ⟨b, o + 3, none⟩ = some (.slice a1 x.lit.shape.length c1) ∧ w.cell? ⟨b, o + 4, none⟩ = some (.slice a2 x.lit.cells.length c2) ∧
  w.cell? ⟨b, o + 5, none⟩ = some (.slice ak x.kids.length ck) ∧ w.cell? ⟨b, o + 6, none⟩ = some (.int .i64 x.pos)
/-- A program's value, no deeper than m nodes, its literals no deeper than n boxes; all its memory in blocks from lo on. -/
def NdIn : Nat → Nat → Nat → World → Nd → Value → Prop
  | 0, _, _, _, _, _ => False
  | m + 1, n, lo, w, x, v => ∃ a1 c1 a2 c2 ak ck, v = ndV x a1 c1 a2 c2 ak ck ∧ ArIn n lo w x.lit (.agg #[.slice a1 x.lit.shape.length c1, .slice a2 x.lit.cells.length c2]) ∧ x.kids.length ≤ 1256584717421 ∧ x.name.size ≤ 140737488355328 ∧ (x.kids = [] ∨ ∃ b off, ak = some ⟨b, off, none⟩ ∧ lo ≤ b ∧ b < w.heap.size ∧
      ∀ j, j < x.kids.length → ∃ d1 e1 d2 e2 dk ek, Seven w b (off + j * 7) (nAt x.kids j) d1 e1 d2 e2 dk ek ∧ NdIn m n lo w (nAt x.kids j) (ndV (nAt x.kids j) d1 e1 d2 e2 dk ek))
theorem Seven.next {B : Nat} {w w' : World} {b o : Nat} {x : Nd} {a1 a2 ak : Option Addr} {c1 c2 ck : Nat} (h : Seven w b o x a1 c1 a2 c2 ak ck) (hb : Below B w w') (hl : b < B) : Seven w' b o x a1 c1 a2 c2 ak ck := by
  obtain ⟨h0, h1, h2, h3, h4, h5, h6⟩ := h
  exact ⟨(hb.cell (p := ⟨b, _, none⟩) hl).trans h0, (hb.cell (p := ⟨b, _, none⟩) hl).trans h1, (hb.cell (p := ⟨b, _, none⟩) hl).trans h2, (hb.cell (p := ⟨b, _, none⟩) hl).trans h3, (hb.cell (p := ⟨b, _, none⟩) hl).trans h4, (hb.cell (p := ⟨b, _, none⟩) hl).trans h5, (hb.cell (p := ⟨b, _, none⟩) hl).trans h6⟩
theorem NdIn.mono {m n lo lo' : Nat} {w w' : World} {x : Nd} {v : Value} (h : NdIn m n lo w x v) (hl : lo' ≤ lo) (hb : Below w.heap.size w w') : NdIn m n lo' w' x v := by
  induction m generalizing x v with
  | zero => exact h.elim
  | succ m ih =>
    obtain ⟨a1, c1, a2, c2, ak, ck, hv, hA, hlen, hs, hc⟩ := h
    refine ⟨a1, c1, a2, c2, ak, ck, hv, hA.mono hl hb, hlen, hs, ?_⟩
    rcases hc with hc | ⟨b, off, ha, hlo, hbb, hc⟩
    · exact Or.inl hc
    · refine Or.inr ⟨b, off, ha, Nat.le_trans hl hlo, Nat.lt_of_lt_of_le hbb hb.size, fun j hj => ?_⟩
      obtain ⟨d1, e1, d2, e2, dk, ek, hs7, hk⟩ := hc j hj
      exact ⟨d1, e1, d2, e2, dk, ek, hs7.next hb hbb, ih hk⟩
theorem NdIn.next {m n lo : Nat} {w w' : World} {x : Nd} {v : Value} (h : NdIn m n lo w x v) (hb : Below w.heap.size w w') : NdIn m n lo w' x v := h.mono (Nat.le_refl _) hb
theorem NdIn.deeper {m n lo : Nat} {w : World} {x : Nd} {v : Value} (h : NdIn m n lo w x v) : NdIn (m + 1) n lo w x v := by
  induction m generalizing x v with
  | zero => exact h.elim
  | succ m ih =>
    obtain ⟨a1, c1, a2, c2, ak, ck, hv, hA, hlen, hs, hc⟩ := h
    refine ⟨a1, c1, a2, c2, ak, ck, hv, hA, hlen, hs, ?_⟩
    rcases hc with hc | ⟨b, off, ha, hlo, hbb, hc⟩
    · exact Or.inl hc
    · refine Or.inr ⟨b, off, ha, hlo, hbb, fun j hj => ?_⟩
      obtain ⟨d1, e1, d2, e2, dk, ek, hs7, hk⟩ := hc j hj
      exact ⟨d1, e1, d2, e2, dk, ek, hs7, ih hk⟩
theorem NdIn.deep {m m' n lo : Nat} {w : World} {x : Nd} {v : Value} (h : NdIn m n lo w x v) (hm : m ≤ m') : NdIn m' n lo w x v := by
  induction hm with
  | refl => exact h
  | step _ ih => exact ih.deeper
theorem NdIn.boxes {m n n' lo : Nat} {w : World} {x : Nd} {v : Value} (h : NdIn m n lo w x v) (hn : n ≤ n') : NdIn m n' lo w x v := by
  induction m generalizing x v with
  | zero => exact h.elim
  | succ m ih =>
    obtain ⟨a1, c1, a2, c2, ak, ck, hv, hA, hlen, hs, hc⟩ := h
    refine ⟨a1, c1, a2, c2, ak, ck, hv, hA.deep hn, hlen, hs, ?_⟩
    rcases hc with hc | ⟨b, off, ha, hlo, hbb, hc⟩
    · exact Or.inl hc
    · refine Or.inr ⟨b, off, ha, hlo, hbb, fun j hj => ?_⟩
      obtain ⟨d1, e1, d2, e2, dk, ek, hs7, hk⟩ := hc j hj
      exact ⟨d1, e1, d2, e2, dk, ek, hs7, ih hk⟩
/-- The parts of a node, as they lie. -/
def KidsIn (m n lo : Nat) (w : World) (ks : List Nd) (ak : Option Addr) : Prop :=
  ks = [] ∨ ∃ b off, ak = some ⟨b, off, none⟩ ∧ lo ≤ b ∧ b < w.heap.size ∧
      ∀ j, j < ks.length → ∃ d1 e1 d2 e2 dk ek, Seven w b (off + j * 7) (nAt ks j) d1 e1 d2 e2 dk ek ∧ NdIn m n lo w (nAt ks j) (ndV (nAt ks j) d1 e1 d2 e2 dk ek)
/-- A part, in whatever world is later. -/
theorem kid_at {m n lo : Nat} {w : World} {ks : List Nd} {ak : Option Addr} (h : KidsIn m n lo w ks ak) {j : Nat} (hj : j < ks.length) :
    ∃ b off d1 e1 d2 e2 dk ek, ak = some ⟨b, off, none⟩ ∧ lo ≤ b ∧ b < w.heap.size ∧ ∀ wr, Below w.heap.size w wr → Seven wr b (off + j * 7) (nAt ks j) d1 e1 d2 e2 dk ek ∧ NdIn m n lo wr (nAt ks j) (ndV (nAt ks j) d1 e1 d2 e2 dk ek) := by
  rcases h with h | ⟨b, off, ha, hlo, hb, hc⟩
  · rw [h] at hj; simp at hj
  obtain ⟨d1, e1, d2, e2, dk, ek, hs, hk⟩ := hc j hj
  exact ⟨b, off, d1, e1, d2, e2, dk, ek, ha, hlo, hb, fun wr hw => ⟨hs.next hw hb, hk.next hw⟩⟩
theorem KidsIn.mono {m n lo lo' : Nat} {w w' : World} {ks : List Nd} {ak : Option Addr} (h : KidsIn m n lo w ks ak) (hl : lo' ≤ lo) (hb : Below w.heap.size w w') : KidsIn m n lo' w' ks ak := by
  rcases h with h | ⟨b, off, ha, hlo, hbb, hc⟩
  · exact Or.inl h
  · refine Or.inr ⟨b, off, ha, Nat.le_trans hl hlo, Nat.lt_of_lt_of_le hbb hb.size, fun j hj => ?_⟩
    obtain ⟨d1, e1, d2, e2, dk, ek, hs, hk⟩ := hc j hj
    exact ⟨d1, e1, d2, e2, dk, ek, hs.next hb hbb, hk.mono hl hb⟩
theorem NdIn.form {m n lo : Nat} {w : World} {x : Nd} {v : Value} (h : NdIn m n lo w x v) :
    ∃ m', m = m' + 1 ∧ ∃ a1 c1 a2 c2 ak ck, v = ndV x a1 c1 a2 c2 ak ck ∧ ArIn n lo w x.lit (.agg #[.slice a1 x.lit.shape.length c1, .slice a2 x.lit.cells.length c2]) ∧ x.kids.length ≤ 1256584717421 ∧ x.name.size ≤ 140737488355328 ∧ KidsIn m' n lo w x.kids ak := by
  cases m with
  | zero => exact h.elim
  | succ m =>
    obtain ⟨a1, c1, a2, c2, ak, ck, hv, hA, hlen, hs, hc⟩ := h
    exact ⟨m, rfl, a1, c1, a2, c2, ak, ck, hv, hA, hlen, hs, hc⟩
/-- Sums over the first so many. -/
def sumUp (f : Nat → Nat) : Nat → Nat
  | 0 => 0
  | m + 1 => sumUp f m + f m
theorem sumUp_le {f : Nat → Nat} {j m : Nat} (h : j ≤ m) : sumUp f j ≤ sumUp f m := by
  induction h with
  | refl => exact Nat.le_refl _
  | step _ ih => exact Nat.le_trans ih (Nat.le_add_right _ _)
theorem sumUp_one {f : Nat → Nat} {j m : Nat} (h : j < m) : sumUp f j + f j ≤ sumUp f m := sumUp_le (f := f) (j := j + 1) h
/-- How many nodes; how deep the deepest lies. -/
def sizeN : Nat → Nd → Nat
  | 0, _ => 0
  | m + 1, x => 1 + sumUp (fun i => sizeN m (nAt x.kids i)) x.kids.length
def deepN : Nat → Nd → Int
  | 0, _ => 0
  | m + 1, x => maxUp (fun i => 1 + deepN m (nAt x.kids i)) x.kids.length
theorem deepN_nonneg (m : Nat) (x : Nd) : 0 ≤ deepN m x := by
  cases m with
  | zero => simp [deepN]
  | succ m => exact maxUp_nonneg _ _
theorem maxUp_at {f : Nat → Int} {i m : Nat} (h : i < m) : f i ≤ maxUp f m := by
  induction m with
  | zero => omega
  | succ m ih =>
    simp only [maxUp]
    rcases Nat.lt_succ_iff_lt_or_eq.1 h with h | rfl
    · have := ih h; omega
    · omega
theorem deepN_size (m : Nat) (x : Nd) : deepN m x ≤ (sizeN m x : Int) := by
  induction m generalizing x with
  | zero => simp [deepN, sizeN]
  | succ m ih =>
    simp only [deepN, sizeN]
    refine maxUp_le (by omega) fun i hi => ?_
    have h1 := ih (nAt x.kids i)
    have h2 := sumUp_one (f := fun i => sizeN m (nAt x.kids i)) hi
    omega
theorem size_kid {m : Nat} {x : Nd} {i : Nat} (h : i < x.kids.length) : sizeN m (nAt x.kids i) + 1 ≤ sizeN (m + 1) x := by
  have h2 := sumUp_one (f := fun i => sizeN m (nAt x.kids i)) h
  simp only [sizeN]
  omega
/-- Is it so of one of the first so many? -/
def anyUp (f : Nat → Bool) : Nat → Bool
  | 0 => false
  | m + 1 => anyUp f m || f m
theorem anyUp_none {f : Nat → Bool} {m : Nat} : anyUp f m = false ↔ ∀ i, i < m → f i = false := by
  induction m with
  | zero => simp [anyUp]
  | succ m ih =>
    simp only [anyUp, Bool.or_eq_false_iff, ih]
    constructor
    · rintro ⟨h, h'⟩ i hi
      rcases Nat.lt_succ_iff_lt_or_eq.1 hi with hi | rfl
      · exact h i hi
      · exact h'
    · exact fun h => ⟨fun i hi => h i (by omega), h m (by omega)⟩
theorem anyUp_hit {f : Nat → Bool} {i m : Nat} (hi : i < m) (h : f i = true) : anyUp f m = true := by
  cases hh : anyUp f m with
  | true => rfl
  | false => rw [anyUp_none] at hh; rw [hh i hi] at h; cases h
/-- Does a program name an argument of the function that it is the text of? -/
def usesN : Nat → Int → Nd → Bool
  | 0, _, _ => false
  | m + 1, k, x => if x.kind = k then true else if x.kind = 22 ∨ x.kind = 23 then false else anyUp (fun i => usesN m k (nAt x.kids i)) x.kids.length
end Go.Proofs.Ytkgpoibnilgaeaa
