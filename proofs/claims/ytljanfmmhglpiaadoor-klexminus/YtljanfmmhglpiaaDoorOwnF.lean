/-
  Arrays as plain data, how they lie in memory, and their order: the plain mathematics of it; no program is named.
-/
import Derived.Test.YtljanfmmhglpiaaDoorOwnB
import Derived.Test.YtljanfmmhglpiaaDoorRows
import Derived.WalkKit
import Derived.ProofKit
import Derived.Below
namespace Go.Proofs.YtljanfmmhglpiaaDoor
open Go.ChangeShapes Go.WideShapes Go.ChangeAt Go.RowKit
/-- An array: its shape, and its cells: kind, number, what is in the box. -/
inductive Ar where
  | mk (shape : List Int) (cells : List (Int × Int × List Ar))
abbrev Ce := Int × Int × List Ar
def Ar.shape : Ar → List Int
  | .mk s _ => s
def Ar.cells : Ar → List Ce
  | .mk _ c => c
instance : Inhabited Ar := ⟨.mk [] []⟩
/-- A number of 64 bits; an array all of whose numbers are such, boxes gone into. -/
def I64 (a : Int) : Prop := -9223372036854775808 ≤ a ∧ a ≤ 9223372036854775807
inductive Snd : Ar → Prop where
  | mk {s : List Int} {cs : List (Int × Int × List Ar)} (hs : ∀ z ∈ s, I64 z) (hn : ∀ c ∈ cs, I64 c.1 ∧ I64 c.2.1) (hb : ∀ c ∈ cs, ∀ y ∈ c.2.2, Snd y) : Snd (.mk s cs)
def SndC (c : Ce) : Prop := I64 c.1 ∧ I64 c.2.1 ∧ ∀ y ∈ c.2.2, Snd y
theorem Snd.of {s : List Int} {cs : List Ce} (hs : ∀ z ∈ s, I64 z) (hc : ∀ c ∈ cs, SndC c) : Snd (.mk s cs) := .mk hs (fun c h => ⟨(hc c h).1, (hc c h).2.1⟩) fun c h => (hc c h).2.2
theorem Snd.cell {x : Ar} (h : Snd x) {c : Ce} (hc : c ∈ x.cells) : SndC c := by
  cases h with
  | mk hs hn hb => exact ⟨(hn c hc).1, (hn c hc).2, hb c hc⟩
theorem Snd.axis {x : Ar} (h : Snd x) {z : Int} (hz : z ∈ x.shape) : I64 z := by
  cases h with
  | mk hs hn hb => exact hs z hz
/-- The cell at a place, the array at a place of a box. -/
def cAt (l : List Ce) (i : Nat) : Ce := l[i]?.getD (0, 0, [])
def bAt (l : List Ar) (i : Nat) : Ar := l[i]?.getD (.mk [] [])
/-- A cell's value: its three cells of memory; a box's arrays lie in a row, two cells of memory each. -/
def CeIn (P : Ar → Value → Prop) (lo : Nat) (w : World) (c : Ce) (v0 v1 v2 : Value) : Prop :=
  v0 = .int .i64 c.1 ∧ v1 = .int .i64 c.2.1 ∧ ∃ a cap, v2 = .slice a c.2.2.length cap ∧ c.2.2.length ≤ 5864062014805 ∧ (c.2.2 = [] ∨ ∃ b off, a = some ⟨b, off, none⟩ ∧ lo ≤ b ∧ b < w.heap.size ∧
    ∀ j, j < c.2.2.length → ∃ u0 u1, w.cell? ⟨b, off + j * 2, none⟩ = some u0 ∧ w.cell? ⟨b, off + j * 2 + 1, none⟩ = some u1 ∧ P (bAt c.2.2 j) (.agg #[u0, u1]))
/-- An array's value, no deeper than n boxes; all its memory in blocks from lo on. -/
def ArIn : Nat → Nat → World → Ar → Value → Prop
  | 0, _, _, _, _ => False
  | n + 1, lo, w, x, v => ∃ a1 c1 a2 c2, v = .agg #[.slice a1 x.shape.length c1, .slice a2 x.cells.length c2] ∧ Row lo w a1 x.shape ∧ x.cells.length ≤ 5864062014805 ∧ (x.cells = [] ∨ ∃ b off, a2 = some ⟨b, off, none⟩ ∧ lo ≤ b ∧ b < w.heap.size ∧
      ∀ i, i < x.cells.length → ∃ v0 v1 v2, w.cell? ⟨b, off + i * 3, none⟩ = some v0 ∧ w.cell? ⟨b, off + i * 3 + 1, none⟩ = some v1 ∧ w.cell? ⟨b, off + i * 3 + 2, none⟩ = some v2 ∧ CeIn (ArIn n lo w) lo w (cAt x.cells i) v0 v1 v2)
theorem CeIn.mono {P Q : Ar → Value → Prop} {lo lo' : Nat} {w w' : World} {c : Ce} {v0 v1 v2 : Value} (h : CeIn P lo w c v0 v1 v2) (hl : lo' ≤ lo) (hb : Below w.heap.size w w') (hPQ : ∀ x v, P x v → Q x v) : CeIn Q lo' w' c v0 v1 v2 := by
  obtain ⟨h0, h1, a, cap, h2, h3, h4⟩ := h
  refine ⟨h0, h1, a, cap, h2, h3, ?_⟩
  rcases h4 with h4 | ⟨b, off, ha, hlo, hbb, hc⟩
  · exact Or.inl h4
  · refine Or.inr ⟨b, off, ha, Nat.le_trans hl hlo, Nat.lt_of_lt_of_le hbb hb.size, fun j hj => ?_⟩
    obtain ⟨u0, u1, e0, e1, e2⟩ := hc j hj
    exact ⟨u0, u1, (hb.cell (p := ⟨b, off + j * 2, none⟩) hbb).trans e0, (hb.cell (p := ⟨b, off + j * 2 + 1, none⟩) hbb).trans e1, hPQ _ _ e2⟩
theorem ArIn.mono {n lo lo' : Nat} {w w' : World} {x : Ar} {v : Value} (h : ArIn n lo w x v) (hl : lo' ≤ lo) (hb : Below w.heap.size w w') : ArIn n lo' w' x v := by
  induction n generalizing x v with
  | zero => exact h.elim
  | succ n ih =>
    obtain ⟨a1, c1, a2, c2, hv, hR, hlen, hc⟩ := h
    refine ⟨a1, c1, a2, c2, hv, (hR.next hb).low hl, hlen, ?_⟩
    rcases hc with hc | ⟨b, off, ha, hlo, hbb, hc⟩
    · exact Or.inl hc
    · refine Or.inr ⟨b, off, ha, Nat.le_trans hl hlo, Nat.lt_of_lt_of_le hbb hb.size, fun i hi => ?_⟩
      obtain ⟨v0, v1, v2, e0, e1, e2, e3⟩ := hc i hi
      exact ⟨v0, v1, v2, (hb.cell (p := ⟨b, off + i * 3, none⟩) hbb).trans e0, (hb.cell (p := ⟨b, off + i * 3 + 1, none⟩) hbb).trans e1, (hb.cell (p := ⟨b, off + i * 3 + 2, none⟩) hbb).trans e2, e3.mono hl hb fun x v h => ih h⟩
theorem ArIn.next {n lo : Nat} {w w' : World} {x : Ar} {v : Value} (h : ArIn n lo w x v) (hb : Below w.heap.size w w') : ArIn n lo w' x v := h.mono (Nat.le_refl _) hb
theorem CeIn.deeper {P Q : Ar → Value → Prop} {lo : Nat} {w : World} {c : Ce} {v0 v1 v2 : Value} (h : CeIn P lo w c v0 v1 v2) (hPQ : ∀ x v, P x v → Q x v) : CeIn Q lo w c v0 v1 v2 := h.mono (Nat.le_refl _) (Below.refl _ _) hPQ
theorem ArIn.deeper {n lo : Nat} {w : World} {x : Ar} {v : Value} (h : ArIn n lo w x v) : ArIn (n + 1) lo w x v := by
  induction n generalizing x v with
  | zero => exact h.elim
  | succ n ih =>
    obtain ⟨a1, c1, a2, c2, hv, hR, hlen, hc⟩ := h
    refine ⟨a1, c1, a2, c2, hv, hR, hlen, ?_⟩
    rcases hc with hc | ⟨b, off, ha, hlo, hbb, hc⟩
    · exact Or.inl hc
    · refine Or.inr ⟨b, off, ha, hlo, hbb, fun i hi => ?_⟩
      obtain ⟨v0, v1, v2, e0, e1, e2, e3⟩ := hc i hi
      exact ⟨v0, v1, v2, e0, e1, e2, e3.deeper fun x v h => ih h⟩
theorem ArIn.deep {n m lo : Nat} {w : World} {x : Ar} {v : Value} (h : ArIn n lo w x v) (hm : n ≤ m) : ArIn m lo w x v := by
  induction hm with
  | refl => exact h
  | step _ ih => exact ih.deeper
/-- How two numbers stand to one another. -/
def cmp3 (a b : Int) : Int := if a < b then -1 else if b < a then 1 else 0
/-- The first that is not 0 among the first m. -/
def firstUp (f : Nat → Int) : Nat → Int
  | 0 => 0
  | m + 1 => if firstUp f m = 0 then f m else firstUp f m
theorem firstUp_stays {f : Nat → Int} {j : Nat} (h : firstUp f j ≠ 0) (m : Nat) (hm : j ≤ m) : firstUp f m = firstUp f j := by
  induction hm with
  | refl => rfl
  | step _ ih => simp only [firstUp]; rw [ih, if_neg h]
theorem firstUp_hit {f : Nat → Int} {j : Nat} (h0 : firstUp f j = 0) (h : f j ≠ 0) (m : Nat) (hm : j < m) : firstUp f m = f j := by
  have e : firstUp f (j + 1) = f j := by simp [firstUp, h0]
  rw [← e]
  exact firstUp_stays (by rw [e]; exact h) m hm
theorem firstUp_step {f : Nat → Int} {j : Nat} (h0 : firstUp f j = 0) : firstUp f (j + 1) = f j := by simp [firstUp, h0]
theorem firstUp_congr {f g : Nat → Int} {m : Nat} (h : ∀ i, i < m → f i = g i) : firstUp f m = firstUp g m := by
  induction m with
  | zero => rfl
  | succ m ih => simp only [firstUp]; rw [ih fun i hi => h i (by omega), h m (by omega)]
/-- How two cells stand to one another, given how two arrays do. -/
def cmpC (f : Ar → Ar → Int) (c d : Ce) : Int :=
  if cmp3 c.1 d.1 ≠ 0 then cmp3 c.1 d.1 else if cmp3 c.2.1 d.2.1 ≠ 0 then cmp3 c.2.1 d.2.1
  else if 0 < c.2.2.length ∧ 0 < d.2.2.length then f (bAt c.2.2 0) (bAt d.2.2 0) else cmp3 c.2.2.length d.2.2.length
def axF (x y : Ar) (i : Nat) : Int := cmp3 (x.shape[i]?.getD 0) (y.shape[i]?.getD 0)
def ceF (f : Ar → Ar → Int) (x y : Ar) (i : Nat) : Int := cmpC f (cAt x.cells i) (cAt y.cells i)
/-- How two arrays stand to one another, no deeper than n boxes. -/
def cmpA : Nat → Ar → Ar → Int
  | 0, _, _ => 0
  | n + 1, x, y =>
    if cmp3 x.shape.length y.shape.length ≠ 0 then cmp3 x.shape.length y.shape.length
    else if firstUp (axF x y) x.shape.length ≠ 0 then firstUp (axF x y) x.shape.length
    else if firstUp (ceF (cmpA n) x y) (min x.cells.length y.cells.length) ≠ 0 then firstUp (ceF (cmpA n) x y) (min x.cells.length y.cells.length)
    else cmp3 x.cells.length y.cells.length
end Go.Proofs.YtljanfmmhglpiaaDoor
