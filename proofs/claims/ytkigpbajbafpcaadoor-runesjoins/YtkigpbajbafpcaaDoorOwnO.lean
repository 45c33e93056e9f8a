/-
  A list of numbers put behind one of the call's own, by append, guarded or not, whether the list is nil or not; and what Read answers of any bytes, as far as the way on needs it; no condition.
-/
import Derived.Test.YtkigpbajbafpcaaDoorOwnN
import Derived.Laws.AppendOwnNone
import Derived.BigFrame
namespace Go.Proofs.YtkigpbajbafpcaaDoor
open Go.ChangeShapes Go.WideShapes Go.ChangeAt Go.RowKit
set_option linter.unusedVariables false
theorem wpList_append_row {P : Program} {w : World} {ops : Array Oper} {rest : List Oper} {o : Oper} {a : Act} {Q : Exit → Act → World → Prop} (hw : Region.wanted o (yielded ops a.tmps) = true) (s x : Operand) (t : TypeId)
    (ho : o.op = .call { callee := .builtin .append, args := #[s, x], argTypes := #[t, t] })
    (base : Nat) (e : TypeId) (i : TypeInfo) (z : Value) (bytes : Nat) (ht : P.underlying t = some (.slice e)) (hi : P.info? e = some i) (hz : i.zero = some z)
    (hsize : i.size = 1) (hby : i.bytes = bytes) (hzs : z.cells.size = 1)
    (v : Value) (n : Nat) (xs : List Value) (hs : a.eval s = v) (hown : w.ownsRow base e 1 v n xs)
    (k : IntKind) (ad : Option Addr) (m c : Nat) (zs : List Int) (hx : a.eval x = .slice ad m c) (hm : zs.length = m) (R : Row k w ad zs) (hnil : ad = none → c = 0)
    (h63 : n + m ≤ maxLen) (hbytes : (n + m) * bytes ≤ 140737488355328) (hbase : base ≤ w.heap.size)
    (h : ∀ v' w', w'.ownsRow base e 1 v' (n + m) (xs ++ zs.map (Value.int k)) → Below base w w' → wpList P ops Q rest (a.put o.dst v') w') : wpList P ops Q (o :: rest) a w := by
  subst hm
  refine BigFrame.wpList_want hw fun K hK => ?_
  cases ad with
  | none =>
    have hz0 : zs = [] := by
      rcases R.2 with h0 | ⟨b, off, ha, _⟩
      · exact h0
      · cases ha
    subst hz0
    have hc := hnil rfl
    subst hc
    have hrun := run_append_owned_none (P := P) (w := w) base t o.type e i 1 ht hi v n xs hown
    unfold Oper.wp
    simp only [execOp, ho, resolve, invoke, builtin, Sem.run_bind, Sem.run_pure, Result.andThen_ok, List.map_toArray, List.map_cons, List.map_nil, hs, hx, List.length_nil, hrun]
    exact hK _ _ (h v w (by simpa using hown) (Below.refl _ _))
  | some p =>
    refine wp_append_own w s x t ho base e i z 1 bytes ht hi hz hsize hby hzs (by decide) v n xs hs hown p zs.length c (zs.map (Value.int k)) hx (by simp) ?_ ?_ h63 hbytes hbase ?_
    · intro j u hj
      have hjl : j < zs.length := by
        rcases Nat.lt_or_ge j zs.length with h' | h'
        · exact h'
        · simp [List.getElem?_eq_none h'] at hj
      rcases R.2 with h0 | ⟨b, off, ha, hb, hc⟩
      · subst h0; simp at hjl
      · cases ha
        have ea : (⟨b, off, none⟩ : Addr).add j = ⟨b, off + j, none⟩ := by
          unfold Addr.add
          split
          · subst_vars; rfl
          · rfl
        rw [ea, hc j hjl]
        rw [List.getElem?_map, List.getElem?_eq_getElem hjl] at hj
        rw [List.getElem?_eq_getElem hjl]
        simpa using hj
    · intro u hu
      obtain ⟨y, _, rfl⟩ := List.mem_map.1 hu
      rfl
    · intro v' w' hown' hgrow _
      exact hK _ _ (h v' w' hown' ((Below.refl _ _).grown hgrow hbase (fun q hq => (hown.lt q hq).1)))
/-- What Read answers of any bytes: three values, the last two numbers. -/
theorem read_loose (b : List Int) (n : Nat) (hn : b.length = n) (a : Option Addr) (cap : Nat) (w : World) (R : Row .u8 w a b) (T : Tab w) (hB : ∀ z ∈ b, Byte z) (hcap : n ≤ cap) (hl : n * 8 ≤ 140737488355328) :
    Calls Tryd.prog 13 #[.slice a n cap] w fun e w' => (∃ x i j, e = .returned (.tuple #[x, .int .i64 i, .int .i64 j])) ∧ Below w.heap.size w w' := by
  obtain ⟨l, r, P⟩ := parse_exists b
  have h1 := parse_len P
  have h2 := enc_len l
  refine (read_at b l r P n hn a cap w R T hB hcap (by omega)).mono ?_
  rintro e w' ⟨h3, h4, h5⟩
  refine ⟨?_, h5⟩
  by_cases h : r = []
  · obtain ⟨a', rfl, _⟩ := h3 h
    exact ⟨_, _, _, rfl⟩
  · have := h4 h
    subst this
    exact ⟨_, _, _, rfl⟩
theorem made_empty (w : World) (base : Nat) (e : TypeId) (hb : base ≤ w.heap.size) : (w.alloc (.cells #[] e)).ownsRow base e 1 (.slice (some ⟨w.heap.size, 0, none⟩) 0 0) 0 [] :=
  World.ownsRow_made w #[] 0 hb (by unfold maxLen; omega) rfl
end Go.Proofs.YtkigpbajbafpcaaDoor
