/-
  Words beside words: ref12.Same answers true for the same words.
-/
import Derived.Test.YtljanfmmhglpiaaDoorLxQ
import Derived.Test.YtljanfmmhglpiaaDoorOwnZ
import Derived.BigQuiet
namespace Go.Proofs.YtljanfmmhglpiaaDoor
open Go.ChangeShapes Go.WideShapes Go.ChangeAt Go.RowKit
open Rn (Byte)
set_option linter.unusedVariables false
set_option linter.unusedSimpArgs false
set_option maxRecDepth 100000
def CW (w : World) (g o : Nat) (kd : Int) (SS : ByteArray) (z1 : Option Addr) (n1 m1 : Nat) (z2 : Option Addr) (n2 m2 : Nat) (ta : Int) : Prop :=
  w.cell? ⟨g, o, none⟩ = some (.int .i64 kd) ∧ w.cell? ⟨g, o + 1, none⟩ = some (.string SS) ∧ w.cell? ⟨g, o + 2, none⟩ = some (.slice z1 n1 m1) ∧ w.cell? ⟨g, o + 3, none⟩ = some (.slice z2 n2 m2) ∧ w.cell? ⟨g, o + 4, none⟩ = some (.int .i64 ta)
theorem CW.next {w w' : World} {g o : Nat} {kd : Int} {SS : ByteArray} {z1 : Option Addr} {n1 m1 : Nat} {z2 : Option Addr} {n2 m2 : Nat} {ta : Int} (h : CW w g o kd SS z1 n1 m1 z2 n2 m2 ta) (hb : Below w.heap.size w w') (hg : g < w.heap.size) : CW w' g o kd SS z1 n1 m1 z2 n2 m2 ta := by
  obtain ⟨a, b, c, d, e⟩ := h
  have k : ∀ j v, w.cell? ⟨g, j, none⟩ = some v → w'.cell? ⟨g, j, none⟩ = some v := fun j v hv => (hb.cell (p := ⟨g, j, none⟩) hg).trans hv
  exact ⟨k _ _ a, k _ _ b, k _ _ c, k _ _ d, k _ _ e⟩
set_option maxHeartbeats 16000000 in
theorem same9 {w : World} {a b : Option Addr} {ca cb N : Nat} {ts : List Tk} (hN : ts.length = N) (ha : TkIn w a ts) (hb : TkIn w b ts) : Calls Tryd.prog 9 #[.slice a N ca, .slice b N cb] w fun e w' => e = .returned (.bool true) ∧ Below w.heap.size w w' := by
  have HA := hide ha
  have HB := hide hb
  have HL := hide ha.1
  clear ha hb
  go_enter Tryd.func9, Tryd.ntmps9
  go_upto_region 4 with fail
  go_loopg [5] N (fun g nv wr => ∃ (i : Nat), g + i = N ∧ nv = .int .i64 (i : Int) ∧ Below w.heap.size w wr)
  case atStart => exact ⟨0, by omega, by go_num, Below.refl _ _⟩
  case round =>
    obtain ⟨i, hj, rfl, hbr⟩ := hrel
    have hNl : N ≤ 2048 := by rw [← hN]; exact HL.out
    by_cases hi : i < N
    · obtain ⟨t, ht⟩ : ∃ t, ts[i]? = some t := ⟨_, List.getElem?_eq_getElem (by omega)⟩
      rcases (HA.out.next hbr).2 with h | ⟨ga, oa, rfl, hga, hca⟩
      · rw [h] at ht; simp at ht
      rcases (HB.out.next hbr).2 with h | ⟨gb, ob, rfl, hgb, hcb⟩
      · rw [h] at ht; simp at ht
      obtain ⟨z1, m1, z2, m2, q0, q1, q2, q3, q4, q5⟩ := hca i t ht
      obtain ⟨y1, k1, y2, k2, r0, r1, r2, r3, r4, r5⟩ := hcb i t ht
      clear hca hcb ht
      have HSA : Hid (∀ W, Below wr.heap.size wr W → Calls Tryd.prog 12 #[.agg #[.slice z1 t.lit.shape.length m1, .slice z2 t.lit.cells.length m2], .agg #[.slice y1 t.lit.shape.length k1, .slice y2 t.lit.cells.length k2]] W fun e w' => e = .returned (.bool true) ∧ Below wr.heap.size wr w') := fun W h => by
        have := rsame_any (q5.next h) (r5.next h)
        rw [show decide (cmpA 1 t.lit t.lit = 0) = true from decide_eq_true (cmpA_self _ _)] at this
        exact this.mono fun e w' ⟨he, hw⟩ => ⟨he, h.trans (hw.mono h.size)⟩
      have KA : CW wr ga (oa + i * 5) t.kind (strOfNums t.text) z1 t.lit.shape.length m1 z2 t.lit.cells.length m2 (t.at' : Int) := ⟨q0, q1, q2, q3, q4⟩
      have KB : CW wr gb (ob + i * 5) t.kind (strOfNums t.text) y1 t.lit.shape.length k1 y2 t.lit.cells.length k2 (t.at' : Int) := ⟨r0, r1, r2, r3, r4⟩
      clear q0 q1 q2 q3 q4 q5 r0 r1 r2 r3 r4 r5
      generalize strOfNums t.text = SS at *
      generalize t.lit.shape.length = n1 at *
      generalize t.lit.cells.length = n2 at *
      generalize t.kind = kd at *
      obtain ⟨q, hq⟩ : ∃ q : Int, (t.at' : Int) = q := ⟨_, rfl⟩
      rw [hq] at KA KB
      clear hq
      have KS : Hid (∀ W, Below wr.heap.size wr W → Below wr.heap.size wr W ∧ (W.cell? ⟨ga, oa + i * 5, none⟩ = some (.int .i64 kd) ∧ W.cell? ⟨ga, oa + i * 5 + 1, none⟩ = some (.string SS) ∧ W.cell? ⟨ga, oa + i * 5 + 2, none⟩ = some (.slice z1 n1 m1) ∧ W.cell? ⟨ga, oa + i * 5 + 3, none⟩ = some (.slice z2 n2 m2) ∧ W.cell? ⟨ga, oa + i * 5 + 4, none⟩ = some (.int .i64 q)) ∧ W.cell? ⟨gb, ob + i * 5, none⟩ = some (.int .i64 kd) ∧ W.cell? ⟨gb, ob + i * 5 + 1, none⟩ = some (.string SS) ∧ W.cell? ⟨gb, ob + i * 5 + 2, none⟩ = some (.slice y1 n1 k1) ∧ W.cell? ⟨gb, ob + i * 5 + 3, none⟩ = some (.slice y2 n2 k2) ∧ W.cell? ⟨gb, ob + i * 5 + 4, none⟩ = some (.int .i64 q)) := fun W h => ⟨h, KA.next h hga, KB.next h hgb⟩
      have HD0 : Hid (Below wr.heap.size wr wr.drew) := (Below.refl _ _).drew
      have HBR := hide hbr
      clear KA KB hbr HA HB HL
      go_upto_region 6 with fail
      obtain ⟨-, ⟨q0, q1, q2, q3, q4⟩, r0, r1, r2, r3, r4⟩ := KS.out wr (Below.refl _ _)
      go_region_held3 (fun W => Below wr.heap.size wr W ∧ (W.cell? ⟨ga, oa + i * 5, none⟩ = some (.int .i64 kd) ∧ W.cell? ⟨ga, oa + i * 5 + 1, none⟩ = some (.string SS) ∧ W.cell? ⟨ga, oa + i * 5 + 2, none⟩ = some (.slice z1 n1 m1) ∧ W.cell? ⟨ga, oa + i * 5 + 3, none⟩ = some (.slice z2 n2 m2) ∧ W.cell? ⟨ga, oa + i * 5 + 4, none⟩ = some (.int .i64 q)) ∧ W.cell? ⟨gb, ob + i * 5, none⟩ = some (.int .i64 kd) ∧ W.cell? ⟨gb, ob + i * 5 + 1, none⟩ = some (.string SS) ∧ W.cell? ⟨gb, ob + i * 5 + 2, none⟩ = some (.slice y1 n1 k1) ∧ W.cell? ⟨gb, ob + i * 5 + 3, none⟩ = some (.slice y2 n2 k2) ∧ W.cell? ⟨gb, ob + i * 5 + 4, none⟩ = some (.int .i64 q)) (first | with_reducible exact KS.out _ HD0.out | with_reducible exact KS.out _ (by with_reducible assumption)) (first | (go_at_call 12; refine (HSA.out _ HD0.out).mono ?_; rintro e w6 ⟨rfl, hb6⟩))
      all_goals
        have hi1 : (i : Int) + 1 ≤ 9223372036854775807 := by omega
        go_wp2
        go_roundg (N - (i + 1))
        case rel => exact ⟨i + 1, by omega, by first | rfl | go_num, HBR.out.trans ((show Below wr.heap.size wr _ by assumption).mono HBR.out.size)⟩
        case measure => omega
    · go_wp2
      go_ret
      exact ⟨rfl, hbr⟩
theorem numsS_app (a b : ByteArray) : numsS (a ++ b) = numsS a ++ numsS b := by
  unfold numsS
  rw [ByteArray.data_append, Array.toList_append, List.map_append]
theorem lexM_more {S x : List Int} (hx : Beh x) (h2 : (S ++ x).length ≤ 8192) (h : (lexM S).2.1 = 0) : lexM (S ++ x) = lexM S := by
  have hl := h2
  rw [List.length_append] at hl
  unfold lexM at h ⊢
  rw [if_neg (by omega)] at h
  rw [if_neg (by omega), if_neg (by omega)]
  exact lex_more hx _ _ _ _ _ _ (by omega) (by rw [List.length_append]; omega) h
/-- Lex at a text, with letters for what it gives. -/
theorem lexed {w : World} (G : Glb w) (st : ByteArray) (h : st.size ≤ maxLen) : ∃ ts er fa N, lexM (numsS st) = (ts, er, fa) ∧ ts.length = N ∧ Calls Tryd.prog 8 #[.string st] w fun e w' => (∃ a c, e = .returned (.tuple #[.slice a N c, .agg #[.int .i64 er, .int .i64 (fa : Int), .int .i64 0]]) ∧ TkIn w' a ts) ∧ Below w.heap.size w w' := by
  have C := lex8 G st h
  obtain ⟨F, hF⟩ : ∃ F, lexM (numsS st) = F := ⟨_, rfl⟩
  rw [hF] at C
  obtain ⟨ts, er, fa⟩ := F
  exact ⟨ts, er, fa, _, hF, rfl, C⟩
theorem okT_at {S : List Int} : ∀ {l : List Tk} {lo : Nat}, OkT S lo l → ∀ (i : Nat) (t : Tk), l[i]? = some t → t.at' < S.length
  | [], _, _, i, t, hi => by simp at hi
  | u :: r, lo, h, 0, t, hi => by
    cases hi
    exact h.2.1
  | u :: r, lo, h, i + 1, t, hi => okT_at h.2.2.2.2 i t (by simpa using hi)
end Go.Proofs.YtljanfmmhglpiaaDoor
