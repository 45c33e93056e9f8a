/-
  The text that JlexApart lays, word by word (plain mathematics), and parts of a string.
-/
import Derived.Test.YtnndnjffnkhpdaaDoorLxR
import Derived.Test.YtnndnjffnkhpdaaDoorLxU
namespace Go.Proofs.YtnndnjffnkhpdaaDoor
open Go.ChangeShapes Go.WideShapes Go.ChangeAt Go.RowKit
open Rn (Byte)
set_option linter.unusedVariables false
set_option linter.unusedSimpArgs false
set_option maxRecDepth 100000
theorem numsS_str {l : List Int} (h : ∀ z ∈ l, Byte z) : numsS (strOfNums l) = l := by
  refine bytes_inj (numsS_byte _) h ?_
  rw [numsS_bytes, str_data]
/-- So many words are laid. -/
def LaidW (S : List Int) (ts : List Tk) (i : Nat) (O : ByteArray) : Prop :=
  numsS O ++ segO S (ts.drop i) = segO S ts ∧ ∀ j t u, j < i → ts[j]? = some t → ts[j + 1]? = some u → ¬ (t.kind = 1 ∧ u.kind = 1)
theorem laidW_0 (S : List Int) (ts : List Tk) : LaidW S ts 0 ⟨#[]⟩ := ⟨rfl, fun j t u h => by omega⟩
theorem drop_two {ts : List Tk} {i : Nat} {t u : Tk} (h1 : ts[i]? = some t) (h2 : ts[i + 1]? = some u) : ts.drop i = t :: u :: ts.drop (i + 2) := by
  obtain ⟨a1, b1⟩ := List.getElem?_eq_some_iff.1 h1
  obtain ⟨a2, b2⟩ := List.getElem?_eq_some_iff.1 h2
  rw [List.drop_eq_getElem_cons a1, b1, List.drop_eq_getElem_cons a2, b2]
theorem laidW_mid {S : List Int} {ts : List Tk} {i : Nat} {O SS : ByteArray} {t u : Tk} (h : LaidW S ts i O) (hb : ∀ z ∈ S, Byte z) (h1 : ts[i]? = some t) (h2 : ts[i + 1]? = some u) (hn : ¬ (t.kind = 1 ∧ u.kind = 1))
    (hS : strOfNums ((S.drop t.at').take (u.at' - t.at')) = SS) : LaidW S ts (i + 1) (O ++ SS ++ ⟨#[32]⟩) := by
  refine ⟨?_, fun j t' u' hj g1 g2 => ?_⟩
  · rw [← h.1, drop_two h1 h2, numsS_app, numsS_app, ← hS, numsS_str (fun z hz => hb z (List.mem_of_mem_drop (List.mem_of_mem_take hz)))]
    have e : ts.drop (i + 1) = u :: ts.drop (i + 2) := by
      obtain ⟨a2, b2⟩ := List.getElem?_eq_some_iff.1 h2
      rw [List.drop_eq_getElem_cons a2, b2]
    rw [e]
    show _ = numsS O ++ ((S.drop t.at').take (u.at' - t.at') ++ 32 :: segO S (u :: ts.drop (i + 2)))
    have e2 : numsS ⟨#[32]⟩ = [32] := rfl
    rw [e2]
    simp only [List.append_assoc, List.singleton_append]
  · by_cases hji : j < i
    · exact h.2 j t' u' hji g1 g2
    · obtain rfl : j = i := by omega
      rw [h1] at g1
      rw [h2] at g2
      cases g1
      cases g2
      exact hn
theorem laidW_last {S : List Int} {ts : List Tk} {i : Nat} {O SS : ByteArray} {t : Tk} (h : LaidW S ts i O) (hb : ∀ z ∈ S, Byte z) (h1 : ts[i]? = some t) (h2 : i + 1 = ts.length)
    (hS : strOfNums (S.drop t.at') = SS) : LaidW S ts (i + 1) (O ++ SS ++ ⟨#[32]⟩) := by
  obtain ⟨a1, b1⟩ := List.getElem?_eq_some_iff.1 h1
  have e1 : ts.drop i = [t] := by rw [List.drop_eq_getElem_cons a1, b1, List.drop_eq_nil_of_le (by omega)]
  have e3 : ts.drop (i + 1) = [] := List.drop_eq_nil_of_le (by omega)
  refine ⟨?_, fun j t' u' hj g1 g2 => ?_⟩
  · rw [← h.1, e1, e3, numsS_app, numsS_app, ← hS, numsS_str (fun z hz => hb z (List.mem_of_mem_drop hz))]
    have e2 : numsS ⟨#[32]⟩ = [32] := rfl
    rw [e2]
    simp [segO]
  · by_cases hji : j < i
    · exact h.2 j t' u' hji g1 g2
    · obtain rfl : j = i := by omega
      rw [List.getElem?_eq_none (by omega)] at g2
      cases g2
theorem nn_of : ∀ (ts : List Tk), (∀ j t u, ts[j]? = some t → ts[j + 1]? = some u → ¬ (t.kind = 1 ∧ u.kind = 1)) → NN ts
  | [], _ => trivial
  | [_], _ => trivial
  | t :: u :: r, h => ⟨h 0 t u rfl rfl, nn_of (u :: r) (fun j a b h1 h2 => h (j + 1) a b (by simpa using h1) (by simpa using h2))⟩
theorem laidW_end {S : List Int} {ts : List Tk} {i : Nat} {O : ByteArray} (h : LaidW S ts i O) (hi : i = ts.length) : numsS O = segO S ts ∧ NN ts := by
  subst hi
  refine ⟨?_, nn_of ts fun j t u h1 h2 => h.2 j t u ?_ h1 h2⟩
  · rw [← h.1, List.drop_length]
    simp [segO]
  · obtain ⟨a1, -⟩ := List.getElem?_eq_some_iff.1 h1
    exact a1
theorem laidW_size {S : List Int} {ts : List Tk} {i : Nat} {O : ByteArray} (h : LaidW S ts i O) : O.size ≤ (segO S ts).length := by
  rw [← h.1, List.length_append, numsS_len]
  omega
theorem sub_str2 (s : ByteArray) (a b : Nat) (l : List Int) (hl : l = ((numsS s).drop a).take (b - a)) (W : World) (h1 : a ≤ b) (h : b ≤ s.size) : (Instr.sliceAt 9 (.string s) (some (.int .i64 (a : Int))) (some (.int .i64 (b : Int))) none).run Tryd.prog W = .ok (.string (strOfNums l)) W := by
  rw [run_sliceAt_string W 9 _ _ _ _ Tryd.underlying9]
  have e : s.extract a b = strOfNums l := by
    refine str_eq ?_
    rw [hl, ByteArray.data_extract, Array.toList_extract]
    unfold numsS
    rw [← List.map_drop, ← List.map_take]
    show _ = (List.map _ _).map _
    rw [List.map_map]
    have : ((fun (z : Int) => UInt8.ofNat z.toNat) ∘ fun (c : UInt8) => (c.toNat : Int)) = id := by
      funext c
      simp
    rw [this, List.map_id]
  rw [← e]
  have h2 : (a : Int) ≤ (b : Int) := by omega
  have h3 : (b : Int) ≤ (s.size : Int) := by omega
  simp [Instr.slice, run_underlying Tryd.underlying9, Instr.sliceBounds, run_sliceBound, h, h1, h2, h3]
/-- Places rise. -/
theorem okT_two {S : List Int} : ∀ {l : List Tk} {lo : Nat}, OkT S lo l → ∀ (i : Nat) (t u : Tk), l[i]? = some t → l[i + 1]? = some u → t.at' < u.at'
  | [], _, _, i, t, u, hi, _ => by simp at hi
  | [x], _, _, i, t, u, _, h2 => by simp at h2
  | x :: y :: r, lo, h, 0, t, u, h1, h2 => by
    cases h1
    cases h2
    exact h.2.2.2.2.1
  | x :: y :: r, lo, h, i + 1, t, u, h1, h2 => okT_two (l := y :: r) h.2.2.2.2 i t u (by simpa using h1) (by simpa using h2)
theorem strip_at {us ts : List Tk} (h : strip us = strip ts) {i : Nat} {t : Tk} (ht : ts[i]? = some t) : ∃ u, us[i]? = some u ∧ u.kind = t.kind ∧ u.text = t.text ∧ u.lit = t.lit := by
  have h1 := congrArg (fun l => l[i]?) h
  simp only [strip, List.getElem?_map, ht, Option.map_some, Option.map_eq_some_iff] at h1
  obtain ⟨u, hu, he⟩ := h1
  simp only [Prod.mk.injEq] at he
  exact ⟨u, hu, he.1, he.2.1, he.2.2⟩
theorem strip_len {us ts : List Tk} (h : strip us = strip ts) : us.length = ts.length := by
  have := congrArg List.length h
  simpa [strip] using this
end Go.Proofs.YtnndnjffnkhpdaaDoor
