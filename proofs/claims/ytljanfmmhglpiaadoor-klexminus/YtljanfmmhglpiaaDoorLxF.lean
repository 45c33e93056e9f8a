/-
  One number: what its digits come to, and the contract of readNumber.
-/
import Derived.Test.YtljanfmmhglpiaaDoorLxE
import Derived.Laws.BytesArg
import Derived.Laws.BytesString
import Derived.Laws.IdiomStrings
import Derived.Lib.ParseIntB
namespace Go.Proofs.YtljanfmmhglpiaaDoor
open Go.ChangeShapes Go.WideShapes Go.ChangeAt Go.RowKit
open Rn (Byte)
set_option maxRecDepth 100000
set_option linter.unusedVariables false
set_option linter.unusedSimpArgs false
/-- What digits come to, with what came before. -/
def decF (n : Int) (ds : List Int) : Int := ds.foldl (fun n c => n * 10 + (c - 48)) n
theorem decF_ge (ds : List Int) : ∀ n : Int, 0 ≤ n → (∀ c ∈ ds, dgB c = true) → n ≤ decF n ds := by
  induction ds with
  | nil => intro n _ _; exact Int.le_refl _
  | cons c t ih =>
    intro n h0 hd
    have hc := hd c (by simp)
    simp only [dgB, Bool.and_eq_true, decide_eq_true_eq] at hc
    have := ih (n * 10 + (c - 48)) (by omega) (fun d hd' => hd d (by simp [hd']))
    show n ≤ decF (n * 10 + (c - 48)) t
    omega
theorem parseM (ds : List Int) : ∀ a : Nat, a ≤ 18446744073709551615 → (∀ c ∈ ds, dgB c = true) → Lib.parseUintM 18446744073709551615 a (Lib.bytesOf ds) = if decF (a : Int) ds ≤ 18446744073709551615 then .ok (decF (a : Int) ds).toNat else .range := by
  induction ds with
  | nil =>
    intro a ha _
    rw [if_pos (by show (a : Int) ≤ _; omega)]
    show Lib.NumEnd.ok a = .ok (decF (a : Int) []).toNat
    simp [decF]
  | cons c t ih =>
    intro a ha hd
    have hc := hd c (by simp)
    simp only [dgB, Bool.and_eq_true, decide_eq_true_eq] at hc
    have ht : ∀ d ∈ t, dgB d = true := fun d hd' => hd d (by simp [hd'])
    have e1 : (UInt8.ofNat c.toNat).toNat = c.toNat := by rw [UInt8.toNat_ofNat']; omega
    have e2 : decF (a : Int) (c :: t) = decF ((a : Int) * 10 + (c - 48)) t := rfl
    have hge := decF_ge t ((a : Int) * 10 + (c - 48)) (by omega) ht
    show (if 48 ≤ (UInt8.ofNat c.toNat).toNat ∧ (UInt8.ofNat c.toNat).toNat ≤ 57 then _ else _) = _
    rw [e1, if_pos (by omega), e2]
    by_cases h1 : 1844674407370955162 ≤ a
    · rw [if_pos h1, if_neg (by omega)]
    · rw [if_neg h1]
      by_cases h2 : 18446744073709551615 < a * 10 + (c.toNat - 48)
      · rw [if_pos h2, if_neg (by omega)]
      · rw [if_neg h2]
        have e3 : ((a * 10 + (c.toNat - 48) : Nat) : Int) = (a : Int) * 10 + (c - 48) := by omega
        have := ih (a * 10 + (c.toNat - 48)) (by omega) ht
        rw [e3] at this
        exact this
theorem dig_all (l : List Int) : ∀ c ∈ l.take (lead dgB l), dgB c = true := by
  induction l with
  | nil => simp [lead]
  | cons d t ih =>
    simp only [lead]
    split
    · rename_i h
      intro c hc
      simp only [List.take_succ_cons, List.mem_cons] at hc
      rcases hc with rfl | hc
      · exact h
      · exact ih c hc
    · simp
/-- A number as strconv is asked for it. -/
def sgnL (l : List Int) : List Int := if hasP l minL then 45 :: digL l else digL l
theorem parse_fit {v : Int} {l : List Int} (h : numB v l = true) : Lib.parseIntB 64 (Lib.bytesOf (sgnL l)) = if fits (numV l) then .ok (numV l) else .range := by
  obtain ⟨c, t, hd, hc⟩ := numB_at h
  have hall : ∀ d ∈ digL l, dgB d = true := dig_all _
  obtain ⟨c', t', hdl⟩ : ∃ c' t', digL l = c' :: t' := by
    unfold digL
    rw [hd]
    simp [lead, hc]
  have hc' : dgB c' = true := hall c' (by rw [hdl]; simp)
  simp only [dgB, Bool.and_eq_true, decide_eq_true_eq] at hc'
  have hv0 : 0 ≤ decV (digL l) := decF_ge (digL l) 0 (by omega) hall
  have hU : Lib.parseUintB 64 (Lib.bytesOf (digL l)) = if decV (digL l) ≤ 18446744073709551615 then .ok (decV (digL l)).toNat else .range := by
    unfold Lib.parseUintB
    rw [if_neg (by rw [hdl]; simp [Lib.bytesOf])]
    have := parseM (digL l) 0 (by omega) hall
    exact this
  unfold sgnL numV fits
  by_cases hp : hasP l minL = true
  · rw [if_pos hp, if_pos hp]
    show (match Lib.parseUintB 64 (if (UInt8.ofNat (45 : Int).toNat).toNat = 43 ∨ (UInt8.ofNat (45 : Int).toNat).toNat = 45 then Lib.bytesOf (digL l) else _) with | .syntax => _ | .range => _ | .ok u => _) = _
    rw [if_pos (by decide), hU]
    generalize decV (digL l) = v at *
    have e45 : (UInt8.ofNat (Int.toNat 45)).toNat = 45 := by decide
    have p63 : (2 : Nat) ^ (64 - 1) = 9223372036854775808 := rfl
    by_cases h1 : v ≤ 18446744073709551615
    · rw [if_pos h1]
      simp only [p63]
      rw [if_neg (fun h => h.1 e45)]
      by_cases h2 : v ≤ 9223372036854775808
      · rw [if_neg (fun h => by have := h.2; omega), if_pos e45, if_pos (show (decide (-9223372036854775808 ≤ -v) && decide (-v ≤ 9223372036854775807)) = true by simp; omega)]
        congr 1
        omega
      · rw [if_pos ⟨e45, by omega⟩, if_neg (show ¬ (decide (-9223372036854775808 ≤ -v) && decide (-v ≤ 9223372036854775807)) = true by simp; omega)]
    · rw [if_neg h1, if_neg (show ¬ (decide (-9223372036854775808 ≤ -v) && decide (-v ≤ 9223372036854775807)) = true by simp; omega)]
  · rw [if_neg hp, if_neg hp]
    rw [hdl] at hU ⊢
    have e1 : (UInt8.ofNat c'.toNat).toNat = c'.toNat := by rw [UInt8.toNat_ofNat']; omega
    show (match Lib.parseUintB 64 (if (UInt8.ofNat c'.toNat).toNat = 43 ∨ (UInt8.ofNat c'.toNat).toNat = 45 then _ else Lib.bytesOf (c' :: t')) with | .syntax => _ | .range => _ | .ok u => _) = _
    rw [e1, if_neg (by omega), hU]
    rw [hdl] at hv0
    generalize decV (c' :: t') = v at *
    have p63 : (2 : Nat) ^ (64 - 1) = 9223372036854775808 := rfl
    have e45 : ¬ c'.toNat = 45 := by omega
    by_cases h1 : v ≤ 18446744073709551615
    · rw [if_pos h1]
      simp only [p63, e1]
      by_cases h2 : v ≤ 9223372036854775807
      · rw [if_neg (fun h => by have := h.2; omega), if_neg (fun h => e45 h.1), if_neg e45, if_pos (show (decide (-9223372036854775808 ≤ v) && decide (v ≤ 9223372036854775807)) = true by simp; omega)]
        congr 1
        omega
      · rw [if_pos ⟨e45, by omega⟩, if_neg (show ¬ (decide (-9223372036854775808 ≤ v) && decide (v ≤ 9223372036854775807)) = true by simp; omega)]
    · rw [if_neg h1, if_neg (show ¬ (decide (-9223372036854775808 ≤ v) && decide (v ≤ 9223372036854775807)) = true by simp; omega)]
/-- It stands there as it is. -/
theorem sgnL_take (l : List Int) : l.take (numE l) = sgnL l := by
  unfold sgnL numE digL offM
  by_cases h : hasP l minL = true
  · rw [if_pos h, if_pos h]
    obtain ⟨r, rfl⟩ := hasP_iff.1 h
    show List.take (1 + lead dgB r) (45 :: r) = 45 :: r.take (lead dgB r)
    rw [Nat.add_comm, List.take_succ_cons]
  · rw [if_neg h, if_neg h]
    simp
/-- Bytes as a string. -/
theorem str_of {w : World} {p : Option Addr} {n c : Nat} {xs : List Int} (h : Lib.BytesIn w p n xs) (hn : xs.length = n) : (convert 45 9 (.slice p n c)).run Tryd.prog w = .ok (.string (strOfNums xs)) w := by
  subst hn
  by_cases h0 : xs.length = 0
  · have hx : xs = [] := List.eq_nil_of_length_eq_zero h0
    subst hx
    cases p with
    | none =>
      rw [run_convert_bytes_nil w 45 5 Tryd.underlying45 Tryd.underlying5 _ _ 9 Tryd.underlying9]
      rfl
    | some x =>
      rw [run_convert_bytes_string w 45 9 5 _ _ _ Tryd.underlying45 Tryd.underlying5 Tryd.underlying9]
      exact run_bytesToString (P := Tryd.prog) w x 0 c [] (run_loadCells_list w x [] (fun j v h => by simp at h))
  · obtain ⟨b, o, rfl, hc⟩ := h (by omega)
    exact run_convert_bytes_arg w 45 5 Tryd.underlying45 Tryd.underlying5 b o xs.length c xs rfl hc 9 Tryd.underlying9
/-- What the package-level variables hold. -/
structure Glb (w : World) : Prop where
  size : 7 ≤ w.heap.size
  tab : Rn.Tab w
  er : ∃ te pe, w.cell? ⟨3, 0, none⟩ = some (.iface te pe)
theorem Glb.next {w w' : World} (h : Glb w) {B : Nat} (hb : Below B w w') (hB : 7 ≤ B) : Glb w' := by
  obtain ⟨h0, h1, ⟨te, pe, h2⟩⟩ := h
  exact ⟨Nat.le_trans h0 hb.size, h1.below hb (by omega), ⟨te, pe, (hb.cell (p := ⟨3, 0, none⟩) (by show 3 < B; omega)).trans h2⟩⟩
theorem Glb.nx {w w' : World} (h : Glb w) (hb : Below w.heap.size w w') : Glb w' := h.next hb h.size
theorem below_pi {w w' : World} (h : w' = w ∨ ∃ t, w' = Lib.bytesWorld w 5 t) : Below w.heap.size w w' := by
  rcases h with rfl | ⟨t, rfl⟩
  · exact Below.refl _ _
  · exact below_bytes _ _ _
/-- What is told of a number. -/
def GivesP (v : Int) (ok : Bool) (w : World) (e : Ending) (w' : World) : Prop := (∃ r v', e = .returned (.tuple #[.int .i64 v', r]) ∧ (if ok then r = .nilIface ∧ v' = v else ∃ t p, r = .iface t p)) ∧ Below w.heap.size w w'
theorem parse43 {w : World} (G : Glb w) {v : Int} {l : List Int} (h : numB v l = true) (s : ByteArray) (hs : s.data.toList = Lib.bytesOf (sgnL l)) (hl : s.size ≤ 281474976710656) :
    Calls Tryd.prog 43 #[.string s, .int .i64 10, .int .i64 64] w fun e w' => GivesP (numV l) (fits (numV l)) w e w' := by
  have hp := parse_fit h
  rw [← hs] at hp
  cases hf : fits (numV l) with
  | true =>
    rw [hf, if_pos rfl] at hp
    refine (Any.strconv_ParseInt_10_at64_ok Tryd.laysC174 s (by omega) (numV l) hp w).mono ?_
    rintro e w' ⟨rfl, hw⟩
    exact ⟨⟨_, _, rfl, by simp⟩, below_pi hw⟩
  | false =>
    rw [hf] at hp
    obtain ⟨te, pe, hv⟩ := G.er
    refine (Any.strconv_ParseInt_10_at64_range Tryd.laysC174 s hl (by simpa using hp) (.iface te pe) w hv (Or.inr ⟨te, pe, rfl⟩)).mono ?_
    rintro e w' ⟨N, rfl, _, _, hw⟩
    exact ⟨⟨_, _, rfl, by simp⟩, hw⟩
end Go.Proofs.YtljanfmmhglpiaaDoor
