/-
  A text's bytes in memory, and the contracts of jlex's small functions: digits, letters, blanks, where a text ends, a fault.
-/
import Derived.Test.YtnndnjffnkhpdaaDoorLxC
import Derived.Test.YtnndnjffnkhpdaaDoorRnG
import Derived.Test.YtnndnjffnkhpdaaDoorRows
import Derived.WalkKit
import Derived.ProofKit
import Derived.Below
import Derived.Deep.LoopGhost
import Derived.Deep.QuietTactic
import Derived.BigQuiet
namespace Go.Proofs.YtnndnjffnkhpdaaDoor
open Go.ChangeShapes Go.WideShapes Go.ChangeAt Go.RowKit
open Rn (Byte)
set_option maxRecDepth 100000
set_option linter.unusedVariables false
set_option linter.unusedSimpArgs false
/-- A text's bytes lie in a block. -/
structure Txt (w : World) (b : Nat) (B : List Int) : Prop where
  lt : b < w.heap.size
  cell : ∀ i, i < B.length → w.cell? ⟨b, i, none⟩ = some (.int .u8 (B[i]?.getD 0))
  byte : ∀ z ∈ B, Byte z
  len : B.length ≤ 140737488355328
theorem Txt.next {w w' : World} {b : Nat} {B : List Int} (h : Txt w b B) (hb : Below w.heap.size w w') : Txt w' b B :=
  ⟨Nat.lt_of_lt_of_le h.lt hb.size, fun i hi => (hb.cell (p := ⟨b, i, none⟩) h.lt).trans (h.cell i hi), h.byte, h.len⟩
theorem Txt.at {w : World} {b : Nat} {B : List Int} (h : Txt w b B) (i : Nat) (hi : i < B.length) : Byte (B[i]?.getD 0) := by
  rw [List.getElem?_eq_getElem hi]
  exact h.byte _ (List.getElem_mem hi)
theorem drop_cons {B : List Int} {i : Nat} (hi : i < B.length) : B.drop i = (B[i]?.getD 0) :: B.drop (i + 1) := by
  rw [List.getElem?_eq_getElem hi]
  exact List.drop_eq_getElem_cons hi
set_option maxHeartbeats 1000000 in
theorem digit32 (c : Int) (w : World) : Calls Tryd.prog 32 #[.int .u8 c] w fun e w' => e = .returned (.bool (dgB c)) ∧ w' = w := by
  unfold dgB
  by_cases h1 : 48 ≤ c
  · by_cases h2 : c ≤ 57
    · go_enter Tryd.func32, Tryd.ntmps32
      go_wp2
      go_ret
      exact ⟨Rn.retB (by simp [h1, h2]), rfl⟩
    · go_enter Tryd.func32, Tryd.ntmps32
      go_wp2
      go_ret
      exact ⟨Rn.retB (by simp [h1, h2]), rfl⟩
  · go_enter Tryd.func32, Tryd.ntmps32
    go_wp2
    go_ret
    exact ⟨Rn.retB (by simp; omega), rfl⟩
set_option maxHeartbeats 1000000 in
theorem letter25 (c : Int) (w : World) : Calls Tryd.prog 25 #[.int .u8 c] w fun e w' => e = .returned (.bool (ltB c)) ∧ w' = w := by
  unfold ltB
  by_cases h1 : 97 ≤ c
  · by_cases h2 : c ≤ 122
    · go_enter Tryd.func25, Tryd.ntmps25
      go_wp2
      go_ret
      exact ⟨Rn.retB (by simp [h1, h2]), rfl⟩
    · go_enter Tryd.func25, Tryd.ntmps25
      go_wp2
      go_ret
      exact ⟨Rn.retB (by simp [h1, h2]), rfl⟩
  · go_enter Tryd.func25, Tryd.ntmps25
    go_wp2
    go_ret
    exact ⟨Rn.retB (by simp; omega), rfl⟩
set_option maxHeartbeats 1000000 in
theorem inf39 (c : Int) (w : World) : Calls Tryd.prog 39 #[.int .u8 c] w fun e w' => e = .returned (.bool (infB c)) ∧ w' = w := by
  unfold infB
  by_cases h1 : c = 46
  · subst h1
    go_enter Tryd.func39, Tryd.ntmps39
    go_wp2
    go_ret
    exact ⟨Rn.retB rfl, rfl⟩
  · have h1' : (c == 46) = false := beq_eq_false_iff_ne.2 h1
    by_cases h2 : c = 58
    · subst h2
      go_enter Tryd.func39, Tryd.ntmps39
      go_wp2
      go_ret
      exact ⟨Rn.retB rfl, rfl⟩
    · have h2' : (c == 58) = false := beq_eq_false_iff_ne.2 h2
      go_enter Tryd.func39, Tryd.ntmps39
      go_wp2
      go_ret
      exact ⟨Rn.retB (by simp [h1, h2]), rfl⟩
set_option maxHeartbeats 1000000 in
theorem fault15 (e at' : Int) (w : World) : Calls Tryd.prog 15 #[.int .i64 e, .int .i64 at'] w fun r w' => r = .returned (.agg #[.int .i64 e, .int .i64 at', .int .i64 0]) ∧ Below w.heap.size w w' := by
  go_enter Tryd.func15, Tryd.ntmps15
  go_wp2
  exact bodyPost_ret (v := .agg #[.int .i64 e, .int .i64 at', .int .i64 0]) (by simp [results, Tryd.results15, go_sem]) rfl ⟨rfl, by exact (Below.refl _ _).alloc (Nat.le_refl _) _⟩
/-- One more that is so. -/
theorem lead_step {p : Int → Bool} {B : List Int} {a : Nat} (ha : a < B.length) : lead p (B.drop a) = if p (B[a]?.getD 0) then lead p (B.drop (a + 1)) + 1 else 0 := by
  rw [drop_cons ha]; rfl
theorem lead_end {p : Int → Bool} {B : List Int} {a : Nat} (ha : B.length ≤ a) : lead p (B.drop a) = 0 := by
  rw [List.drop_eq_nil_of_le ha]; rfl
set_option maxHeartbeats 1000000 in
theorem past16 {w : World} {b C L : Nat} {B : List Int} (hT : Txt w b B) (hL : B.length = L) (a : Nat) (ha : a ≤ L) : Calls Tryd.prog 16 #[.slice (some ⟨b, 0, none⟩) L C, .int .i64 (a : Int)] w fun e w' => e = .returned (.int .i64 ((a + lead blB (B.drop a) : Nat) : Int)) ∧ Below w.heap.size w w' := by
  have hlen := hT.len
  have HT : Hid (∀ wr, Below w.heap.size w wr → ∀ i, i < L → wr.cell? ⟨b, i, none⟩ = some (.int .u8 (B[i]?.getD 0))) := fun wr h i hi => (hT.next h).cell i (by omega)
  have HL : Hid (B.length = L) := hL
  rw [hL] at hlen
  clear hT hL
  obtain ⟨R, hR⟩ : ∃ R, a + lead blB (B.drop a) = R := ⟨_, rfl⟩
  rw [hR]
  have HR := hide hR
  have HD : Hid (Below w.heap.size w w) := Below.refl _ _
  clear hR
  go_enter Tryd.func16, Tryd.ntmps16
  go_wp2
  go_loopg [1] (L - a) (fun g i wr => ∃ j : Nat, g + j = L ∧ i = .int .i64 (j : Int) ∧ j + lead blB (B.drop j) = R ∧ Below w.heap.size w wr)
  case atStart => exact ⟨a, by omega, rfl, HR.out, HD.out⟩
  case round =>
    clear HR HD
    obtain ⟨j, hj, rfl, hjr, hnx⟩ := hrel
    have HJ := hide hjr
    clear hjr
    by_cases hlt : j < L
    · have hc := HT.out _ hnx j hlt
      have HST := hide (lead_step (p := blB) (B := B) (a := j) (by rw [HL.out]; exact hlt))
      clear HT
      generalize B[j]?.getD 0 = c at *
      by_cases h32 : c = 32
      · subst h32
        have HST' : Hid (lead blB (B.drop j) = lead blB (B.drop (j + 1)) + 1) := HST.out
        clear HST
        go_wp2
        go_roundg (L - (j + 1))
        case rel => exact ⟨j + 1, by omega, by go_num, by have := HJ.out; have := HST'.out; omega, by first | exact hnx | exact hnx.drew | exact drewN_below hnx _⟩
        case measure => omega
      · have HST' := hide (show lead blB (B.drop j) = 0 by rw [HST.out, if_neg (by simpa [blB] using h32)])
        have h32' : (c == 32) = false := beq_eq_false_iff_ne.2 h32
        clear HST
        go_wp2
        go_ret
        exact ⟨Rn.retI (by have := HJ.out; have := HST'.out; omega), by first | exact hnx | exact hnx.drew | exact drewN_below hnx _⟩
    · have hje : j = L := by omega
      subst hje
      have HST' : Hid (lead blB (B.drop j) = 0) := lead_end (by rw [HL.out]; exact Nat.le_refl _)
      clear HT
      go_wp2
      go_ret
      exact ⟨Rn.retI (by have := HJ.out; have := HST'.out; omega), by first | exact hnx | exact hnx.drew | exact drewN_below hnx _⟩
/-- Where the text ends whose first sign stands at a place; that place, if it does not. -/
def qAt (B : List Int) (a : Nat) : Nat := match lastQ (B.drop (a + 1)) with
  | none => a
  | some q => a + 1 + q
/-- The same, begun at a later place. -/
def qFrom (B : List Int) (a i : Nat) : Nat := match lastQ (B.drop i) with
  | none => a
  | some q => i + q
theorem qFrom_end {B : List Int} {a i : Nat} (h : B.length ≤ i) : qFrom B a i = a := by
  unfold qFrom; rw [List.drop_eq_nil_of_le h]; rfl
theorem qFrom_other {B : List Int} {a i : Nat} (h : i < B.length) (hc : ¬ B[i]?.getD 0 = 39) : qFrom B a i = qFrom B a (i + 1) := by
  unfold qFrom
  rw [drop_cons h]
  generalize B[i]?.getD 0 = c at *
  cases hr : B.drop (i + 1) with
  | nil => simp [lastQ, hc]
  | cons d t =>
    simp only [lastQ, hc, not_false_iff, if_true]
    cases hq : lastQ (d :: t) with
    | none => rfl
    | some q => simp only [Option.map_some]; omega
theorem qFrom_last {B : List Int} {a i : Nat} (h : i + 1 = B.length) (hc : B[i]?.getD 0 = 39) : qFrom B a i = i := by
  unfold qFrom
  rw [drop_cons (by omega), hc, List.drop_eq_nil_of_le (by omega)]
  rfl
theorem qFrom_here {B : List Int} {a i : Nat} (h : i + 1 < B.length) (hc : B[i]?.getD 0 = 39) (hd : ¬ B[i + 1]?.getD 0 = 39) : qFrom B a i = i := by
  unfold qFrom
  rw [drop_cons (by omega), hc, drop_cons h]
  simp [lastQ, hd]
theorem qFrom_two {B : List Int} {a i : Nat} (h : i + 1 < B.length) (hc : B[i]?.getD 0 = 39) (hd : B[i + 1]?.getD 0 = 39) : qFrom B a i = qFrom B a (i + 2) := by
  unfold qFrom
  rw [drop_cons (by omega), hc, drop_cons h, hd]
  simp only [lastQ, not_true, if_false]
  cases hq : lastQ (B.drop (i + 1 + 1)) with
  | none => rfl
  | some q => simp only [Option.map_some]; omega
set_option maxHeartbeats 2000000 in
theorem last36 {w : World} {b C L : Nat} {B : List Int} (hT : Txt w b B) (hL : B.length = L) (a : Nat) (ha : a < L) : Calls Tryd.prog 36 #[.slice (some ⟨b, 0, none⟩) L C, .int .i64 (a : Int)] w fun e w' => e = .returned (.int .i64 ((qAt B a : Nat) : Int)) ∧ Below w.heap.size w w' := by
  have hlen := hT.len
  have HT : Hid (∀ wr, Below w.heap.size w wr → ∀ i, i < L → wr.cell? ⟨b, i, none⟩ = some (.int .u8 (B[i]?.getD 0))) := fun wr h i hi => (hT.next h).cell i (by omega)
  rw [hL] at hlen
  clear hT
  obtain ⟨R, hR⟩ : ∃ R, qAt B a = R := ⟨_, rfl⟩
  have HR := hide (show qFrom B a (a + 1) = R from hR)
  rw [hR]
  have HD : Hid (Below w.heap.size w w) := Below.refl _ _
  have HE := hide (fun i (h : L ≤ i) => qFrom_end (B := B) (a := a) (i := i) (by omega))
  have HO := hide (fun i (h : i < L) => qFrom_other (B := B) (a := a) (i := i) (by omega))
  have HLa := hide (fun i (h : i + 1 = L) => qFrom_last (B := B) (a := a) (i := i) (by omega))
  have HH := hide (fun i (h : i + 1 < L) => qFrom_here (B := B) (a := a) (i := i) (by omega))
  have HTw := hide (fun i (h : i + 1 < L) => qFrom_two (B := B) (a := a) (i := i) (by omega))
  clear hR hL
  go_enter Tryd.func36, Tryd.ntmps36
  go_wp2
  go_loopg [5] (L + 1 - a) (fun g i wr => ∃ j : Nat, g + j = L + 2 ∧ i = .int .i64 (j : Int) ∧ qFrom B a j = R ∧ Below w.heap.size w wr)
  case atStart => exact ⟨a + 1, by omega, by go_num, HR.out, HD.out⟩
  case round =>
    clear HR HD
    obtain ⟨j, hj, rfl, hjr, hnx⟩ := hrel
    have HJ := hide hjr
    clear hjr
    by_cases hlt : j < L
    · have hc := HT.out _ hnx j hlt
      by_cases h39 : B[j]?.getD 0 = 39
      · rw [h39] at hc
        by_cases h1 : j + 1 = L
        · have HF := hide ((HLa.out j h1 h39).symm.trans HJ.out)
          clear HT HE HO HLa HH HTw
          go_wp2
          go_ret
          exact ⟨Rn.retI (by rw [HF.out]), by first | exact hnx | exact hnx.drew | exact drewN_below hnx _⟩
        · have hd := HT.out _ hnx (j + 1) (by omega)
          have h1' : ((j : Int) + 1 == (L : Int)) = false := beq_eq_false_iff_ne.2 (by omega)
          by_cases h2 : B[j + 1]?.getD 0 = 39
          · have HF := hide ((HTw.out j (by omega) h39 h2).symm.trans HJ.out)
            rw [h2] at hd
            clear HT HE HO HLa HH HTw
            go_wp2
            go_roundg (L - j)
            case rel => exact ⟨j + 2, by omega, by go_num, HF.out, by first | exact hnx | exact hnx.drew | exact drewN_below hnx _⟩
            case measure => omega
          · have HF := hide ((HH.out j (by omega) h39 h2).symm.trans HJ.out)
            have h2' : (B[j + 1]?.getD 0 != 39) = true := bne_iff_ne.2 h2
            clear HT HE HO HLa HH HTw
            generalize B[j + 1]?.getD 0 = d at *
            go_wp2
            go_ret
            exact ⟨Rn.retI (by rw [HF.out]), by first | exact hnx | exact hnx.drew | exact drewN_below hnx _⟩
      · have HF := hide ((HO.out j hlt h39).symm.trans HJ.out)
        have h39' : (B[j]?.getD 0 != 39) = true := bne_iff_ne.2 h39
        clear HT HE HO HLa HH HTw
        generalize B[j]?.getD 0 = c at *
        go_wp2
        go_roundg (L + 1 - j)
        case rel => exact ⟨j + 1, by omega, by go_num, HF.out, by first | exact hnx | exact hnx.drew | exact drewN_below hnx _⟩
        case measure => omega
    · have HF := hide ((HE.out j (by omega)).symm.trans HJ.out)
      clear HT HE HO HLa HH HTw
      go_wp2
      go_ret
      exact ⟨Rn.retI (by rw [HF.out]), by first | exact hnx | exact hnx.drew | exact drewN_below hnx _⟩
end Go.Proofs.YtnndnjffnkhpdaaDoor
