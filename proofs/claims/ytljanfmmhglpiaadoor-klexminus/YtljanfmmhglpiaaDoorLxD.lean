/-
  A text's bytes in memory, and the contracts of klex's small functions: digits, letters, blanks, a fault; how far a word goes (reach), by each function that is handed to it.
-/
import Derived.Test.YtljanfmmhglpiaaDoorLxC
import Derived.Test.YtljanfmmhglpiaaDoorRnG
import Derived.Test.YtljanfmmhglpiaaDoorRows
import Derived.WalkKit
import Derived.ProofKit
import Derived.Below
import Derived.Deep.LoopGhost
import Derived.Deep.QuietTactic
import Derived.BigQuiet
namespace Go.Proofs.YtljanfmmhglpiaaDoor
open Go.ChangeShapes Go.WideShapes Go.ChangeAt Go.RowKit
open Rn (Byte)
set_option maxRecDepth 100000
set_option linter.unusedVariables false
set_option linter.unusedSimpArgs false
/-- A text's bytes lie in a block. -/
structure Txt (w : World) (b : Nat) (B : List Int) : Prop where
  lt : b < w.heap.size
  cell : ∀ i, i < B.length → w.cell? ⟨b, i, none⟩ = some (.int .u8 (B[i]?.getD 0))
  byte : ∀ z ∈ B, Byte z
  len : B.length ≤ 140737488355328
theorem Txt.next {w w' : World} {b : Nat} {B : List Int} (h : Txt w b B) (hb : Below w.heap.size w w') : Txt w' b B :=
  ⟨Nat.lt_of_lt_of_le h.lt hb.size, fun i hi => (hb.cell (p := ⟨b, i, none⟩) h.lt).trans (h.cell i hi), h.byte, h.len⟩
theorem Txt.at {w : World} {b : Nat} {B : List Int} (h : Txt w b B) (i : Nat) (hi : i < B.length) : Byte (B[i]?.getD 0) := by
  rw [List.getElem?_eq_getElem hi]
  exact h.byte _ (List.getElem_mem hi)
theorem drop_cons {B : List Int} {i : Nat} (hi : i < B.length) : B.drop i = (B[i]?.getD 0) :: B.drop (i + 1) := by
  rw [List.getElem?_eq_getElem hi]
  exact List.drop_eq_getElem_cons hi
set_option maxHeartbeats 1000000 in
theorem digit31 (c : Int) (w : World) : Calls Tryd.prog 31 #[.int .u8 c] w fun e w' => e = .returned (.bool (dgB c)) ∧ w' = w := by
  unfold dgB
  by_cases h1 : 48 ≤ c
  · by_cases h2 : c ≤ 57
    · go_enter Tryd.func31, Tryd.ntmps31
      go_wp2
      go_ret
      exact ⟨Rn.retB (by simp [h1, h2]), rfl⟩
    · go_enter Tryd.func31, Tryd.ntmps31
      go_wp2
      go_ret
      exact ⟨Rn.retB (by simp [h1, h2]), rfl⟩
  · go_enter Tryd.func31, Tryd.ntmps31
    go_wp2
    go_ret
    exact ⟨Rn.retB (by simp; omega), rfl⟩
set_option maxHeartbeats 1000000 in
theorem letter25 (c : Int) (w : World) : Calls Tryd.prog 25 #[.int .u8 c] w fun e w' => e = .returned (.bool (ltB c)) ∧ w' = w := by
  unfold ltB
  by_cases h1 : 97 ≤ c
  · by_cases h2 : c ≤ 122
    · go_enter Tryd.func25, Tryd.ntmps25
      go_wp2
      go_ret
      exact ⟨Rn.retB (by simp [h1, h2]), rfl⟩
    · go_enter Tryd.func25, Tryd.ntmps25
      go_wp2
      go_ret
      exact ⟨Rn.retB (by simp [h1, h2]), rfl⟩
  · go_enter Tryd.func25, Tryd.ntmps25
    go_wp2
    go_ret
    exact ⟨Rn.retB (by simp; omega), rfl⟩
set_option maxHeartbeats 1000000 in
theorem esc46 (c : Int) (w : World) : Calls Tryd.prog 46 #[.int .u8 c] w fun e w' => e = .returned (.bool (escB c)) ∧ w' = w := by
  unfold escB
  by_cases h1 : c = 34
  · subst h1
    go_enter Tryd.func46, Tryd.ntmps46
    go_wp2
    go_ret
    exact ⟨Rn.retB rfl, rfl⟩
  · have h1' : (c == 34) = false := beq_eq_false_iff_ne.2 h1
    by_cases h2 : c = 92
    · subst h2
      go_enter Tryd.func46, Tryd.ntmps46
      go_wp2
      go_ret
      exact ⟨Rn.retB rfl, rfl⟩
    · have h2' : (c == 92) = false := beq_eq_false_iff_ne.2 h2
      go_enter Tryd.func46, Tryd.ntmps46
      go_wp2
      go_ret
      exact ⟨Rn.retB (by simp [h1, h2]), rfl⟩
set_option maxHeartbeats 1000000 in
theorem blank17 (c : Int) (w : World) : Calls Tryd.prog 17 #[.int .u8 c] w fun e w' => e = .returned (.bool (blB c)) ∧ w' = w := by
  unfold blB
  by_cases h1 : c = 32
  · subst h1
    go_enter Tryd.func17, Tryd.ntmps17
    go_wp2
    go_ret
    exact ⟨Rn.retB rfl, rfl⟩
  · have h1' : (c == 32) = false := beq_eq_false_iff_ne.2 h1
    go_enter Tryd.func17, Tryd.ntmps17
    go_wp2
    go_ret
    exact ⟨Rn.retB (by simp [h1]), rfl⟩
set_option maxHeartbeats 1000000 in
theorem nam38 (c : Int) (w : World) : Calls Tryd.prog 38 #[.int .u8 c] w fun e w' => e = .returned (.bool (nmB c)) ∧ w' = w := by
  have HL := hide (fun W => letter25 c W)
  have HD := hide (fun W => digit31 c W)
  unfold nmB
  cases hl : ltB c with
  | true =>
    rw [hl] at HL
    clear hl
    go_enter Tryd.func38, Tryd.ntmps38
    go_wp2_with fail
    refine (HL.out _).mono ?_
    rintro e w1 ⟨rfl, hw⟩
    have hw' := hw.symm
    subst hw'
    clear hw HL HD
    go_wp2
    go_ret
    exact ⟨Rn.retB rfl, rfl⟩
  | false =>
    rw [hl] at HL
    clear hl
    go_enter Tryd.func38, Tryd.ntmps38
    go_wp2_with fail
    refine (HL.out _).mono ?_
    rintro e w1 ⟨rfl, hw⟩
    have hw' := hw.symm
    subst hw'
    clear hw HL
    go_wp2_with fail
    refine (HD.out _).mono ?_
    rintro e w2 ⟨rfl, hw⟩
    have hw' := hw.symm
    subst hw'
    clear hw HD
    go_wp2
    go_ret
    exact ⟨Rn.retB (by simp), rfl⟩
set_option maxHeartbeats 1000000 in
theorem fault15 (e at' : Int) (w : World) : Calls Tryd.prog 15 #[.int .i64 e, .int .i64 at'] w fun r w' => r = .returned (.agg #[.int .i64 e, .int .i64 at', .int .i64 0]) ∧ Below w.heap.size w w' := by
  go_enter Tryd.func15, Tryd.ntmps15
  go_wp2
  exact bodyPost_ret (v := .agg #[.int .i64 e, .int .i64 at', .int .i64 0]) (by simp [results, Tryd.results15, go_sem]) rfl ⟨rfl, by exact (Below.refl _ _).alloc (Nat.le_refl _) _⟩
/-- One more that is so. -/
theorem lead_step {p : Int → Bool} {B : List Int} {a : Nat} (ha : a < B.length) : lead p (B.drop a) = if p (B[a]?.getD 0) then lead p (B.drop (a + 1)) + 1 else 0 := by
  rw [drop_cons ha]; rfl
theorem lead_end {p : Int → Bool} {B : List Int} {a : Nat} (ha : B.length ≤ a) : lead p (B.drop a) = 0 := by
  rw [List.drop_eq_nil_of_le ha]; rfl
set_option maxHeartbeats 2000000 in
theorem reachB {w : World} {b C L : Nat} {B : List Int} (hT : Txt w b B) (hL : B.length = L) (a : Nat) (ha : a ≤ L) : Calls Tryd.prog 16 #[.slice (some ⟨b, 0, none⟩) L C, .int .i64 (a : Int), .func (.func 17) #[] #[]] w fun e w' => e = .returned (.int .i64 ((a + lead blB (B.drop a) : Nat) : Int)) ∧ Below w.heap.size w w' := by
  have hlen := hT.len
  have HT : Hid (∀ wr, Below w.heap.size w wr → ∀ i, i < L → wr.cell? ⟨b, i, none⟩ = some (.int .u8 (B[i]?.getD 0))) := fun wr h i hi => (hT.next h).cell i (by omega)
  have HL : Hid (B.length = L) := hL
  rw [hL] at hlen
  clear hT hL
  obtain ⟨R, hR⟩ : ∃ R, a + lead blB (B.drop a) = R := ⟨_, rfl⟩
  rw [hR]
  have HR := hide hR
  have HD : Hid (Below w.heap.size w w) := Below.refl _ _
  have HDG := hide (fun c W => blank17 c W)
  clear hR
  go_enter Tryd.func16, Tryd.ntmps16
  go_wp2
  go_loopg [1] (L - a) (fun g i wr => ∃ j : Nat, g + j = L ∧ i = .int .i64 (j : Int) ∧ j + lead blB (B.drop j) = R ∧ Below w.heap.size w wr)
  case atStart => exact ⟨a, by omega, rfl, HR.out, HD.out⟩
  case round =>
    clear HR HD
    obtain ⟨j, hj, rfl, hjr, hnx⟩ := hrel
    have HJ := hide hjr
    clear hjr
    by_cases hlt : j < L
    · have hc := HT.out _ hnx j hlt
      have HST := hide (lead_step (p := blB) (B := B) (a := j) (by rw [HL.out]; exact hlt))
      clear HT
      generalize B[j]?.getD 0 = c at *
      have HDC := hide (fun W => HDG.out c W)
      cases hdg : blB c with
      | true =>
        rw [hdg] at HDC HST
        have HST' : Hid (lead blB (B.drop j) = lead blB (B.drop (j + 1)) + 1) := HST.out
        clear HST HDG hdg
        go_wp2_with fail
        refine (HDC.out _).mono ?_
        rintro e w1 ⟨rfl, hw1⟩
        have hw2 := hw1.symm
        subst hw2
        clear hw1 HDC
        go_wp2
        go_roundg (L - (j + 1))
        case rel => exact ⟨j + 1, by omega, by go_num, by have := HJ.out; have := HST'.out; omega, by first | exact hnx | exact hnx.drew | exact drewN_below hnx _⟩
        case measure => omega
      | false =>
        rw [hdg] at HDC HST
        have HST' := hide (show lead blB (B.drop j) = 0 from HST.out)
        clear HST HDG hdg
        go_wp2_with fail
        refine (HDC.out _).mono ?_
        rintro e w1 ⟨rfl, hw1⟩
        have hw2 := hw1.symm
        subst hw2
        clear hw1 HDC
        go_wp2
        go_ret
        exact ⟨Rn.retI (by have := HJ.out; have := HST'.out; omega), by first | exact hnx | exact hnx.drew | exact drewN_below hnx _⟩
    · have hje : j = L := by omega
      subst hje
      have HST' : Hid (lead blB (B.drop j) = 0) := lead_end (by rw [HL.out]; exact Nat.le_refl _)
      clear HT HDG
      go_wp2
      go_ret
      exact ⟨Rn.retI (by have := HJ.out; have := HST'.out; omega), by first | exact hnx | exact hnx.drew | exact drewN_below hnx _⟩
set_option maxHeartbeats 2000000 in
theorem reachD {w : World} {b C L : Nat} {B : List Int} (hT : Txt w b B) (hL : B.length = L) (a : Nat) (ha : a ≤ L) : Calls Tryd.prog 16 #[.slice (some ⟨b, 0, none⟩) L C, .int .i64 (a : Int), .func (.func 31) #[] #[]] w fun e w' => e = .returned (.int .i64 ((a + lead dgB (B.drop a) : Nat) : Int)) ∧ Below w.heap.size w w' := by
  have hlen := hT.len
  have HT : Hid (∀ wr, Below w.heap.size w wr → ∀ i, i < L → wr.cell? ⟨b, i, none⟩ = some (.int .u8 (B[i]?.getD 0))) := fun wr h i hi => (hT.next h).cell i (by omega)
  have HL : Hid (B.length = L) := hL
  rw [hL] at hlen
  clear hT hL
  obtain ⟨R, hR⟩ : ∃ R, a + lead dgB (B.drop a) = R := ⟨_, rfl⟩
  rw [hR]
  have HR := hide hR
  have HD : Hid (Below w.heap.size w w) := Below.refl _ _
  have HDG := hide (fun c W => digit31 c W)
  clear hR
  go_enter Tryd.func16, Tryd.ntmps16
  go_wp2
  go_loopg [1] (L - a) (fun g i wr => ∃ j : Nat, g + j = L ∧ i = .int .i64 (j : Int) ∧ j + lead dgB (B.drop j) = R ∧ Below w.heap.size w wr)
  case atStart => exact ⟨a, by omega, rfl, HR.out, HD.out⟩
  case round =>
    clear HR HD
    obtain ⟨j, hj, rfl, hjr, hnx⟩ := hrel
    have HJ := hide hjr
    clear hjr
    by_cases hlt : j < L
    · have hc := HT.out _ hnx j hlt
      have HST := hide (lead_step (p := dgB) (B := B) (a := j) (by rw [HL.out]; exact hlt))
      clear HT
      generalize B[j]?.getD 0 = c at *
      have HDC := hide (fun W => HDG.out c W)
      cases hdg : dgB c with
      | true =>
        rw [hdg] at HDC HST
        have HST' : Hid (lead dgB (B.drop j) = lead dgB (B.drop (j + 1)) + 1) := HST.out
        clear HST HDG hdg
        go_wp2_with fail
        refine (HDC.out _).mono ?_
        rintro e w1 ⟨rfl, hw1⟩
        have hw2 := hw1.symm
        subst hw2
        clear hw1 HDC
        go_wp2
        go_roundg (L - (j + 1))
        case rel => exact ⟨j + 1, by omega, by go_num, by have := HJ.out; have := HST'.out; omega, by first | exact hnx | exact hnx.drew | exact drewN_below hnx _⟩
        case measure => omega
      | false =>
        rw [hdg] at HDC HST
        have HST' := hide (show lead dgB (B.drop j) = 0 from HST.out)
        clear HST HDG hdg
        go_wp2_with fail
        refine (HDC.out _).mono ?_
        rintro e w1 ⟨rfl, hw1⟩
        have hw2 := hw1.symm
        subst hw2
        clear hw1 HDC
        go_wp2
        go_ret
        exact ⟨Rn.retI (by have := HJ.out; have := HST'.out; omega), by first | exact hnx | exact hnx.drew | exact drewN_below hnx _⟩
    · have hje : j = L := by omega
      subst hje
      have HST' : Hid (lead dgB (B.drop j) = 0) := lead_end (by rw [HL.out]; exact Nat.le_refl _)
      clear HT HDG
      go_wp2
      go_ret
      exact ⟨Rn.retI (by have := HJ.out; have := HST'.out; omega), by first | exact hnx | exact hnx.drew | exact drewN_below hnx _⟩
set_option maxHeartbeats 2000000 in
theorem reachN {w : World} {b C L : Nat} {B : List Int} (hT : Txt w b B) (hL : B.length = L) (a : Nat) (ha : a ≤ L) : Calls Tryd.prog 16 #[.slice (some ⟨b, 0, none⟩) L C, .int .i64 (a : Int), .func (.func 38) #[] #[]] w fun e w' => e = .returned (.int .i64 ((a + lead nmB (B.drop a) : Nat) : Int)) ∧ Below w.heap.size w w' := by
  have hlen := hT.len
  have HT : Hid (∀ wr, Below w.heap.size w wr → ∀ i, i < L → wr.cell? ⟨b, i, none⟩ = some (.int .u8 (B[i]?.getD 0))) := fun wr h i hi => (hT.next h).cell i (by omega)
  have HL : Hid (B.length = L) := hL
  rw [hL] at hlen
  clear hT hL
  obtain ⟨R, hR⟩ : ∃ R, a + lead nmB (B.drop a) = R := ⟨_, rfl⟩
  rw [hR]
  have HR := hide hR
  have HD : Hid (Below w.heap.size w w) := Below.refl _ _
  have HDG := hide (fun c W => nam38 c W)
  clear hR
  go_enter Tryd.func16, Tryd.ntmps16
  go_wp2
  go_loopg [1] (L - a) (fun g i wr => ∃ j : Nat, g + j = L ∧ i = .int .i64 (j : Int) ∧ j + lead nmB (B.drop j) = R ∧ Below w.heap.size w wr)
  case atStart => exact ⟨a, by omega, rfl, HR.out, HD.out⟩
  case round =>
    clear HR HD
    obtain ⟨j, hj, rfl, hjr, hnx⟩ := hrel
    have HJ := hide hjr
    clear hjr
    by_cases hlt : j < L
    · have hc := HT.out _ hnx j hlt
      have HST := hide (lead_step (p := nmB) (B := B) (a := j) (by rw [HL.out]; exact hlt))
      clear HT
      generalize B[j]?.getD 0 = c at *
      have HDC := hide (fun W => HDG.out c W)
      cases hdg : nmB c with
      | true =>
        rw [hdg] at HDC HST
        have HST' : Hid (lead nmB (B.drop j) = lead nmB (B.drop (j + 1)) + 1) := HST.out
        clear HST HDG hdg
        go_wp2_with fail
        refine (HDC.out _).mono ?_
        rintro e w1 ⟨rfl, hw1⟩
        have hw2 := hw1.symm
        subst hw2
        clear hw1 HDC
        go_wp2
        go_roundg (L - (j + 1))
        case rel => exact ⟨j + 1, by omega, by go_num, by have := HJ.out; have := HST'.out; omega, by first | exact hnx | exact hnx.drew | exact drewN_below hnx _⟩
        case measure => omega
      | false =>
        rw [hdg] at HDC HST
        have HST' := hide (show lead nmB (B.drop j) = 0 from HST.out)
        clear HST HDG hdg
        go_wp2_with fail
        refine (HDC.out _).mono ?_
        rintro e w1 ⟨rfl, hw1⟩
        have hw2 := hw1.symm
        subst hw2
        clear hw1 HDC
        go_wp2
        go_ret
        exact ⟨Rn.retI (by have := HJ.out; have := HST'.out; omega), by first | exact hnx | exact hnx.drew | exact drewN_below hnx _⟩
    · have hje : j = L := by omega
      subst hje
      have HST' : Hid (lead nmB (B.drop j) = 0) := lead_end (by rw [HL.out]; exact Nat.le_refl _)
      clear HT HDG
      go_wp2
      go_ret
      exact ⟨Rn.retI (by have := HJ.out; have := HST'.out; omega), by first | exact hnx | exact hnx.drew | exact drewN_below hnx _⟩
end Go.Proofs.YtljanfmmhglpiaaDoor
