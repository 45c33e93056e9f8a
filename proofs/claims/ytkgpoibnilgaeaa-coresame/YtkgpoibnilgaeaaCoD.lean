/-
  Names: whether a text may be one, by both; for all texts.
-/
import Derived.Test.YtkgpoibnilgaeaaCoB
import Derived.Deep.LoopGhost
namespace Go.Proofs.Ytkgpoibnilgaeaa
open Go.ChangeShapes Go.WideShapes Go.ChangeAt Go.RowKit
set_option linter.unusedVariables false
set_option linter.unusedSimpArgs false
/-- A text's byte. -/
def byt (s : ByteArray) (j : Nat) : Int := if h : j < s.size then ((s[j]'h).toNat : Int) else 0
theorem byt_run (s : ByteArray) (j : Nat) (h : j < s.size) (w : World) : (Instr.index 9 (.string s) (.int .i64 (j : Int))).run Try.prog w = .ok (.int .u8 (byt s j)) w := by
  rw [run_index_string w 9 s .i64 _ (by kernel_rfl), dif_pos ⟨by omega, by omega⟩]
  unfold byt
  rw [dif_pos h]
  rfl
/-- Is it wrong at a place? -/
def badB (s : ByteArray) (j : Nat) : Bool := !frm (byt s j) 97 119 && (decide (j = 0) || !frm (byt s j) 48 57)
def nameB (s : ByteArray) : Bool := decide (1 ≤ s.size ∧ s.size ≤ 8) && !anyUp (badB s) s.size
theorem nameB_out {s : ByteArray} (h : ¬ (1 ≤ s.size ∧ s.size ≤ 8)) : nameB s = false := by simp [nameB, h]
theorem nameB_in {s : ByteArray} (h : 1 ≤ s.size ∧ s.size ≤ 8) : nameB s = !anyUp (badB s) s.size := by simp [nameB, h]

set_option maxHeartbeats 2000000 in
theorem name15 (s : ByteArray) (w : World) : Calls Try.prog 15 #[.string s] w fun e w' => e = .returned (.bool (nameB s)) ∧ Below w.heap.size w w' := by
  by_cases h1 : (s.size : Int) = 0
  · rw [nameB_out (by omega)]
    go_enter Try.func15, Try.ntmps15
    go_wp2
    go_ret
    exact ⟨rfl, Below.refl _ _⟩
  by_cases h2 : 8 < (s.size : Int)
  · rw [nameB_out (by omega)]
    have h3 : ((s.size : Int) == 0) = false := beq_eq_false_iff_ne.2 h1
    have h4 : ¬ (s.size : Int) < 1 := by omega
    have h5 : decide ((s.size : Int) < 1) = false := by simp [h4]
    go_enter Try.func15, Try.ntmps15
    go_wp2
    go_ret
    exact ⟨rfl, Below.refl _ _⟩
  rw [nameB_in (by omega)]
  have HHIT : Hid (∀ j, j < s.size → badB s j = true → anyUp (badB s) s.size = true) := fun j hj h => anyUp_hit hj h
  have HNO : Hid ((∀ j, j < s.size → badB s j = false) → anyUp (badB s) s.size = false) := fun h => anyUp_none.2 h
  have HX : Hid (∀ j, j < s.size → ∀ w, (Instr.index 9 (.string s) (.int .i64 (j : Int))).run Try.prog w = .ok (.int .u8 (byt s j)) w) := fun j h w => byt_run s j h w
  have HBAD : Hid (∀ j, badB s j = (!frm (byt s j) 97 119 && (decide (j = 0) || !frm (byt s j) 48 57))) := fun j => rfl
  generalize anyUp (badB s) s.size = Z at *
  generalize badB s = F at *
  have h3 : ((s.size : Int) == 0) = false := beq_eq_false_iff_ne.2 h1
  have h4 : ¬ (s.size : Int) < 1 := by omega
  have h5 : decide ((s.size : Int) < 1) = false := by simp [h4]
  have h6 : ¬ 8 < (s.size : Int) := by omega
  have h7 : decide (8 < (s.size : Int)) = false := by simp [h6]
  obtain ⟨L, hL⟩ : ∃ L, L = s.size := ⟨_, rfl⟩
  have HL := hide hL
  go_enter Try.func15, Try.ntmps15
  go_wp2
  go_loopg [14] L (fun g i wr => ∃ (j : Nat), g + j = L ∧ i = .int .i64 (j : Int) ∧ (∀ i, i < j → F i = false) ∧ Below w.heap.size w wr)
  case atStart => exact ⟨0, by omega, rfl, (by intro i hi; omega), Below.refl _ _⟩
  case round =>
    obtain ⟨j, hj, rfl, hno, hnx⟩ := hrel
    have HN := hide hno
    clear hno
    by_cases hlt : (j : Int) < (s.size : Int)
    · have hx := HX.out j (by omega)
      have HFJ := hide (HBAD.out j)
      have HH := hide (HHIT.out j (by omega))
      clear HX HBAD HHIT HNO
      generalize byt s j = B at *
      have CL : ∀ w, Calls Try.prog 35 #[.int .u8 B] w fun e w' => e = .returned (.bool (frm B 97 119)) ∧ Below w.heap.size w w' := letter35 B
      have CD : ∀ w, Calls Try.prog 36 #[.int .u8 B] w fun e w' => e = .returned (.bool (frm B 48 57)) ∧ Below w.heap.size w w' := digit36 B
      generalize frm B 97 119 = LT at *
      generalize frm B 48 57 = DG at *
      have HCL := hide CL
      have HCD := hide CD
      clear CL CD
      cases LT
      · by_cases h0 : (j : Int) = 0
        · have hFJ : F j = true := by rw [HFJ.out]; simp [show j = 0 by omega]
          have HZ := hide (HH.out hFJ)
          clear hFJ HFJ HH HN
          have hx0 : ∀ w, (Instr.index 9 (.string s) (.int .i64 0)).run Try.prog w = .ok (.int .u8 B) w := by rw [← h0]; exact hx
          go_wp2_with fail
          refine (HCL.out _).mono ?_
          rintro e w1 ⟨rfl, hb1⟩
          clear HCL
          go_wp2
          go_ret
          exact ⟨retB (by rw [HZ.out]; rfl), hnx.trans (hb1.mono hnx.size)⟩
        · have h0' : ((j : Int) == 0) = false := beq_eq_false_iff_ne.2 h0
          cases DG
          · have hFJ : F j = true := by rw [HFJ.out]; simp
            have HZ := hide (HH.out hFJ)
            clear hFJ HFJ HH HN
            go_wp2_with fail
            refine (HCL.out _).mono ?_
            rintro e w1 ⟨rfl, hb1⟩
            clear HCL
            go_wp2_with fail
            refine (HCD.out _).mono ?_
            rintro e w2 ⟨rfl, hb2⟩
            clear HCD
            go_wp2
            go_ret
            exact ⟨retB (by rw [HZ.out]; rfl), (hnx.trans (hb1.mono hnx.size)).trans (hb2.mono (Nat.le_trans hnx.size hb1.size))⟩
          · have hFJ : F j = false := by rw [HFJ.out]; simp [show ¬ j = 0 by omega]
            have HFJ2 := hide hFJ
            clear hFJ HFJ HH
            go_wp2_with fail
            refine (HCL.out _).mono ?_
            rintro e w1 ⟨rfl, hb1⟩
            clear HCL
            go_wp2_with fail
            refine (HCD.out _).mono ?_
            rintro e w2 ⟨rfl, hb2⟩
            clear HCD
            go_wp2
            go_roundg (L - (j + 1))
            case rel =>
              refine ⟨j + 1, by omega, by go_num, fun i hi => ?_, (hnx.trans (hb1.mono hnx.size)).trans (hb2.mono (Nat.le_trans hnx.size hb1.size))⟩
              rcases Nat.lt_succ_iff_lt_or_eq.1 hi with hi | rfl
              · exact HN.out i hi
              · exact HFJ2.out
            case measure => omega
      · have hFJ : F j = false := by rw [HFJ.out]; simp
        have HFJ2 := hide hFJ
        clear hFJ HFJ HH
        go_wp2_with fail
        refine (HCL.out _).mono ?_
        rintro e w1 ⟨rfl, hb1⟩
        clear HCL
        go_wp2
        go_roundg (L - (j + 1))
        case rel =>
          refine ⟨j + 1, by omega, by go_num, fun i hi => ?_, hnx.trans (hb1.mono hnx.size)⟩
          rcases Nat.lt_succ_iff_lt_or_eq.1 hi with hi | rfl
          · exact HN.out i hi
          · exact HFJ2.out
        case measure => omega
    · have HZ := hide (HNO.out (fun i hi => HN.out i (by omega)))
      clear HX HBAD HHIT HNO HN
      go_wp2
      go_ret
      exact ⟨retB (by rw [HZ.out]; rfl), hnx⟩

set_option maxHeartbeats 2000000 in
theorem name16 (s : ByteArray) (w : World) : Calls Try.prog 16 #[.string s] w fun e w' => e = .returned (.bool (nameB s)) ∧ Below w.heap.size w w' := by
  by_cases h1 : (s.size : Int) = 0
  · rw [nameB_out (by omega)]
    go_enter Try.func16, Try.ntmps16
    go_wp2
    go_ret
    exact ⟨rfl, Below.refl _ _⟩
  by_cases h2 : 8 < (s.size : Int)
  · rw [nameB_out (by omega)]
    have h3 : ((s.size : Int) == 0) = false := beq_eq_false_iff_ne.2 h1
    have h4 : ¬ (s.size : Int) < 1 := by omega
    have h5 : decide ((s.size : Int) < 1) = false := by simp [h4]
    go_enter Try.func16, Try.ntmps16
    go_wp2
    go_ret
    exact ⟨rfl, Below.refl _ _⟩
  rw [nameB_in (by omega)]
  have HHIT : Hid (∀ j, j < s.size → badB s j = true → anyUp (badB s) s.size = true) := fun j hj h => anyUp_hit hj h
  have HNO : Hid ((∀ j, j < s.size → badB s j = false) → anyUp (badB s) s.size = false) := fun h => anyUp_none.2 h
  have HX : Hid (∀ j, j < s.size → ∀ w, (Instr.index 9 (.string s) (.int .i64 (j : Int))).run Try.prog w = .ok (.int .u8 (byt s j)) w) := fun j h w => byt_run s j h w
  have HBAD : Hid (∀ j, badB s j = (!frm (byt s j) 97 119 && (decide (j = 0) || !frm (byt s j) 48 57))) := fun j => rfl
  generalize anyUp (badB s) s.size = Z at *
  generalize badB s = F at *
  have h3 : ((s.size : Int) == 0) = false := beq_eq_false_iff_ne.2 h1
  have h4 : ¬ (s.size : Int) < 1 := by omega
  have h5 : decide ((s.size : Int) < 1) = false := by simp [h4]
  have h6 : ¬ 8 < (s.size : Int) := by omega
  have h7 : decide (8 < (s.size : Int)) = false := by simp [h6]
  obtain ⟨L, hL⟩ : ∃ L, L = s.size := ⟨_, rfl⟩
  have HL := hide hL
  go_enter Try.func16, Try.ntmps16
  go_wp2
  go_loopg [3] L (fun g i wr => ∃ (j : Nat), g + j = L ∧ i = .int .i64 (j : Int) ∧ (∀ i, i < j → F i = false) ∧ Below w.heap.size w wr)
  case atStart => exact ⟨0, by omega, rfl, (by intro i hi; omega), Below.refl _ _⟩
  case round =>
    obtain ⟨j, hj, rfl, hno, hnx⟩ := hrel
    have HN := hide hno
    clear hno
    by_cases hlt : (j : Int) < (s.size : Int)
    · have hx := HX.out j (by omega)
      have HFJ := hide (HBAD.out j)
      have HH := hide (HHIT.out j (by omega))
      clear HX HBAD HHIT HNO
      generalize byt s j = B at *
      by_cases a1 : B < 97
      · have k1 : frm B 97 119 = false := frm_lo (by omega)
        by_cases d1 : 48 ≤ B
        · by_cases d2 : B ≤ 57
          · have k2 : frm B 48 57 = true := frm_yes d1 d2
            by_cases h0 : (j : Int) = 0
            · have hx0 : ∀ w, (Instr.index 9 (.string s) (.int .i64 0)).run Try.prog w = .ok (.int .u8 B) w := by rw [← h0]; exact hx
              have hFJ : F j = true := by rw [HFJ.out]; simp [k1, k2, show j = 0 by omega]
              have HZ := hide (HH.out hFJ)
              clear hFJ HFJ HH HN
              go_wp2
              go_ret
              exact ⟨retB (by rw [HZ.out]; rfl), hnx⟩
            · have h0' : ((j : Int) == 0) = false := beq_eq_false_iff_ne.2 h0
              have hFJ : F j = false := by rw [HFJ.out]; simp [k1, k2, show ¬ j = 0 by omega]
              have HFJ2 := hide hFJ
              clear hFJ HFJ HH
              go_wp2
              go_roundg (L - (j + 1))
              case rel =>
                refine ⟨j + 1, by omega, by go_num, fun i hi => ?_, hnx⟩
                rcases Nat.lt_succ_iff_lt_or_eq.1 hi with hi | rfl
                · exact HN.out i hi
                · exact HFJ2.out
              case measure => omega
          · have k2 : frm B 48 57 = false := frm_hi d2
            have d2' : decide (B ≤ 57) = false := by simp [d2]
            by_cases h0 : (j : Int) = 0
            · have hx0 : ∀ w, (Instr.index 9 (.string s) (.int .i64 0)).run Try.prog w = .ok (.int .u8 B) w := by rw [← h0]; exact hx
              have hFJ : F j = true := by rw [HFJ.out]; simp [k1, k2]
              have HZ := hide (HH.out hFJ)
              clear hFJ HFJ HH HN
              go_wp2
              go_ret
              exact ⟨retB (by rw [HZ.out]; rfl), hnx⟩
            · have h0' : ((j : Int) == 0) = false := beq_eq_false_iff_ne.2 h0
              have hFJ : F j = true := by rw [HFJ.out]; simp [k1, k2]
              have HZ := hide (HH.out hFJ)
              clear hFJ HFJ HH HN
              go_wp2
              go_ret
              exact ⟨retB (by rw [HZ.out]; rfl), hnx⟩
        · have k2 : frm B 48 57 = false := frm_lo d1
          have d1' : decide (48 ≤ B) = false := by simp [d1]
          by_cases h0 : (j : Int) = 0
          · have hx0 : ∀ w, (Instr.index 9 (.string s) (.int .i64 0)).run Try.prog w = .ok (.int .u8 B) w := by rw [← h0]; exact hx
            have hFJ : F j = true := by rw [HFJ.out]; simp [k1, k2]
            have HZ := hide (HH.out hFJ)
            clear hFJ HFJ HH HN
            go_wp2
            go_ret
            exact ⟨retB (by rw [HZ.out]; rfl), hnx⟩
          · have h0' : ((j : Int) == 0) = false := beq_eq_false_iff_ne.2 h0
            have hFJ : F j = true := by rw [HFJ.out]; simp [k1, k2]
            have HZ := hide (HH.out hFJ)
            clear hFJ HFJ HH HN
            go_wp2
            go_ret
            exact ⟨retB (by rw [HZ.out]; rfl), hnx⟩
      · by_cases a2 : 119 < B
        · have k1 : frm B 97 119 = false := frm_hi (by omega)
          have k2 : frm B 48 57 = false := frm_hi (by omega)
          have d2' : decide (B ≤ 57) = false := by simp; omega
          have d1' : decide (48 ≤ B) = true := by simp; omega
          have a1' : decide (B < 97) = false := by simp; omega
          by_cases h0 : (j : Int) = 0
          · have hx0 : ∀ w, (Instr.index 9 (.string s) (.int .i64 0)).run Try.prog w = .ok (.int .u8 B) w := by rw [← h0]; exact hx
            have hFJ : F j = true := by rw [HFJ.out]; simp [k1, k2]
            have HZ := hide (HH.out hFJ)
            clear hFJ HFJ HH HN
            go_wp2
            go_ret
            exact ⟨retB (by rw [HZ.out]; rfl), hnx⟩
          · have h0' : ((j : Int) == 0) = false := beq_eq_false_iff_ne.2 h0
            have hFJ : F j = true := by rw [HFJ.out]; simp [k1, k2]
            have HZ := hide (HH.out hFJ)
            clear hFJ HFJ HH HN
            go_wp2
            go_ret
            exact ⟨retB (by rw [HZ.out]; rfl), hnx⟩
        · have k1 : frm B 97 119 = true := frm_yes (by omega) (by omega)
          have d2' : decide (B ≤ 57) = false := by simp; omega
          have d1' : decide (48 ≤ B) = true := by simp; omega
          have a1' : decide (B < 97) = false := by simp; omega
          have a2' : decide (119 < B) = false := by simp; omega
          have hFJ : F j = false := by rw [HFJ.out]; simp [k1]
          have HFJ2 := hide hFJ
          clear hFJ HFJ HH
          go_wp2
          go_roundg (L - (j + 1))
          case rel =>
            refine ⟨j + 1, by omega, by go_num, fun i hi => ?_, hnx⟩
            rcases Nat.lt_succ_iff_lt_or_eq.1 hi with hi | rfl
            · exact HN.out i hi
            · exact HFJ2.out
          case measure => omega
    · have HZ := hide (HNO.out (fun i hi => HN.out i (by omega)))
      clear HX HBAD HHIT HNO HN
      go_wp2
      go_ret
      exact ⟨retB (by rw [HZ.out]; rfl), hnx⟩
end Go.Proofs.Ytkgpoibnilgaeaa
