/-
  Words that are always the same: the contracts of One at a place of a text, of kindOfOne, kindOfTwo, same and kindOfLetters.
-/
import Derived.Test.YtnndnjffnkhpdaaDoorLxG
import Derived.Test.YtnndnjffnkhpdaaDoorOwnN
namespace Go.Proofs.YtnndnjffnkhpdaaDoor
open Go.ChangeShapes Go.WideShapes Go.ChangeAt Go.RowKit
open Rn (Byte)
set_option maxRecDepth 100000
set_option linter.unusedVariables false
set_option linter.unusedSimpArgs false
theorem subA_at {b a C : Nat} (h : a < C) : subA (some ⟨b, 0, none⟩) a C 1 = some ⟨b, a, none⟩ := by
  unfold subA
  rw [if_neg (by omega)]
  simp [Addr.add] <;> omega
/-- The sign at the head, as One tells it. -/
def oneN (l : List Int) : Int := match oneF l with
  | none => 0
  | some r => r.1
def oneK (l : List Int) : Nat := match oneF l with
  | none => 0
  | some r => r.2
theorem one37 {w : World} {b L : Nat} {B : List Int} (hT : Txt w b B) (G : Glb w) (hL : B.length = L) (a m c : Nat) (hm : 0 < m) (ham : a + m ≤ L) :
    Calls Tryd.prog 37 #[.slice (some ⟨b, a, none⟩) m c] w fun e w' => e = .returned (.tuple #[.int .i64 (oneN ((B.drop a).take m)), .int .i64 (oneK ((B.drop a).take m) : Nat)]) ∧ w' = w := by
  have hlen := hT.len
  have hl : ((B.drop a).take m).length = m := by rw [List.length_take, List.length_drop]; omega
  have hB : ∀ z ∈ (B.drop a).take m, Byte z := fun z hz => hT.byte z (List.mem_of_mem_drop (List.mem_of_mem_take hz))
  have hc : ∀ i, i < m → w.cell? ⟨b, a + i, none⟩ = some (.int .u8 (((B.drop a).take m)[i]?.getD 0)) := by
    intro i hi
    rw [hT.cell (a + i) (by omega), List.getElem?_take, if_pos hi, List.getElem?_drop]
  generalize (B.drop a).take m = l at *
  unfold oneN oneK
  cases ho : oneF l with
  | some r =>
    obtain ⟨n, k⟩ := r
    obtain ⟨hg, hk, r, hr⟩ := oneF_some hB ho
    have := Rn.one_some l n r hg hr m hl b a c w G.tab hB (by omega) hc
    rw [hk]
    exact this
  | none =>
    have hns : Rn.NoSign l := by
      intro n r hn e
      rw [e, oneF_put hn] at ho
      cases ho
    exact Rn.one_zero l hns m hl hm b a c w G.tab hB (by omega) hc
set_option maxHeartbeats 4000000 in
theorem kindone48 (c : Int) (w : World) : Calls Tryd.prog 48 #[.int .u8 c] w fun e w' => e = .returned (.int .i64 (kind1 c)) ∧ w' = w := by
  by_cases h0 : c = 40
  · subst h0
    go_enter Tryd.func48, Tryd.ntmps48
    go_wp2
    go_ret
    exact ⟨Rn.retI (by decide), rfl⟩
  by_cases h1 : c = 41
  · subst h1
    go_enter Tryd.func48, Tryd.ntmps48
    go_wp2
    go_ret
    exact ⟨Rn.retI (by decide), rfl⟩
  by_cases h2 : c = 45
  · subst h2
    go_enter Tryd.func48, Tryd.ntmps48
    go_wp2
    go_ret
    exact ⟨Rn.retI (by decide), rfl⟩
  by_cases h3 : c = 42
  · subst h3
    go_enter Tryd.func48, Tryd.ntmps48
    go_wp2
    go_ret
    exact ⟨Rn.retI (by decide), rfl⟩
  by_cases h4 : c = 124
  · subst h4
    go_enter Tryd.func48, Tryd.ntmps48
    go_wp2
    go_ret
    exact ⟨Rn.retI (by decide), rfl⟩
  by_cases h5 : c = 37
  · subst h5
    go_enter Tryd.func48, Tryd.ntmps48
    go_wp2
    go_ret
    exact ⟨Rn.retI (by decide), rfl⟩
  by_cases h6 : c = 43
  · subst h6
    go_enter Tryd.func48, Tryd.ntmps48
    go_wp2
    go_ret
    exact ⟨Rn.retI (by decide), rfl⟩
  by_cases h7 : c = 60
  · subst h7
    go_enter Tryd.func48, Tryd.ntmps48
    go_wp2
    go_ret
    exact ⟨Rn.retI (by decide), rfl⟩
  by_cases h8 : c = 62
  · subst h8
    go_enter Tryd.func48, Tryd.ntmps48
    go_wp2
    go_ret
    exact ⟨Rn.retI (by decide), rfl⟩
  by_cases h9 : c = 61
  · subst h9
    go_enter Tryd.func48, Tryd.ntmps48
    go_wp2
    go_ret
    exact ⟨Rn.retI (by decide), rfl⟩
  by_cases h10 : c = 126
  · subst h10
    go_enter Tryd.func48, Tryd.ntmps48
    go_wp2
    go_ret
    exact ⟨Rn.retI (by decide), rfl⟩
  by_cases h11 : c = 36
  · subst h11
    go_enter Tryd.func48, Tryd.ntmps48
    go_wp2
    go_ret
    exact ⟨Rn.retI (by decide), rfl⟩
  by_cases h12 : c = 35
  · subst h12
    go_enter Tryd.func48, Tryd.ntmps48
    go_wp2
    go_ret
    exact ⟨Rn.retI (by decide), rfl⟩
  by_cases h13 : c = 44
  · subst h13
    go_enter Tryd.func48, Tryd.ntmps48
    go_wp2
    go_ret
    exact ⟨Rn.retI (by decide), rfl⟩
  by_cases h14 : c = 47
  · subst h14
    go_enter Tryd.func48, Tryd.ntmps48
    go_wp2
    go_ret
    exact ⟨Rn.retI (by decide), rfl⟩
  by_cases h15 : c = 92
  · subst h15
    go_enter Tryd.func48, Tryd.ntmps48
    go_wp2
    go_ret
    exact ⟨Rn.retI (by decide), rfl⟩
  by_cases h16 : c = 123
  · subst h16
    go_enter Tryd.func48, Tryd.ntmps48
    go_wp2
    go_ret
    exact ⟨Rn.retI (by decide), rfl⟩
  have g0 : (c == 40) = false := beq_eq_false_iff_ne.2 h0
  have g1 : (c == 41) = false := beq_eq_false_iff_ne.2 h1
  have g2 : (c == 45) = false := beq_eq_false_iff_ne.2 h2
  have g3 : (c == 42) = false := beq_eq_false_iff_ne.2 h3
  have g4 : (c == 124) = false := beq_eq_false_iff_ne.2 h4
  have g5 : (c == 37) = false := beq_eq_false_iff_ne.2 h5
  have g6 : (c == 43) = false := beq_eq_false_iff_ne.2 h6
  have g7 : (c == 60) = false := beq_eq_false_iff_ne.2 h7
  have g8 : (c == 62) = false := beq_eq_false_iff_ne.2 h8
  have g9 : (c == 61) = false := beq_eq_false_iff_ne.2 h9
  have g10 : (c == 126) = false := beq_eq_false_iff_ne.2 h10
  have g11 : (c == 36) = false := beq_eq_false_iff_ne.2 h11
  have g12 : (c == 35) = false := beq_eq_false_iff_ne.2 h12
  have g13 : (c == 44) = false := beq_eq_false_iff_ne.2 h13
  have g14 : (c == 47) = false := beq_eq_false_iff_ne.2 h14
  have g15 : (c == 92) = false := beq_eq_false_iff_ne.2 h15
  have g16 : (c == 123) = false := beq_eq_false_iff_ne.2 h16
  have hk : kind1 c = 0 := by unfold kind1 oneL; rw [if_neg h0, if_neg h1, if_neg (by simp; omega)]
  rw [hk]
  clear hk h0 h1 h2 h3 h4 h5 h6 h7 h8 h9 h10 h11 h12 h13 h14 h15 h16
  go_enter Tryd.func48, Tryd.ntmps48
  go_wp2
  go_ret
  exact ⟨rfl, rfl⟩
theorem str_lit (l : List Int) (s : ByteArray) (h : s.data.toList = Lib.bytesOf l) : strOfNums l = s := by
  have h2 := str_data l
  cases hs : s with
  | mk d =>
    cases ht : strOfNums l with
    | mk d' =>
      rw [hs] at h
      rw [ht] at h2
      congr 1
      exact Array.toList_inj.1 (h2.trans h.symm)
theorem list_ne {l m : List Int} {s : List UInt8} (hl : ∀ z ∈ l, Byte z) (hm : ∀ z ∈ m, Byte z) (h : s = Lib.bytesOf m) (hne : ¬ l = m) : (Lib.bytesOf l == s) = false := by
  rw [beq_eq_false_iff_ne]
  intro e
  exact hne (bytes_inj hl hm (e.trans h))
set_option maxHeartbeats 8000000 in
theorem kindtwo47 {w : World} {b L a C : Nat} {B : List Int} (hT : Txt w b B) (hL : B.length = L) (hC : L ≤ C) (ha : a < L) :
    Calls Tryd.prog 47 #[.slice (some ⟨b, a, none⟩) (L - a) (C - a)] w fun e w' => e = .returned (.int .i64 (kind2 (B.drop a))) ∧ w' = w := by
  have hlen := hT.len
  rw [hL] at hlen
  by_cases h2 : a + 1 < L
  · have hd0 : B.drop a = (B[a]?.getD 0) :: (B[a + 1]?.getD 0) :: B.drop (a + 2) := by rw [drop_cons (by omega), drop_cons (by omega)]
    have hcb := hT.at a (by omega)
    have hdb := hT.at (a + 1) (by omega)
    have hk : kind2 (B.drop a) = two (B[a]?.getD 0) (B[a + 1]?.getD 0) (B.drop (a + 2)) := by rw [hd0]; rfl
    have hst : ∀ W, W = w → (convert 40 9 (.slice (some ⟨b, a, none⟩) 2 (C - a))).run Tryd.prog W = .ok (.string (strOfNums [B[a]?.getD 0, B[a + 1]?.getD 0])) W := by
      intro W hW
      subst hW
      have hp := hT.part a C (by omega) (by omega) 2 (by omega)
      rw [subA_at (by omega), hd0] at hp
      exact str_of (c := C - a) hp rfl
    have hst := hst w rfl
    have sl := fun W => part_h (P := Tryd.prog) Tryd.underlying40 sz5 (some ⟨b, a, none⟩) (L - a) (C - a) 2 2 rfl (by omega) W
    have hN : ∃ N1 : Nat, L - a = N1 ∧ 2 ≤ N1 ∧ N1 ≤ 140737488355328 := ⟨L - a, rfl, by omega, by omega⟩
    obtain ⟨N1, hN1, hN2, hN3⟩ := hN
    have HH := hide (show ∀ h3 : N1 ≠ 2, w.cell? ⟨b, a + 2, none⟩ = some (.int .u8 (B[a + 2]?.getD 0)) ∧ (B.drop (a + 2)).headD 0 = B[a + 2]?.getD 0 from fun h3 => ⟨hT.cell (a + 2) (by omega), by rw [drop_cons (by omega)]; rfl⟩)
    have HH2 := hide (show N1 = 2 → (B.drop (a + 2)).headD 0 = 0 from fun h3 => by rw [List.drop_eq_nil_of_le (by omega)]; rfl)
    have HDG := hide (fun c W => digit32 c W)
    have hSS := Lib.strOfNums_toList [B[a]?.getD 0, B[a + 1]?.getD 0]
    generalize strOfNums [B[a]?.getD 0, B[a + 1]?.getD 0] = SS at *
    have HSS := hide hSS
    rw [hk]
    rw [hN1] at sl ⊢
    generalize B.drop (a + 2) = T at *
    generalize B[a]?.getD 0 = c at *
    generalize B[a + 1]?.getD 0 = d at *
    generalize B[a + 2]?.getD 0 = x at *
    generalize C - a = K at *
    clear hk hd0 hT hL hC ha h2 hlen hSS hN1
    by_cases h0 : c = 61 ∧ d = 58
    · obtain ⟨rfl, rfl⟩ := h0
      have g0 : (SS.toList == [61, 58]) = true := by rw [HSS.out]; decide
      clear HH HH2 HDG HSS
      go_enter Tryd.func47, Tryd.ntmps47
      go_wp2
      go_ret
      exact ⟨Rn.retI (by unfold two pairL; simp), rfl⟩
    by_cases h1 : c = 123 ∧ d = 123
    · obtain ⟨rfl, rfl⟩ := h1
      have g0 : (SS.toList == [61, 58]) = false := by rw [HSS.out]; decide
      have g1 : (SS.toList == [123, 123]) = true := by rw [HSS.out]; decide
      clear HH HH2 HDG HSS
      go_enter Tryd.func47, Tryd.ntmps47
      go_wp2
      go_ret
      exact ⟨Rn.retI (by unfold two pairL; simp), rfl⟩
    by_cases h2 : c = 125 ∧ d = 125
    · obtain ⟨rfl, rfl⟩ := h2
      have g0 : (SS.toList == [61, 58]) = false := by rw [HSS.out]; decide
      have g1 : (SS.toList == [123, 123]) = false := by rw [HSS.out]; decide
      have g2 : (SS.toList == [125, 125]) = true := by rw [HSS.out]; decide
      clear HH HH2 HDG HSS
      go_enter Tryd.func47, Tryd.ntmps47
      go_wp2
      go_ret
      exact ⟨Rn.retI (by unfold two pairL; simp), rfl⟩
    by_cases h3 : c = 45 ∧ d = 46
    · obtain ⟨rfl, rfl⟩ := h3
      have g0 : (SS.toList == [61, 58]) = false := by rw [HSS.out]; decide
      have g1 : (SS.toList == [123, 123]) = false := by rw [HSS.out]; decide
      have g2 : (SS.toList == [125, 125]) = false := by rw [HSS.out]; decide
      have g3 : (SS.toList == [45, 46]) = true := by rw [HSS.out]; decide
      clear HH HH2 HDG HSS
      go_enter Tryd.func47, Tryd.ntmps47
      go_wp2
      go_ret
      exact ⟨Rn.retI (by unfold two pairL; simp), rfl⟩
    by_cases h4 : c = 124 ∧ d = 46
    · obtain ⟨rfl, rfl⟩ := h4
      have g0 : (SS.toList == [61, 58]) = false := by rw [HSS.out]; decide
      have g1 : (SS.toList == [123, 123]) = false := by rw [HSS.out]; decide
      have g2 : (SS.toList == [125, 125]) = false := by rw [HSS.out]; decide
      have g3 : (SS.toList == [45, 46]) = false := by rw [HSS.out]; decide
      have g4 : (SS.toList == [124, 46]) = true := by rw [HSS.out]; decide
      clear HH HH2 HDG HSS
      go_enter Tryd.func47, Tryd.ntmps47
      go_wp2
      go_ret
      exact ⟨Rn.retI (by unfold two pairL; simp), rfl⟩
    by_cases h5 : c = 124 ∧ d = 58
    · obtain ⟨rfl, rfl⟩ := h5
      have g0 : (SS.toList == [61, 58]) = false := by rw [HSS.out]; decide
      have g1 : (SS.toList == [123, 123]) = false := by rw [HSS.out]; decide
      have g2 : (SS.toList == [125, 125]) = false := by rw [HSS.out]; decide
      have g3 : (SS.toList == [45, 46]) = false := by rw [HSS.out]; decide
      have g4 : (SS.toList == [124, 46]) = false := by rw [HSS.out]; decide
      have g5 : (SS.toList == [124, 58]) = true := by rw [HSS.out]; decide
      clear HH HH2 HDG HSS
      go_enter Tryd.func47, Tryd.ntmps47
      go_wp2
      go_ret
      exact ⟨Rn.retI (by unfold two pairL; simp), rfl⟩
    by_cases h6 : c = 60 ∧ d = 46
    · obtain ⟨rfl, rfl⟩ := h6
      have g0 : (SS.toList == [61, 58]) = false := by rw [HSS.out]; decide
      have g1 : (SS.toList == [123, 123]) = false := by rw [HSS.out]; decide
      have g2 : (SS.toList == [125, 125]) = false := by rw [HSS.out]; decide
      have g3 : (SS.toList == [45, 46]) = false := by rw [HSS.out]; decide
      have g4 : (SS.toList == [124, 46]) = false := by rw [HSS.out]; decide
      have g5 : (SS.toList == [124, 58]) = false := by rw [HSS.out]; decide
      have g6 : (SS.toList == [60, 46]) = true := by rw [HSS.out]; decide
      clear HH HH2 HDG HSS
      go_enter Tryd.func47, Tryd.ntmps47
      go_wp2
      go_ret
      exact ⟨Rn.retI (by unfold two pairL; simp), rfl⟩
    by_cases h7 : c = 60 ∧ d = 58
    · obtain ⟨rfl, rfl⟩ := h7
      have g0 : (SS.toList == [61, 58]) = false := by rw [HSS.out]; decide
      have g1 : (SS.toList == [123, 123]) = false := by rw [HSS.out]; decide
      have g2 : (SS.toList == [125, 125]) = false := by rw [HSS.out]; decide
      have g3 : (SS.toList == [45, 46]) = false := by rw [HSS.out]; decide
      have g4 : (SS.toList == [124, 46]) = false := by rw [HSS.out]; decide
      have g5 : (SS.toList == [124, 58]) = false := by rw [HSS.out]; decide
      have g6 : (SS.toList == [60, 46]) = false := by rw [HSS.out]; decide
      have g7 : (SS.toList == [60, 58]) = true := by rw [HSS.out]; decide
      clear HH HH2 HDG HSS
      go_enter Tryd.func47, Tryd.ntmps47
      go_wp2
      go_ret
      exact ⟨Rn.retI (by unfold two pairL; simp), rfl⟩
    by_cases h8 : c = 62 ∧ d = 46
    · obtain ⟨rfl, rfl⟩ := h8
      have g0 : (SS.toList == [61, 58]) = false := by rw [HSS.out]; decide
      have g1 : (SS.toList == [123, 123]) = false := by rw [HSS.out]; decide
      have g2 : (SS.toList == [125, 125]) = false := by rw [HSS.out]; decide
      have g3 : (SS.toList == [45, 46]) = false := by rw [HSS.out]; decide
      have g4 : (SS.toList == [124, 46]) = false := by rw [HSS.out]; decide
      have g5 : (SS.toList == [124, 58]) = false := by rw [HSS.out]; decide
      have g6 : (SS.toList == [60, 46]) = false := by rw [HSS.out]; decide
      have g7 : (SS.toList == [60, 58]) = false := by rw [HSS.out]; decide
      have g8 : (SS.toList == [62, 46]) = true := by rw [HSS.out]; decide
      clear HH HH2 HDG HSS
      go_enter Tryd.func47, Tryd.ntmps47
      go_wp2
      go_ret
      exact ⟨Rn.retI (by unfold two pairL; simp), rfl⟩
    by_cases h9 : c = 62 ∧ d = 58
    · obtain ⟨rfl, rfl⟩ := h9
      have g0 : (SS.toList == [61, 58]) = false := by rw [HSS.out]; decide
      have g1 : (SS.toList == [123, 123]) = false := by rw [HSS.out]; decide
      have g2 : (SS.toList == [125, 125]) = false := by rw [HSS.out]; decide
      have g3 : (SS.toList == [45, 46]) = false := by rw [HSS.out]; decide
      have g4 : (SS.toList == [124, 46]) = false := by rw [HSS.out]; decide
      have g5 : (SS.toList == [124, 58]) = false := by rw [HSS.out]; decide
      have g6 : (SS.toList == [60, 46]) = false := by rw [HSS.out]; decide
      have g7 : (SS.toList == [60, 58]) = false := by rw [HSS.out]; decide
      have g8 : (SS.toList == [62, 46]) = false := by rw [HSS.out]; decide
      have g9 : (SS.toList == [62, 58]) = true := by rw [HSS.out]; decide
      clear HH HH2 HDG HSS
      go_enter Tryd.func47, Tryd.ntmps47
      go_wp2
      go_ret
      exact ⟨Rn.retI (by unfold two pairL; simp), rfl⟩
    by_cases h10 : c = 126 ∧ d = 46
    · obtain ⟨rfl, rfl⟩ := h10
      have g0 : (SS.toList == [61, 58]) = false := by rw [HSS.out]; decide
      have g1 : (SS.toList == [123, 123]) = false := by rw [HSS.out]; decide
      have g2 : (SS.toList == [125, 125]) = false := by rw [HSS.out]; decide
      have g3 : (SS.toList == [45, 46]) = false := by rw [HSS.out]; decide
      have g4 : (SS.toList == [124, 46]) = false := by rw [HSS.out]; decide
      have g5 : (SS.toList == [124, 58]) = false := by rw [HSS.out]; decide
      have g6 : (SS.toList == [60, 46]) = false := by rw [HSS.out]; decide
      have g7 : (SS.toList == [60, 58]) = false := by rw [HSS.out]; decide
      have g8 : (SS.toList == [62, 46]) = false := by rw [HSS.out]; decide
      have g9 : (SS.toList == [62, 58]) = false := by rw [HSS.out]; decide
      have g10 : (SS.toList == [126, 46]) = true := by rw [HSS.out]; decide
      clear HH HH2 HDG HSS
      go_enter Tryd.func47, Tryd.ntmps47
      go_wp2
      go_ret
      exact ⟨Rn.retI (by unfold two pairL; simp), rfl⟩
    by_cases h11 : c = 126 ∧ d = 58
    · obtain ⟨rfl, rfl⟩ := h11
      have g0 : (SS.toList == [61, 58]) = false := by rw [HSS.out]; decide
      have g1 : (SS.toList == [123, 123]) = false := by rw [HSS.out]; decide
      have g2 : (SS.toList == [125, 125]) = false := by rw [HSS.out]; decide
      have g3 : (SS.toList == [45, 46]) = false := by rw [HSS.out]; decide
      have g4 : (SS.toList == [124, 46]) = false := by rw [HSS.out]; decide
      have g5 : (SS.toList == [124, 58]) = false := by rw [HSS.out]; decide
      have g6 : (SS.toList == [60, 46]) = false := by rw [HSS.out]; decide
      have g7 : (SS.toList == [60, 58]) = false := by rw [HSS.out]; decide
      have g8 : (SS.toList == [62, 46]) = false := by rw [HSS.out]; decide
      have g9 : (SS.toList == [62, 58]) = false := by rw [HSS.out]; decide
      have g10 : (SS.toList == [126, 46]) = false := by rw [HSS.out]; decide
      have g11 : (SS.toList == [126, 58]) = true := by rw [HSS.out]; decide
      clear HH HH2 HDG HSS
      go_enter Tryd.func47, Tryd.ntmps47
      go_wp2
      go_ret
      exact ⟨Rn.retI (by unfold two pairL; simp), rfl⟩
    by_cases h12 : c = 44 ∧ d = 58
    · obtain ⟨rfl, rfl⟩ := h12
      have g0 : (SS.toList == [61, 58]) = false := by rw [HSS.out]; decide
      have g1 : (SS.toList == [123, 123]) = false := by rw [HSS.out]; decide
      have g2 : (SS.toList == [125, 125]) = false := by rw [HSS.out]; decide
      have g3 : (SS.toList == [45, 46]) = false := by rw [HSS.out]; decide
      have g4 : (SS.toList == [124, 46]) = false := by rw [HSS.out]; decide
      have g5 : (SS.toList == [124, 58]) = false := by rw [HSS.out]; decide
      have g6 : (SS.toList == [60, 46]) = false := by rw [HSS.out]; decide
      have g7 : (SS.toList == [60, 58]) = false := by rw [HSS.out]; decide
      have g8 : (SS.toList == [62, 46]) = false := by rw [HSS.out]; decide
      have g9 : (SS.toList == [62, 58]) = false := by rw [HSS.out]; decide
      have g10 : (SS.toList == [126, 46]) = false := by rw [HSS.out]; decide
      have g11 : (SS.toList == [126, 58]) = false := by rw [HSS.out]; decide
      have g12 : (SS.toList == [44, 58]) = true := by rw [HSS.out]; decide
      clear HH HH2 HDG HSS
      go_enter Tryd.func47, Tryd.ntmps47
      go_wp2
      go_ret
      exact ⟨Rn.retI (by unfold two pairL; simp), rfl⟩
    by_cases h13 : c = 47 ∧ d = 58
    · obtain ⟨rfl, rfl⟩ := h13
      have g0 : (SS.toList == [61, 58]) = false := by rw [HSS.out]; decide
      have g1 : (SS.toList == [123, 123]) = false := by rw [HSS.out]; decide
      have g2 : (SS.toList == [125, 125]) = false := by rw [HSS.out]; decide
      have g3 : (SS.toList == [45, 46]) = false := by rw [HSS.out]; decide
      have g4 : (SS.toList == [124, 46]) = false := by rw [HSS.out]; decide
      have g5 : (SS.toList == [124, 58]) = false := by rw [HSS.out]; decide
      have g6 : (SS.toList == [60, 46]) = false := by rw [HSS.out]; decide
      have g7 : (SS.toList == [60, 58]) = false := by rw [HSS.out]; decide
      have g8 : (SS.toList == [62, 46]) = false := by rw [HSS.out]; decide
      have g9 : (SS.toList == [62, 58]) = false := by rw [HSS.out]; decide
      have g10 : (SS.toList == [126, 46]) = false := by rw [HSS.out]; decide
      have g11 : (SS.toList == [126, 58]) = false := by rw [HSS.out]; decide
      have g12 : (SS.toList == [44, 58]) = false := by rw [HSS.out]; decide
      have g13 : (SS.toList == [47, 58]) = true := by rw [HSS.out]; decide
      clear HH HH2 HDG HSS
      go_enter Tryd.func47, Tryd.ntmps47
      go_wp2
      go_ret
      exact ⟨Rn.retI (by unfold two pairL; simp), rfl⟩
    by_cases h14 : c = 92 ∧ d = 58
    · obtain ⟨rfl, rfl⟩ := h14
      have g0 : (SS.toList == [61, 58]) = false := by rw [HSS.out]; decide
      have g1 : (SS.toList == [123, 123]) = false := by rw [HSS.out]; decide
      have g2 : (SS.toList == [125, 125]) = false := by rw [HSS.out]; decide
      have g3 : (SS.toList == [45, 46]) = false := by rw [HSS.out]; decide
      have g4 : (SS.toList == [124, 46]) = false := by rw [HSS.out]; decide
      have g5 : (SS.toList == [124, 58]) = false := by rw [HSS.out]; decide
      have g6 : (SS.toList == [60, 46]) = false := by rw [HSS.out]; decide
      have g7 : (SS.toList == [60, 58]) = false := by rw [HSS.out]; decide
      have g8 : (SS.toList == [62, 46]) = false := by rw [HSS.out]; decide
      have g9 : (SS.toList == [62, 58]) = false := by rw [HSS.out]; decide
      have g10 : (SS.toList == [126, 46]) = false := by rw [HSS.out]; decide
      have g11 : (SS.toList == [126, 58]) = false := by rw [HSS.out]; decide
      have g12 : (SS.toList == [44, 58]) = false := by rw [HSS.out]; decide
      have g13 : (SS.toList == [47, 58]) = false := by rw [HSS.out]; decide
      have g14 : (SS.toList == [92, 58]) = true := by rw [HSS.out]; decide
      clear HH HH2 HDG HSS
      go_enter Tryd.func47, Tryd.ntmps47
      go_wp2
      go_ret
      exact ⟨Rn.retI (by unfold two pairL; simp), rfl⟩
    by_cases h15 : c = 123 ∧ d = 46
    · obtain ⟨rfl, rfl⟩ := h15
      have g0 : (SS.toList == [61, 58]) = false := by rw [HSS.out]; decide
      have g1 : (SS.toList == [123, 123]) = false := by rw [HSS.out]; decide
      have g2 : (SS.toList == [125, 125]) = false := by rw [HSS.out]; decide
      have g3 : (SS.toList == [45, 46]) = false := by rw [HSS.out]; decide
      have g4 : (SS.toList == [124, 46]) = false := by rw [HSS.out]; decide
      have g5 : (SS.toList == [124, 58]) = false := by rw [HSS.out]; decide
      have g6 : (SS.toList == [60, 46]) = false := by rw [HSS.out]; decide
      have g7 : (SS.toList == [60, 58]) = false := by rw [HSS.out]; decide
      have g8 : (SS.toList == [62, 46]) = false := by rw [HSS.out]; decide
      have g9 : (SS.toList == [62, 58]) = false := by rw [HSS.out]; decide
      have g10 : (SS.toList == [126, 46]) = false := by rw [HSS.out]; decide
      have g11 : (SS.toList == [126, 58]) = false := by rw [HSS.out]; decide
      have g12 : (SS.toList == [44, 58]) = false := by rw [HSS.out]; decide
      have g13 : (SS.toList == [47, 58]) = false := by rw [HSS.out]; decide
      have g14 : (SS.toList == [92, 58]) = false := by rw [HSS.out]; decide
      have g15 : (SS.toList == [123, 46]) = true := by rw [HSS.out]; decide
      clear HH HH2 HDG HSS
      go_enter Tryd.func47, Tryd.ntmps47
      go_wp2
      go_ret
      exact ⟨Rn.retI (by unfold two pairL; simp), rfl⟩
    by_cases h16 : c = 125 ∧ d = 46
    · obtain ⟨rfl, rfl⟩ := h16
      have g0 : (SS.toList == [61, 58]) = false := by rw [HSS.out]; decide
      have g1 : (SS.toList == [123, 123]) = false := by rw [HSS.out]; decide
      have g2 : (SS.toList == [125, 125]) = false := by rw [HSS.out]; decide
      have g3 : (SS.toList == [45, 46]) = false := by rw [HSS.out]; decide
      have g4 : (SS.toList == [124, 46]) = false := by rw [HSS.out]; decide
      have g5 : (SS.toList == [124, 58]) = false := by rw [HSS.out]; decide
      have g6 : (SS.toList == [60, 46]) = false := by rw [HSS.out]; decide
      have g7 : (SS.toList == [60, 58]) = false := by rw [HSS.out]; decide
      have g8 : (SS.toList == [62, 46]) = false := by rw [HSS.out]; decide
      have g9 : (SS.toList == [62, 58]) = false := by rw [HSS.out]; decide
      have g10 : (SS.toList == [126, 46]) = false := by rw [HSS.out]; decide
      have g11 : (SS.toList == [126, 58]) = false := by rw [HSS.out]; decide
      have g12 : (SS.toList == [44, 58]) = false := by rw [HSS.out]; decide
      have g13 : (SS.toList == [47, 58]) = false := by rw [HSS.out]; decide
      have g14 : (SS.toList == [92, 58]) = false := by rw [HSS.out]; decide
      have g15 : (SS.toList == [123, 46]) = false := by rw [HSS.out]; decide
      have g16 : (SS.toList == [125, 46]) = true := by rw [HSS.out]; decide
      clear HH HH2 HDG HSS
      go_enter Tryd.func47, Tryd.ntmps47
      go_wp2
      go_ret
      exact ⟨Rn.retI (by unfold two pairL; simp), rfl⟩
    by_cases h17 : c = 94 ∧ d = 58
    · obtain ⟨rfl, rfl⟩ := h17
      have g0 : (SS.toList == [61, 58]) = false := by rw [HSS.out]; decide
      have g1 : (SS.toList == [123, 123]) = false := by rw [HSS.out]; decide
      have g2 : (SS.toList == [125, 125]) = false := by rw [HSS.out]; decide
      have g3 : (SS.toList == [45, 46]) = false := by rw [HSS.out]; decide
      have g4 : (SS.toList == [124, 46]) = false := by rw [HSS.out]; decide
      have g5 : (SS.toList == [124, 58]) = false := by rw [HSS.out]; decide
      have g6 : (SS.toList == [60, 46]) = false := by rw [HSS.out]; decide
      have g7 : (SS.toList == [60, 58]) = false := by rw [HSS.out]; decide
      have g8 : (SS.toList == [62, 46]) = false := by rw [HSS.out]; decide
      have g9 : (SS.toList == [62, 58]) = false := by rw [HSS.out]; decide
      have g10 : (SS.toList == [126, 46]) = false := by rw [HSS.out]; decide
      have g11 : (SS.toList == [126, 58]) = false := by rw [HSS.out]; decide
      have g12 : (SS.toList == [44, 58]) = false := by rw [HSS.out]; decide
      have g13 : (SS.toList == [47, 58]) = false := by rw [HSS.out]; decide
      have g14 : (SS.toList == [92, 58]) = false := by rw [HSS.out]; decide
      have g15 : (SS.toList == [123, 46]) = false := by rw [HSS.out]; decide
      have g16 : (SS.toList == [125, 46]) = false := by rw [HSS.out]; decide
      have g17 : (SS.toList == [94, 58]) = true := by rw [HSS.out]; decide
      clear HH HH2 HDG HSS
      go_enter Tryd.func47, Tryd.ntmps47
      go_wp2
      go_ret
      exact ⟨Rn.retI (by unfold two pairL; simp), rfl⟩
    have hb2 : ∀ z ∈ [c, d], Byte z := by intro z hz; simp at hz; rcases hz with rfl | rfl <;> assumption
    have g0 : (SS.toList == [61, 58]) = false := by rw [HSS.out]; exact list_ne (m := [61, 58]) hb2 (by intro z hz; simp at hz; unfold Byte; omega) (by decide) (fun e => h0 (by simpa using e))
    have g1 : (SS.toList == [123, 123]) = false := by rw [HSS.out]; exact list_ne (m := [123, 123]) hb2 (by intro z hz; simp at hz; unfold Byte; omega) (by decide) (fun e => h1 (by simpa using e))
    have g2 : (SS.toList == [125, 125]) = false := by rw [HSS.out]; exact list_ne (m := [125, 125]) hb2 (by intro z hz; simp at hz; unfold Byte; omega) (by decide) (fun e => h2 (by simpa using e))
    have g3 : (SS.toList == [45, 46]) = false := by rw [HSS.out]; exact list_ne (m := [45, 46]) hb2 (by intro z hz; simp at hz; unfold Byte; omega) (by decide) (fun e => h3 (by simpa using e))
    have g4 : (SS.toList == [124, 46]) = false := by rw [HSS.out]; exact list_ne (m := [124, 46]) hb2 (by intro z hz; simp at hz; unfold Byte; omega) (by decide) (fun e => h4 (by simpa using e))
    have g5 : (SS.toList == [124, 58]) = false := by rw [HSS.out]; exact list_ne (m := [124, 58]) hb2 (by intro z hz; simp at hz; unfold Byte; omega) (by decide) (fun e => h5 (by simpa using e))
    have g6 : (SS.toList == [60, 46]) = false := by rw [HSS.out]; exact list_ne (m := [60, 46]) hb2 (by intro z hz; simp at hz; unfold Byte; omega) (by decide) (fun e => h6 (by simpa using e))
    have g7 : (SS.toList == [60, 58]) = false := by rw [HSS.out]; exact list_ne (m := [60, 58]) hb2 (by intro z hz; simp at hz; unfold Byte; omega) (by decide) (fun e => h7 (by simpa using e))
    have g8 : (SS.toList == [62, 46]) = false := by rw [HSS.out]; exact list_ne (m := [62, 46]) hb2 (by intro z hz; simp at hz; unfold Byte; omega) (by decide) (fun e => h8 (by simpa using e))
    have g9 : (SS.toList == [62, 58]) = false := by rw [HSS.out]; exact list_ne (m := [62, 58]) hb2 (by intro z hz; simp at hz; unfold Byte; omega) (by decide) (fun e => h9 (by simpa using e))
    have g10 : (SS.toList == [126, 46]) = false := by rw [HSS.out]; exact list_ne (m := [126, 46]) hb2 (by intro z hz; simp at hz; unfold Byte; omega) (by decide) (fun e => h10 (by simpa using e))
    have g11 : (SS.toList == [126, 58]) = false := by rw [HSS.out]; exact list_ne (m := [126, 58]) hb2 (by intro z hz; simp at hz; unfold Byte; omega) (by decide) (fun e => h11 (by simpa using e))
    have g12 : (SS.toList == [44, 58]) = false := by rw [HSS.out]; exact list_ne (m := [44, 58]) hb2 (by intro z hz; simp at hz; unfold Byte; omega) (by decide) (fun e => h12 (by simpa using e))
    have g13 : (SS.toList == [47, 58]) = false := by rw [HSS.out]; exact list_ne (m := [47, 58]) hb2 (by intro z hz; simp at hz; unfold Byte; omega) (by decide) (fun e => h13 (by simpa using e))
    have g14 : (SS.toList == [92, 58]) = false := by rw [HSS.out]; exact list_ne (m := [92, 58]) hb2 (by intro z hz; simp at hz; unfold Byte; omega) (by decide) (fun e => h14 (by simpa using e))
    have g15 : (SS.toList == [123, 46]) = false := by rw [HSS.out]; exact list_ne (m := [123, 46]) hb2 (by intro z hz; simp at hz; unfold Byte; omega) (by decide) (fun e => h15 (by simpa using e))
    have g16 : (SS.toList == [125, 46]) = false := by rw [HSS.out]; exact list_ne (m := [125, 46]) hb2 (by intro z hz; simp at hz; unfold Byte; omega) (by decide) (fun e => h16 (by simpa using e))
    have g17 : (SS.toList == [94, 58]) = false := by rw [HSS.out]; exact list_ne (m := [94, 58]) hb2 (by intro z hz; simp at hz; unfold Byte; omega) (by decide) (fun e => h17 (by simpa using e))
    have hmem : ¬ (c, d) ∈ pairL := by
      unfold pairL
      simp
      omega
    by_cases hq : c = 34 ∧ d = 49
    · obtain ⟨rfl, rfl⟩ := hq
      have g99 : (SS.toList == [34, 49]) = true := by rw [HSS.out]; decide
      clear hb2 HSS hcb hdb hmem h0 h1 h2 h3 h4 h5 h6 h7 h8 h9 h10 h11 h12 h13 h14 h15 h16 h17
      by_cases h3 : N1 = 2
      · have hhd := HH2.out h3
        subst h3
        have hz0 : two 34 49 T = 4 := by unfold two; rw [hhd]; simp [pairL, dgB]
        rw [hz0]
        clear HH HH2 HDG hhd hz0
        go_enter Tryd.func47, Tryd.ntmps47
        go_wp2
        go_ret
        exact ⟨rfl, by first | rfl | simp⟩
      · obtain ⟨hcell, hhd⟩ := HH.out h3
        have h3' : ((N1 : Int) == 2) = false := beq_eq_false_iff_ne.2 (by omega)
        have HDC := hide (fun W => HDG.out x W)
        have hz0 : two 34 49 T = if dgB x then 0 else 4 := by
          unfold two
          rw [hhd]
          cases dgB x <;> simp [pairL]
        rw [hz0]
        clear HH HH2 HDG hhd hz0
        cases hdg : dgB x with
        | true =>
          rw [hdg] at HDC
          go_enter Tryd.func47, Tryd.ntmps47
          go_wp2_with fail
          refine (HDC.out _).mono ?_
          rintro e w1 ⟨rfl, hw1⟩
          have hw2 := hw1.symm
          subst hw2
          go_wp2
          go_ret
          exact ⟨rfl, rfl⟩
        | false =>
          rw [hdg] at HDC
          go_enter Tryd.func47, Tryd.ntmps47
          go_wp2_with fail
          refine (HDC.out _).mono ?_
          rintro e w1 ⟨rfl, hw1⟩
          have hw2 := hw1.symm
          subst hw2
          go_wp2
          go_ret
          exact ⟨rfl, rfl⟩
    · have g99 : (SS.toList == [34, 49]) = false := by rw [HSS.out]; exact list_ne (m := [34, 49]) hb2 (by intro z hz; simp at hz; unfold Byte; omega) (by decide) (fun e => hq (by simpa using e))
      have hz0 : two c d T = 0 := by
        unfold two
        rw [if_neg h0, if_neg h1, if_neg h2, if_neg hmem, if_neg (fun h => hq ⟨h.1, h.2.1⟩)]
      rw [hz0]
      clear hz0 HH HH2 HDG HSS hb2 hcb hdb hmem h0 hq h1 h2 h3 h4 h5 h6 h7 h8 h9 h10 h11 h12 h13 h14 h15 h16 h17
      go_enter Tryd.func47, Tryd.ntmps47
      go_wp2
      go_ret
      exact ⟨rfl, rfl⟩
  · have h1 : L - a = 1 := by omega
    have hk : kind2 (B.drop a) = 0 := by
      rw [drop_cons (by omega), List.drop_eq_nil_of_le (by omega)]
      rfl
    rw [hk, h1]
    clear hT
    go_enter Tryd.func47, Tryd.ntmps47
    go_wp2
    go_ret
    exact ⟨rfl, rfl⟩
set_option maxHeartbeats 4000000 in
theorem same39 {w : World} {b C L a : Nat} {B : List Int} (hT : Txt w b B) (hL : B.length = L) (hC : L ≤ C) (ha : a < L) :
    Calls Tryd.prog 41 #[.slice (some ⟨b, a, none⟩) (L - a) (C - a)] w fun e w' => e = .returned (.tuple #[.int .i64 (sameF (B.drop a)).1, .int .i64 ((sameF (B.drop a)).2 : Nat)]) ∧ Below w.heap.size w w' := by
  have hlen := hT.len
  rw [hL] at hlen
  have HK2 := hide (kindtwo47 hT hL hC ha)
  have HK1 := hide (kindone48 (B[a]?.getD 0) w)
  have hcell := hT.cell a (by omega)
  have hh : (B.drop a).headD 0 = B[a]?.getD 0 := by rw [drop_cons (by omega)]; rfl
  have hN1 : 1 ≤ L - a := by omega
  have hN2 : L - a ≤ 140737488355328 := by omega
  unfold sameF
  rw [hh]
  generalize kind2 (B.drop a) = k2 at *
  generalize hk1 : kind1 (B[a]?.getD 0) = k1 at *
  generalize B[a]?.getD 0 = c at *
  generalize L - a = N1 at *
  generalize C - a = K at *
  clear hT hL hC ha hh hk1 hlen
  by_cases h2 : k2 = 0
  · subst h2
    rw [if_neg (by simp)]
    by_cases h1 : k1 = 0
    · subst h1
      rw [if_neg (by simp)]
      go_enter Tryd.func41, Tryd.ntmps41
      go_wp2_with fail
      refine HK2.out.mono ?_
      rintro e w1 ⟨rfl, hw1⟩
      have hw2 := hw1.symm
      subst hw2
      go_wp2_with fail
      refine HK1.out.mono ?_
      rintro e w1 ⟨rfl, hw1⟩
      have hw2 := hw1.symm
      subst hw2
      go_wp2
      go_ret2
      exact ⟨rfl, Below.refl _ _⟩
    · have h1' : (k1 != 0) = true := bne_iff_ne.2 h1
      rw [if_pos h1]
      go_enter Tryd.func41, Tryd.ntmps41
      go_wp2_with fail
      refine HK2.out.mono ?_
      rintro e w1 ⟨rfl, hw1⟩
      have hw2 := hw1.symm
      subst hw2
      go_wp2_with fail
      refine HK1.out.mono ?_
      rintro e w1 ⟨rfl, hw1⟩
      have hw2 := hw1.symm
      subst hw2
      go_wp2
      go_ret2
      exact ⟨rfl, Below.refl _ _⟩
  · have h2' : (k2 != 0) = true := bne_iff_ne.2 h2
    rw [if_pos h2]
    go_enter Tryd.func41, Tryd.ntmps41
    go_wp2_with fail
    refine HK2.out.mono ?_
    rintro e w1 ⟨rfl, hw1⟩
    have hw2 := hw1.symm
    subst hw2
    go_wp2
    go_ret2
    exact ⟨rfl, Below.refl _ _⟩
end Go.Proofs.YtnndnjffnkhpdaaDoor
