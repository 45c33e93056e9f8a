/-
  Words that are always the same: the contracts of One at a place of a text, and of same.
-/
import Derived.Test.YtljanfmmhglpiaaDoorLxG
import Derived.Test.YtljanfmmhglpiaaDoorOwnN
namespace Go.Proofs.YtljanfmmhglpiaaDoor
open Go.ChangeShapes Go.WideShapes Go.ChangeAt Go.RowKit
open Rn (Byte)
set_option maxRecDepth 100000
set_option linter.unusedVariables false
set_option linter.unusedSimpArgs false
theorem subA_at {b a C : Nat} (h : a < C) : subA (some ⟨b, 0, none⟩) a C 1 = some ⟨b, a, none⟩ := by
  unfold subA
  rw [if_neg (by omega)]
  simp [Addr.add] <;> omega
/-- The sign at the head, as One tells it. -/
def oneN (l : List Int) : Int := match oneF l with
  | none => 0
  | some r => r.1
def oneK (l : List Int) : Nat := match oneF l with
  | none => 0
  | some r => r.2
theorem one41 {w : World} {b L : Nat} {B : List Int} (hT : Txt w b B) (G : Glb w) (hL : B.length = L) (a m c : Nat) (hm : 0 < m) (ham : a + m ≤ L) :
    Calls Tryd.prog 41 #[.slice (some ⟨b, a, none⟩) m c] w fun e w' => e = .returned (.tuple #[.int .i64 (oneN ((B.drop a).take m)), .int .i64 (oneK ((B.drop a).take m) : Nat)]) ∧ w' = w := by
  have hlen := hT.len
  have hl : ((B.drop a).take m).length = m := by rw [List.length_take, List.length_drop]; omega
  have hB : ∀ z ∈ (B.drop a).take m, Byte z := fun z hz => hT.byte z (List.mem_of_mem_drop (List.mem_of_mem_take hz))
  have hc : ∀ i, i < m → w.cell? ⟨b, a + i, none⟩ = some (.int .u8 (((B.drop a).take m)[i]?.getD 0)) := by
    intro i hi
    rw [hT.cell (a + i) (by omega), List.getElem?_take, if_pos hi, List.getElem?_drop]
  generalize (B.drop a).take m = l at *
  unfold oneN oneK
  cases ho : oneF l with
  | some r =>
    obtain ⟨n, k⟩ := r
    obtain ⟨hg, hk, r, hr⟩ := oneF_some hB ho
    have := Rn.one_some l n r hg hr m hl b a c w G.tab hB (by omega) hc
    rw [hk]
    exact this
  | none =>
    have hns : Rn.NoSign l := by
      intro n r hn e
      rw [e, oneF_put hn] at ho
      cases ho
    exact Rn.one_zero l hns m hl hm b a c w G.tab hB (by omega) hc
set_option maxHeartbeats 4000000 in
theorem same40 (c : Int) (w : World) : Calls Tryd.prog 40 #[.int .u8 c] w fun e w' => e = .returned (.int .i64 (kind1 c)) ∧ w' = w := by
  by_cases h0 : c = 58
  · subst h0
    go_enter Tryd.func40, Tryd.ntmps40
    go_wp2
    go_ret
    exact ⟨Rn.retI (by decide), rfl⟩
  by_cases h1 : c = 40
  · subst h1
    go_enter Tryd.func40, Tryd.ntmps40
    go_wp2
    go_ret
    exact ⟨Rn.retI (by decide), rfl⟩
  by_cases h2 : c = 123
  · subst h2
    go_enter Tryd.func40, Tryd.ntmps40
    go_wp2
    go_ret
    exact ⟨Rn.retI (by decide), rfl⟩
  by_cases h3 : c = 91
  · subst h3
    go_enter Tryd.func40, Tryd.ntmps40
    go_wp2
    go_ret
    exact ⟨Rn.retI (by decide), rfl⟩
  by_cases h4 : c = 41
  · subst h4
    go_enter Tryd.func40, Tryd.ntmps40
    go_wp2
    go_ret
    exact ⟨Rn.retI (by decide), rfl⟩
  by_cases h5 : c = 125
  · subst h5
    go_enter Tryd.func40, Tryd.ntmps40
    go_wp2
    go_ret
    exact ⟨Rn.retI (by decide), rfl⟩
  by_cases h6 : c = 93
  · subst h6
    go_enter Tryd.func40, Tryd.ntmps40
    go_wp2
    go_ret
    exact ⟨Rn.retI (by decide), rfl⟩
  by_cases h7 : c = 43
  · subst h7
    go_enter Tryd.func40, Tryd.ntmps40
    go_wp2
    go_ret
    exact ⟨Rn.retI (by decide), rfl⟩
  by_cases h8 : c = 45
  · subst h8
    go_enter Tryd.func40, Tryd.ntmps40
    go_wp2
    go_ret
    exact ⟨Rn.retI (by decide), rfl⟩
  by_cases h9 : c = 42
  · subst h9
    go_enter Tryd.func40, Tryd.ntmps40
    go_wp2
    go_ret
    exact ⟨Rn.retI (by decide), rfl⟩
  by_cases h10 : c = 37
  · subst h10
    go_enter Tryd.func40, Tryd.ntmps40
    go_wp2
    go_ret
    exact ⟨Rn.retI (by decide), rfl⟩
  by_cases h11 : c = 38
  · subst h11
    go_enter Tryd.func40, Tryd.ntmps40
    go_wp2
    go_ret
    exact ⟨Rn.retI (by decide), rfl⟩
  by_cases h12 : c = 124
  · subst h12
    go_enter Tryd.func40, Tryd.ntmps40
    go_wp2
    go_ret
    exact ⟨Rn.retI (by decide), rfl⟩
  by_cases h13 : c = 60
  · subst h13
    go_enter Tryd.func40, Tryd.ntmps40
    go_wp2
    go_ret
    exact ⟨Rn.retI (by decide), rfl⟩
  by_cases h14 : c = 62
  · subst h14
    go_enter Tryd.func40, Tryd.ntmps40
    go_wp2
    go_ret
    exact ⟨Rn.retI (by decide), rfl⟩
  by_cases h15 : c = 61
  · subst h15
    go_enter Tryd.func40, Tryd.ntmps40
    go_wp2
    go_ret
    exact ⟨Rn.retI (by decide), rfl⟩
  by_cases h16 : c = 126
  · subst h16
    go_enter Tryd.func40, Tryd.ntmps40
    go_wp2
    go_ret
    exact ⟨Rn.retI (by decide), rfl⟩
  by_cases h17 : c = 33
  · subst h17
    go_enter Tryd.func40, Tryd.ntmps40
    go_wp2
    go_ret
    exact ⟨Rn.retI (by decide), rfl⟩
  by_cases h18 : c = 35
  · subst h18
    go_enter Tryd.func40, Tryd.ntmps40
    go_wp2
    go_ret
    exact ⟨Rn.retI (by decide), rfl⟩
  by_cases h19 : c = 95
  · subst h19
    go_enter Tryd.func40, Tryd.ntmps40
    go_wp2
    go_ret
    exact ⟨Rn.retI (by decide), rfl⟩
  by_cases h20 : c = 44
  · subst h20
    go_enter Tryd.func40, Tryd.ntmps40
    go_wp2
    go_ret
    exact ⟨Rn.retI (by decide), rfl⟩
  by_cases h21 : c = 94
  · subst h21
    go_enter Tryd.func40, Tryd.ntmps40
    go_wp2
    go_ret
    exact ⟨Rn.retI (by decide), rfl⟩
  by_cases h22 : c = 63
  · subst h22
    go_enter Tryd.func40, Tryd.ntmps40
    go_wp2
    go_ret
    exact ⟨Rn.retI (by decide), rfl⟩
  by_cases h23 : c = 64
  · subst h23
    go_enter Tryd.func40, Tryd.ntmps40
    go_wp2
    go_ret
    exact ⟨Rn.retI (by decide), rfl⟩
  by_cases h24 : c = 47
  · subst h24
    go_enter Tryd.func40, Tryd.ntmps40
    go_wp2
    go_ret
    exact ⟨Rn.retI (by decide), rfl⟩
  by_cases h25 : c = 92
  · subst h25
    go_enter Tryd.func40, Tryd.ntmps40
    go_wp2
    go_ret
    exact ⟨Rn.retI (by decide), rfl⟩
  have g0 : (c == 58) = false := beq_eq_false_iff_ne.2 h0
  have g1 : (c == 40) = false := beq_eq_false_iff_ne.2 h1
  have g2 : (c == 123) = false := beq_eq_false_iff_ne.2 h2
  have g3 : (c == 91) = false := beq_eq_false_iff_ne.2 h3
  have g4 : (c == 41) = false := beq_eq_false_iff_ne.2 h4
  have g5 : (c == 125) = false := beq_eq_false_iff_ne.2 h5
  have g6 : (c == 93) = false := beq_eq_false_iff_ne.2 h6
  have g7 : (c == 43) = false := beq_eq_false_iff_ne.2 h7
  have g8 : (c == 45) = false := beq_eq_false_iff_ne.2 h8
  have g9 : (c == 42) = false := beq_eq_false_iff_ne.2 h9
  have g10 : (c == 37) = false := beq_eq_false_iff_ne.2 h10
  have g11 : (c == 38) = false := beq_eq_false_iff_ne.2 h11
  have g12 : (c == 124) = false := beq_eq_false_iff_ne.2 h12
  have g13 : (c == 60) = false := beq_eq_false_iff_ne.2 h13
  have g14 : (c == 62) = false := beq_eq_false_iff_ne.2 h14
  have g15 : (c == 61) = false := beq_eq_false_iff_ne.2 h15
  have g16 : (c == 126) = false := beq_eq_false_iff_ne.2 h16
  have g17 : (c == 33) = false := beq_eq_false_iff_ne.2 h17
  have g18 : (c == 35) = false := beq_eq_false_iff_ne.2 h18
  have g19 : (c == 95) = false := beq_eq_false_iff_ne.2 h19
  have g20 : (c == 44) = false := beq_eq_false_iff_ne.2 h20
  have g21 : (c == 94) = false := beq_eq_false_iff_ne.2 h21
  have g22 : (c == 63) = false := beq_eq_false_iff_ne.2 h22
  have g23 : (c == 64) = false := beq_eq_false_iff_ne.2 h23
  have g24 : (c == 47) = false := beq_eq_false_iff_ne.2 h24
  have g25 : (c == 92) = false := beq_eq_false_iff_ne.2 h25
  have hk : kind1 c = 0 := by unfold kind1 oneL; rw [if_neg h0, if_neg (by omega), if_neg (by omega), if_neg (by simp; omega)]
  rw [hk]
  clear hk h0 h1 h2 h3 h4 h5 h6 h7 h8 h9 h10 h11 h12 h13 h14 h15 h16 h17 h18 h19 h20 h21 h22 h23 h24 h25
  go_enter Tryd.func40, Tryd.ntmps40
  go_wp2
  go_ret
  exact ⟨rfl, rfl⟩
theorem str_lit (l : List Int) (s : ByteArray) (h : s.data.toList = Lib.bytesOf l) : strOfNums l = s := by
  have h2 := str_data l
  cases hs : s with
  | mk d =>
    cases ht : strOfNums l with
    | mk d' =>
      rw [hs] at h
      rw [ht] at h2
      congr 1
      exact Array.toList_inj.1 (h2.trans h.symm)
theorem list_ne {l m : List Int} {s : List UInt8} (hl : ∀ z ∈ l, Byte z) (hm : ∀ z ∈ m, Byte z) (h : s = Lib.bytesOf m) (hne : ¬ l = m) : (Lib.bytesOf l == s) = false := by
  rw [beq_eq_false_iff_ne]
  intro e
  exact hne (bytes_inj hl hm (e.trans h))
end Go.Proofs.YtljanfmmhglpiaaDoor
