/-
  The contract of layer 9's statements' own example (works).
-/
import Derived.Test.YtfhcdhkdcegieaaMtD
import Derived.Test.YtfhcdhkdcegieaaMtB
namespace Go.Proofs.Ytfhcdhkdcegieaa
open Go.ChangeShapes Go.WideShapes Go.ChangeAt Go.RowKit
set_option linter.unusedVariables false
set_option maxRecDepth 100000
/-- A step in whatever memory the call made: the meter goes on, nothing elder turns. -/
theorem Stepped.yes {w w' : World} {b base : Nat} {F U R : Int} {e : Ending} (h : Mt w b F U R) (hs : Stepped w b U F e w') (hU : U < F) (hb : base ≤ b) : e = .returned (.int .i64 0) ∧ Mt w' b F (U + 1) R ∧ Below base w w' := by
  rcases hs with ⟨_, he, w1, h1, rfl⟩ | ⟨h1, _⟩
  · exact ⟨he, (h.next h1 h.lt).take hU, (h1.mono (by have := h.lt; omega)).setCell (p := ⟨b, 1, none⟩) hb _⟩
  · omega
theorem Stepped.no {w w' : World} {b base : Nat} {F U R : Int} {e : Ending} (h : Mt w b F U R) (hs : Stepped w b U F e w') (hU : U = F) (hb : base ≤ b) : e = .returned (.int .i64 11) ∧ Mt w' b F U R ∧ Below base w w' := by
  rcases hs with ⟨h1, _⟩ | ⟨_, he, h1⟩
  · omega
  · exact ⟨he, h.next h1 h.lt, h1.mono (by have := h.lt; omega)⟩
theorem cnt_nums (n : Nat) (l : List Int) : cntA (n + 1) (numsA l) = l.length := by
  have hz : ∀ m, m ≤ l.length → sumN (fun i => sumN (fun k => cntA n (bAt (cAt (numCs 0 l) i).2.2 k)) (cAt (numCs 0 l) i).2.2.length) m = 0 := by
    intro m
    induction m with
    | zero => intro _; rfl
    | succ m ih =>
      intro hm
      simp only [sumN]
      rw [ih (by omega), numCs_at 0 l m (by omega)]
      rfl
  show (numCs 0 l).length + sumN (fun i => sumN (fun k => cntA n (bAt (cAt (numCs 0 l) i).2.2 k)) (cAt (numCs 0 l) i).2.2.length) (numCs 0 l).length = _
  rw [numCs_len, hz _ (Nat.le_refl _)]
  omega
theorem cnt_atom (n : Nat) (z : Int) : cntA (n + 1) (atomA z) = 1 := rfl
set_option maxHeartbeats 4000000 in
theorem works_any (w : World) : Calls Try.prog 12 #[] w fun e w' => e = .returned (.bool true) ∧ Below w.heap.size w w' := by
  have C0 := new7 (w := w) 1 2 (by omega) (by omega)
  rw [show pos 1 = 1 from rfl, show pos 2 = 2 from rfl] at C0
  go_enter Try.func12, Try.ntmps12
  go_wp2_with fail
  refine C0.mono ?_
  clear C0
  rintro e w1 ⟨⟨b, rfl, hb, hm⟩, hb1⟩
  have C1 := step10 hm
  have HM := hide (And.intro hm hb1)
  have HBB := hide hb
  clear hm hb1 hb
  go_wp2_with fail
  refine C1.mono ?_
  clear C1
  intro e w2 hs
  obtain ⟨rfl, hm, hb2⟩ := hs.yes HM.out.1 (by omega) HBB.out
  rw [show (0 : Int) + 1 = 1 from rfl] at hm
  have C2 := step10 hm
  have HM2 := hide (And.intro hm (HM.out.2.trans hb2))
  clear hm hb2 hs HM
  go_wp2_with fail
  refine C2.mono ?_
  clear C2
  intro e w3 hs
  obtain ⟨rfl, hm, hb2⟩ := hs.no HM2.out.1 rfl HBB.out
  have C3 := used11 hm
  rw [show (1 : Int) - 1 = 0 from rfl] at C3
  have HM3 := hide (And.intro hm (HM2.out.2.trans hb2))
  clear hm hb2 hs HM2
  go_wp2_with fail
  refine C3.mono ?_
  clear C3
  rintro e w4 ⟨rfl, hb4⟩
  have HM4 := hide (And.intro (HM3.out.1.next hb4 HM3.out.1.lt) (HM3.out.2.trans (hb4.mono HM3.out.2.size)))
  clear hb4 HM3
  have R := row_new w4 [1, 2, 3] 2 (0, 0) (by simp)
  have C5 := rnums_any 0 [1, 2, 3] _ 3 _ R (by simp)
  clear R
  go_wp2_with fail
  refine C5.mono ?_
  clear C5
  rintro e w5 ⟨⟨v5, rfl, hv5⟩, hb5⟩
  have HB5 : Hid (Below w4.heap.size w4 w5) := (one_alloc w4 _).trans (hb5.mono (one_alloc w4 _).size)
  have HM5 := hide (And.intro (HM4.out.1.next HB5.out HM4.out.1.lt) (HM4.out.2.trans (HB5.out.mono HM4.out.2.size)))
  have C6 := hold14 HM5.out.1 hv5 (by rw [cnt_nums]; simp)
  rw [cnt_nums, show holdE [(1 : Int), 2, 3].length 2 = 12 from rfl] at C6
  clear hb5 hv5 HM4 HB5
  go_wp2_with fail
  refine C6.mono ?_
  clear C6
  rintro e w6 ⟨rfl, hb6⟩
  have HB6 := hide (HM5.out.2.trans (hb6.mono HM5.out.2.size))
  have C7 := ratom_any 0 1 w6
  clear hb6 HM5
  go_wp2_with fail
  refine C7.mono ?_
  clear C7
  rintro e w7 ⟨⟨v7, rfl, hv7⟩, hb7⟩
  have HB7 := hide (HB6.out.trans (hb7.mono HB6.out.size))
  have C8 := mcells_any 1 _ _ _ _ hv7 (by rw [cnt_atom]; omega)
  rw [cnt_atom] at C8
  clear hb7 hv7 HB6
  go_wp2_with fail
  refine C8.mono ?_
  clear C8
  rintro e w8 ⟨rfl, hb8⟩
  have HB8 := hide (HB7.out.trans (hb8.mono HB7.out.size))
  clear hb8 HB7
  go_wp2
  go_ret
  exact ⟨rfl, HB8.out⟩
end Go.Proofs.Ytfhcdhkdcegieaa
