/-
  The contracts of layer 4's copyShape and Agree, and of the document's Ints and Agree; for all shapes.
-/
import Derived.Test.YtkigfmfegldhcaaDoorAtB
namespace Go.Proofs.YtkigfmfegldhcaaDoor
open Go.ChangeShapes Go.WideShapes Go.ChangeAt Go.RowKit
set_option linter.unusedVariables false
/-- What a row tells of the cells to be copied. -/
theorem Row.src {lo : Nat} {w W : World} {a : Option Addr} {l : List Int} (R : Row lo w a l) (hb : Below w.heap.size w W) :
    0 < (l.map (Value.int .i64)).length → ∃ ad, a = some ad ∧ ∀ j v, (l.map (Value.int .i64))[j]? = some v → W.cell? (ad.add j) = some v := by
  intro h0
  rcases R.2 with h | ⟨b, off, ha, hlo, hbb, hcell⟩
  · rw [h] at h0; simp at h0
  · refine ⟨⟨b, off, none⟩, ha, fun j v hv => ?_⟩
    have hj : j < l.length := by
      rcases Nat.lt_or_ge j l.length with h' | h'
      · exact h'
      · simp [List.getElem?_eq_none h'] at hv
    rw [add_off]
    refine (hb.cell (p := ⟨b, off + j, none⟩) hbb).trans ((hcell j hj).trans ?_)
    rw [List.getElem?_map, List.getElem?_eq_getElem hj] at hv
    rw [List.getElem?_eq_getElem hj]
    simpa using hv
set_option maxHeartbeats 1000000 in
theorem copyShape_any {lo : Nat} (l : List Int) (k : Nat) (hk : l.length = k) (h8 : k ≤ 17592186044416) (a : Option Addr) (cap : Nat) (w : World) (R : Row lo w a l) :
    Calls Tryd.prog 29 #[.slice a k cap] w fun e w' => (∃ b, e = .returned (.slice (some ⟨b, 0, none⟩) k k) ∧ Row w.heap.size w' (some ⟨b, 0, none⟩) l) ∧ Below w.heap.size w w' := by
  have hl := R.1
  rw [hk] at hl
  have mk1 := run_make_row' (P := Tryd.prog) 22 3 (.int .i64 0) 8 Tryd.underlying22 int3 rfl .i64 .i64 k (by omega) (by omega)
  obtain ⟨W, eW⟩ : ∃ W, W = w.alloc (.cells (madeCells #[.int .i64 0] k) 3) := ⟨_, rfl⟩
  have BW : Below w.heap.size w W := by rw [eW]; exact one_alloc _ _
  have sW : W.heap.size = w.heap.size + 1 := by rw [eW]; simp
  have RB : W.rowIs w.heap.size 3 k (fun _ => .int .i64 0) := by
    rw [eW]
    exact ⟨madeCells #[.int .i64 0] k, by show (w.heap.push _)[w.heap.size]? = _; simp, size_madeCells _ _, fun i hi => by simp [madeCells, hi, Nat.mod_one]⟩
  have hml : (l.map (Value.int .i64)).length = k := by rw [List.length_map]; exact hk
  have HC1 : ∀ j, j < (l.map (Value.int .i64)).length → (W.cell? ⟨w.heap.size, 0 + j, none⟩).isSome = true := by
    intro j hj
    rw [Nat.zero_add, RB.cell (by omega)]; rfl
  have hrun := run_copy_any (P := Tryd.prog) (w := W) 3 Tryd.underlying22 size3 w.heap.size k k a cap (l.map (Value.int .i64)) hml (R.src BW) HC1
    (fun j hj => by rw [Nat.zero_add]; exact RB.frozen j) (fun v hv => by obtain ⟨z, _, rfl⟩ := List.mem_map.1 hv; rfl)
  have SIN := World.cell?_setCells_in w.heap.size (l.map (Value.int .i64)) 0 W HC1
  have BB := below_setCells w.heap.size (Nat.le_refl w.heap.size) (l.map (Value.int .i64)) 0 W BW
  have SB := (setCells_block w.heap.size (l.map (Value.int .i64)) 0 W).1
  have HR : Hid (Row w.heap.size (W.setCells w.heap.size 0 (l.map (Value.int .i64))) (some ⟨w.heap.size, 0, none⟩) l) := by
    refine ⟨by omega, Or.inr ⟨w.heap.size, 0, rfl, Nat.le_refl _, by rw [SB, sW]; omega, fun i hi => ?_⟩⟩
    have := SIN i (by simpa using hi)
    rw [this]
    simp [hi]
  have HB := hide BB
  generalize W.setCells w.heap.size 0 (l.map (Value.int .i64)) = w3 at *
  rw [eW] at hrun
  clear R BW sW RB hml HC1 SIN BB SB hk eW
  go_enter Tryd.func29, Tryd.ntmps29
  go_wp2
  go_ret
  exact ⟨⟨_, rfl, HR.out⟩, HB.out⟩
theorem same_upto (l m : List Int) (h : l.length = m.length) (hi : ∀ i : Nat, i < l.length → l[i]?.getD 0 = m[i]?.getD 0) : l = m := by
  apply List.ext_getElem? fun i => ?_
  by_cases hl : i < l.length
  · have := hi i hl
    rw [List.getElem?_eq_getElem hl, List.getElem?_eq_getElem (h ▸ hl)] at this ⊢
    simpa using this
  · rw [List.getElem?_eq_none (by omega), List.getElem?_eq_none (by omega)]
set_option maxHeartbeats 1000000 in
theorem rints_any {lo lo' : Nat} (l m : List Int) (n1 n2 : Nat) (e1 : l.length = n1) (e2 : m.length = n2) (a a' : Option Addr) (cap cap' : Nat) (w : World) (R : Row lo w a l) (R' : Row lo' w a' m) :
    Calls Tryd.prog 22 #[.slice a n1 cap, .slice a' n2 cap'] w fun e w' => e = .returned (.bool (decide (l = m))) ∧ Below w.heap.size w w' := by
  by_cases hn : n1 = n2
  · subst hn
    have hl := R.1
    rw [e1] at hl
    have hrow : ∀ j, j < n1 → ∃ b off, a = some ⟨b, off, none⟩ ∧ b < w.heap.size ∧ w.cell? ⟨b, off + j, none⟩ = some (.int .i64 (l[j]?.getD 0)) := fun j hj => row_at R (by omega)
    have hrow' : ∀ j, j < n1 → ∃ b off, a' = some ⟨b, off, none⟩ ∧ b < w.heap.size ∧ w.cell? ⟨b, off + j, none⟩ = some (.int .i64 (m[j]?.getD 0)) := fun j hj => row_at R' (by omega)
    have HEND : Hid ((∀ i : Nat, i < n1 → l[i]?.getD 0 = m[i]?.getD 0) → decide (l = m) = true) := fun h => decide_eq_true (same_upto l m (by omega) (fun i hi => h i (by omega)))
    have HNE : Hid (∀ j : Nat, l[j]?.getD 0 ≠ m[j]?.getD 0 → decide (l = m) = false) := fun j h => decide_eq_false fun he => h (by rw [he])
    generalize decide (l = m) = r at HEND HNE ⊢
    have H1 := hide hrow
    have H2 := hide hrow'
    clear R R' hrow hrow' e1 e2
    go_enter Tryd.func22, Tryd.ntmps22
    go_wp2
    go_loopw [5] (fun i wr => ∃ j : Nat, j ≤ n1 ∧ i = .int .i64 j ∧ Below w.heap.size w wr ∧ ∀ i : Nat, i < j → l[i]?.getD 0 = m[i]?.getD 0) (fun i _ => n1 - (intOf i).toNat)
    case atStart => exact ⟨0, Nat.zero_le _, rfl, Below.refl _ _, fun i hi => absurd hi (by omega)⟩
    case round =>
      obtain ⟨j, hj, rfl, hnx, hsame⟩ := hrel
      have HS := hide hsame
      clear hsame
      by_cases hlt : j < n1
      · obtain ⟨b, off, ha, hb, hck⟩ := H1.out j hlt
        obtain ⟨b', off', ha', hb', hck'⟩ := H2.out j hlt
        subst ha
        subst ha'
        have hc1 : wr.cell? ⟨b, off + j, none⟩ = some (.int .i64 (l[j]?.getD 0)) := (hnx.cell (p := ⟨b, off + j, none⟩) hb).trans hck
        have hc2 : wr.cell? ⟨b', off' + j, none⟩ = some (.int .i64 (m[j]?.getD 0)) := (hnx.cell (p := ⟨b', off' + j, none⟩) hb').trans hck'
        by_cases hz : l[j]?.getD 0 = m[j]?.getD 0
        · have HZ : Hid (∀ i : Nat, i < j + 1 → l[i]?.getD 0 = m[i]?.getD 0) := fun i hi => by
            rcases Nat.lt_succ_iff_lt_or_eq.1 hi with h | rfl
            · exact HS.out i h
            · exact hz
          rw [hz] at hc1
          generalize m[j]?.getD 0 = z at hc1 hc2
          clear hck hck' hz H1 H2 HEND HNE
          go_wp2
          go_region
          all_goals go_wp2
          all_goals go_roundw
          case rel => exact ⟨j + 1, by omega, by go_num, hnx.drew, HZ.out⟩
          case measure => simp [intOf]; omega
        · have HR := hide (HNE.out j hz)
          generalize m[j]?.getD 0 = z at hc1 hc2 hz
          generalize l[j]?.getD 0 = y at hc1 hc2 hz
          clear hck hck' H1 H2 HEND HNE
          go_wp2
          go_region
          all_goals go_wp2
          all_goals go_ret
          all_goals exact ⟨retB HR.out.symm, hnx.drew⟩
      · have hje : j = n1 := by omega
        subst hje
        go_wp2
        go_ret
        exact ⟨retB (HEND.out HS.out).symm, hnx⟩
  · have e : decide (l = m) = false := decide_eq_false fun h => hn (by rw [← e1, ← e2, h])
    rw [e]
    clear e R R' e1 e2
    have hne : ((n1 : Int) == (n2 : Int)) = false := beq_eq_false_iff_ne.2 (by omega)
    go_enter Tryd.func22, Tryd.ntmps22
    go_wp2
    go_ret
    exact ⟨rfl, Below.refl _ _⟩
theorem ret2' {u v : Value} {k : IntKind} {a b : Int} (h : u = v) (h' : a = b) : Ending.returned (.tuple #[u, .int k a]) = .returned (.tuple #[v, .int k b]) := by rw [h, h']
/-- A call that hands back numbers and an error's number. -/
def GivesL (lo : Nat) (l : List Int) (u : Int) (w : World) (e : Ending) (w' : World) : Prop := (∃ a n c, e = .returned (.tuple #[.slice a n c, .int .i64 u]) ∧ l.length = n ∧ Row lo w' a l) ∧ Below w.heap.size w w'
theorem agr_nilL (m : List Int) : agrE [] m = 0 ∧ agrL [] m = m := by simp [agrE, agrL]
theorem agr_nilR {l : List Int} (h : l ≠ []) : agrE l [] = 0 ∧ agrL l [] = l := by simp [agrE, agrL, h]
theorem agr_rank {l m : List Int} (h1 : l ≠ []) (h2 : m ≠ []) (h : l.length ≠ m.length) : agrE l m = 6 ∧ agrL l m = [] := by
  have : l ≠ m := fun e => h (by rw [e])
  simp [agrE, agrL, h1, h2, h, this]
theorem agr_len {l m : List Int} (h1 : l ≠ []) (h2 : m ≠ []) (h : l.length = m.length) (hn : l ≠ m) : agrE l m = 7 ∧ agrL l m = [] := by
  simp [agrE, agrL, h1, h2, h, hn]
theorem agr_same {l : List Int} (h1 : l ≠ []) : agrE l l = 0 ∧ agrL l l = l := by simp [agrE, agrL, h1]
theorem ne_nil {l : List Int} (h : 0 < l.length) : l ≠ [] := fun e => by rw [e] at h; simp at h
set_option maxHeartbeats 2000000 in
theorem agree_any {lo lo' : Nat} (l m : List Int) (n1 n2 : Nat) (e1 : l.length = n1) (e2 : m.length = n2) (h8 : n1 ≤ 17592186044416) (h8' : n2 ≤ 17592186044416) (a a' : Option Addr) (cap cap' : Nat) (w : World) (R : Row lo w a l) (R' : Row lo' w a' m) :
    Calls Tryd.prog 20 #[.slice a n1 cap, .slice a' n2 cap'] w fun e w' => GivesL w.heap.size (agrL l m) (agrE l m) w e w' := by
  have C1 := hide (fun W (hb : Below w.heap.size w W) => copyShape_any l n1 e1 h8 a cap W (R.next hb))
  have C2 := hide (copyShape_any m n2 e2 h8' a' cap' w R')
  by_cases z1 : n1 = 0
  · subst z1
    obtain rfl : l = [] := List.eq_nil_of_length_eq_zero e1
    rw [(agr_nilL m).1, (agr_nilL m).2]
    clear C1 R R'
    go_enter Tryd.func20, Tryd.ntmps20
    go_wp2_with fail
    refine C2.out.mono ?_
    rintro e w1 ⟨⟨b, rfl, hR⟩, hb⟩
    go_wp2
    go_ret2
    exact ⟨⟨_, _, _, rfl, e2, hR⟩, hb⟩
  · have g1 : ((n1 : Int) == 0) = false := beq_eq_false_iff_ne.2 (by omega)
    have hl1 : l ≠ [] := ne_nil (by omega)
    by_cases z2 : n2 = 0
    · subst z2
      obtain rfl : m = [] := List.eq_nil_of_length_eq_zero e2
      rw [(agr_nilR hl1).1, (agr_nilR hl1).2]
      clear C2 R R'
      go_enter Tryd.func20, Tryd.ntmps20
      go_wp2_with fail
      refine (C1.out _ (Below.refl _ _)).mono ?_
      rintro e w1 ⟨⟨b, rfl, hR⟩, hb⟩
      go_wp2
      go_ret2
      exact ⟨⟨_, _, _, rfl, e1, hR⟩, hb⟩
    · have g2 : ((n2 : Int) == 0) = false := beq_eq_false_iff_ne.2 (by omega)
      have hl2 : m ≠ [] := ne_nil (by omega)
      by_cases z3 : n1 = n2
      · subst z3
        have hl := R.1
        rw [e1] at hl
        have hrow : ∀ j, j < n1 → ∃ b off, a = some ⟨b, off, none⟩ ∧ b < w.heap.size ∧ w.cell? ⟨b, off + j, none⟩ = some (.int .i64 (l[j]?.getD 0)) := fun j hj => row_at R (by omega)
        have hrow' : ∀ j, j < n1 → ∃ b off, a' = some ⟨b, off, none⟩ ∧ b < w.heap.size ∧ w.cell? ⟨b, off + j, none⟩ = some (.int .i64 (m[j]?.getD 0)) := fun j hj => row_at R' (by omega)
        have HEND : Hid ((∀ i : Nat, i < n1 → l[i]?.getD 0 = m[i]?.getD 0) → agrE l m = 0 ∧ agrL l m = l) := fun h => by
          have : l = m := same_upto l m (by omega) (fun i hi => h i (by omega))
          rw [← this]; exact agr_same hl1
        have HNE : Hid (∀ j : Nat, l[j]?.getD 0 ≠ m[j]?.getD 0 → agrE l m = 7 ∧ agrL l m = []) := fun j h => agr_len hl1 hl2 (by omega) fun he => h (by rw [he])
        generalize agrE l m = r at HEND HNE ⊢
        generalize agrL l m = r2 at HEND HNE ⊢
        have H1 := hide hrow
        have H2 := hide hrow'
        clear R R' hrow hrow' C2 e2 hl1 hl2 g2 z1 z2
        have E1 := hide e1
        clear e1
        go_enter Tryd.func20, Tryd.ntmps20
        go_wp2
        go_loopw [28] (fun i wr => ∃ j : Nat, j ≤ n1 ∧ i = .int .i64 j ∧ wr = w ∧ ∀ i : Nat, i < j → l[i]?.getD 0 = m[i]?.getD 0) (fun i _ => n1 - (intOf i).toNat)
        case atStart => exact ⟨0, Nat.zero_le _, rfl, rfl, fun i hi => absurd hi (by omega)⟩
        case round =>
          obtain ⟨j, hj, rfl, rfl, hsame⟩ := hrel
          have HS := hide hsame
          clear hsame
          by_cases hlt : j < n1
          · obtain ⟨b, off, ha, hb, hck⟩ := H1.out j hlt
            obtain ⟨b', off', ha', hb', hck'⟩ := H2.out j hlt
            subst ha
            subst ha'
            by_cases hz : l[j]?.getD 0 = m[j]?.getD 0
            · have HZ : Hid (∀ i : Nat, i < j + 1 → l[i]?.getD 0 = m[i]?.getD 0) := fun i hi => by
                rcases Nat.lt_succ_iff_lt_or_eq.1 hi with h | rfl
                · exact HS.out i h
                · exact hz
              rw [hz] at hck
              generalize m[j]?.getD 0 = z at hck hck'
              clear hz H1 H2 HEND HNE
              go_wp2
              go_roundw
              case rel => exact ⟨j + 1, by omega, by go_num, by first | rfl | trivial, HZ.out⟩
              case measure => simp [intOf]; omega
            · have HR := hide (HNE.out j hz)
              generalize m[j]?.getD 0 = z at hck hck' hz
              generalize l[j]?.getD 0 = y at hck hck' hz
              clear H1 H2 HEND HNE
              go_wp2
              go_ret2
              exact ⟨⟨_, _, _, ret2' rfl HR.out.1.symm, by rw [HR.out.2]; rfl, by rw [HR.out.2]; exact row_nil _ _ _⟩, Below.refl _ _⟩
          · have hje : j = n1 := by omega
            subst hje
            have HE := hide (HEND.out HS.out)
            clear HEND HS HNE H1 H2
            go_wp2_with fail
            refine (C1.out _ (Below.refl _ _)).mono ?_
            rintro e w1 ⟨⟨b, rfl, hR⟩, hb⟩
            go_wp2
            go_ret2
            exact ⟨⟨_, _, _, ret2' rfl HE.out.1.symm, by rw [HE.out.2]; exact E1.out, by rw [HE.out.2]; exact hR⟩, hb⟩
      · have g3 : ((n1 : Int) == (n2 : Int)) = false := beq_eq_false_iff_ne.2 (by omega)
        have hr := agr_rank hl1 hl2 (by omega)
        rw [hr.1, hr.2]
        clear hr R R' C1 C2 e1 e2 hl1 hl2
        go_enter Tryd.func20, Tryd.ntmps20
        go_wp2
        go_ret2
        exact ⟨⟨_, _, _, rfl, rfl, row_nil _ _ _⟩, Below.refl _ _⟩
set_option maxHeartbeats 2000000 in
theorem ragree_any {lo lo' : Nat} (l m : List Int) (n1 n2 : Nat) (e1 : l.length = n1) (e2 : m.length = n2) (a a' : Option Addr) (cap cap' : Nat) (w : World) (R : Row lo w a l) (R' : Row lo' w a' m) :
    Calls Tryd.prog 21 #[.slice a n1 cap, .slice a' n2 cap'] w fun e w' => GivesL 0 (agrL l m) (agrE l m) w e w' := by
  by_cases z1 : n1 = 0
  · subst z1
    obtain rfl : l = [] := List.eq_nil_of_length_eq_zero e1
    rw [(agr_nilL m).1, (agr_nilL m).2]
    have HR := hide (R'.low (Nat.zero_le _))
    clear R R'
    go_enter Tryd.func21, Tryd.ntmps21
    go_wp2
    go_ret2
    exact ⟨⟨_, _, _, rfl, e2, HR.out⟩, Below.refl _ _⟩
  · have g1 : ((n1 : Int) == 0) = false := beq_eq_false_iff_ne.2 (by omega)
    have hl1 : l ≠ [] := ne_nil (by omega)
    by_cases z2 : n2 = 0
    · subst z2
      obtain rfl : m = [] := List.eq_nil_of_length_eq_zero e2
      rw [(agr_nilR hl1).1, (agr_nilR hl1).2]
      have HR := hide (R.low (Nat.zero_le _))
      clear R R'
      go_enter Tryd.func21, Tryd.ntmps21
      go_wp2
      go_ret2
      exact ⟨⟨_, _, _, rfl, e1, HR.out⟩, Below.refl _ _⟩
    · have g2 : ((n2 : Int) == 0) = false := beq_eq_false_iff_ne.2 (by omega)
      have hl2 : m ≠ [] := ne_nil (by omega)
      by_cases z3 : n1 = n2
      · subst z3
        have C := rints_any l m n1 n1 e1 e2 a a' cap cap' w R R'
        by_cases hlm : l = m
        · subst hlm
          rw [decide_eq_true rfl] at C
          rw [(agr_same hl1).1, (agr_same hl1).2]
          have HC := hide C
          have HR := hide (fun W (h : Below w.heap.size w W) => (R.next h).low (Nat.zero_le _))
          clear C R R'
          go_enter Tryd.func21, Tryd.ntmps21
          go_wp2_with fail
          refine HC.out.mono ?_
          rintro e w1 ⟨rfl, hb⟩
          go_wp2
          go_ret2
          exact ⟨⟨_, _, _, rfl, e1, HR.out _ hb⟩, hb⟩
        · rw [decide_eq_false hlm] at C
          have hr := agr_len hl1 hl2 (by omega) hlm
          rw [hr.1, hr.2]
          have HC := hide C
          clear C R R' hr hlm
          go_enter Tryd.func21, Tryd.ntmps21
          go_wp2_with fail
          refine HC.out.mono ?_
          rintro e w1 ⟨rfl, hb⟩
          go_wp2
          go_ret2
          exact ⟨⟨_, _, _, rfl, rfl, row_nil _ _ _⟩, hb⟩
      · have g3 : ((n1 : Int) == (n2 : Int)) = false := beq_eq_false_iff_ne.2 (by omega)
        have hr := agr_rank hl1 hl2 (by omega)
        rw [hr.1, hr.2]
        clear hr R R' e1 e2 hl1 hl2
        go_enter Tryd.func21, Tryd.ntmps21
        go_wp2
        go_ret2
        exact ⟨⟨_, _, _, rfl, rfl, row_nil _ _ _⟩, Below.refl _ _⟩
end Go.Proofs.YtkigfmfegldhcaaDoor
