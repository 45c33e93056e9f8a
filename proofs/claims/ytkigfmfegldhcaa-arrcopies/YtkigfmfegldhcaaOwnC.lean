/-
  The contracts of layer 3's Place and Places, and of the document's: which cell stands at places, where a cell stands, for all shapes; and of the statements' own comparison of two lists of numbers.
-/
import Derived.Test.YtkigfmfegldhcaaOwnB
namespace Go.Proofs.Ytkigfmfegldhcaa
open Go.ChangeShapes Go.WideShapes Go.ChangeAt Go.RowKit
theorem inAxes_iff (l at' : List Int) : inAxes l at' ↔ at'.length = l.length ∧ ∀ i, i < l.length → 0 ≤ at'[i]?.getD 0 ∧ at'[i]?.getD 0 < l[i]?.getD 0 := by
  induction l generalizing at' with
  | nil => cases at' <;> simp [inAxes]
  | cons s ss ih =>
    cases at' with
    | nil => simp [inAxes]
    | cons a ms =>
      simp only [inAxes, ih, List.length_cons]
      constructor
      · rintro ⟨h1, h2, h3⟩
        refine ⟨by omega, ?_⟩
        intro i hi
        cases i with
        | zero => simpa using h1
        | succ i => simpa using h3 i (by omega)
      · rintro ⟨h1, h2⟩
        refine ⟨by simpa using h2 0 (by omega), by omega, ?_⟩
        intro i hi
        simpa using h2 (i + 1) (by omega)
noncomputable instance (l at' : List Int) : Decidable (inAxes l at') := Classical.propDecidable _
theorem place_snoc (l m : List Int) (s a : Int) (h : l.length = m.length) : place (l ++ [s]) (m ++ [a]) = place l m * s + a := by
  induction l generalizing m with
  | nil =>
    cases m with
    | nil => simp [place, prodL]
    | cons y m => simp at h
  | cons x l ih =>
    cases m with
    | nil => simp at h
    | cons y m =>
      simp only [List.cons_append, place, prodL_append, ih m (by simpa using h), prodL]
      rw [Int.add_mul, Int.mul_one, Int.mul_assoc]
      omega
theorem place_take (l m : List Int) (h : m.length = l.length) (j : Nat) (hj : j < l.length) : place (l.take (j + 1)) (m.take (j + 1)) = place (l.take j) (m.take j) * l[j]?.getD 0 + m[j]?.getD 0 := by
  rw [List.take_succ_eq_append_getElem hj, List.take_succ_eq_append_getElem (l := m) (by omega), place_snoc _ _ _ _ (by simp; omega)]
  simp [hj, h]
theorem inAxes_take {l m : List Int} (h : m.length = l.length) {j : Nat} (hj : j ≤ l.length) (hi : ∀ i, i < j → 0 ≤ m[i]?.getD 0 ∧ m[i]?.getD 0 < l[i]?.getD 0) : inAxes (l.take j) (m.take j) := by
  rw [inAxes_iff]
  refine ⟨by simp; omega, ?_⟩
  intro i hi'
  have : i < j := by simp at hi'; omega
  simpa [this] using hi i this
/-- Place's answer. -/
noncomputable def plcV (l m : List Int) : Int := if sizeE l = 0 ∧ inAxes l m then place l m else 0
noncomputable def plcE (l m : List Int) : Int := if sizeE l ≠ 0 then sizeE l else if m.length ≠ l.length then 6 else if inAxes l m then 0 else 8
theorem sizeE_ok {l : List Int} (h : sizeE l = 0) : ¬ 8 < l.length ∧ ¬ hasNeg l ∧ (hasZero l ∨ (¬ hasZero l ∧ prodL l ≤ 16384)) := by
  unfold sizeE at h
  by_cases h8 : 8 < l.length
  · simp [h8] at h
  · by_cases hn : hasNeg l
    · simp [h8, hn] at h
    · by_cases hz : hasZero l
      · exact ⟨h8, hn, Or.inl hz⟩
      · by_cases hm : 16384 < prodL l
        · simp [h8, hn, hz, hm] at h
        · exact ⟨h8, hn, Or.inr ⟨hz, by omega⟩⟩
theorem place_facts {l m : List Int} (hs : sizeE l = 0) (h : m.length = l.length) (hz : ¬ hasZero l) {j : Nat} (hj : j < l.length) (hi : ∀ i, i < j → 0 ≤ m[i]?.getD 0 ∧ m[i]?.getD 0 < l[i]?.getD 0) (h1 : 0 ≤ m[j]?.getD 0) (h2 : m[j]?.getD 0 < l[j]?.getD 0) :
    0 ≤ place (l.take j) (m.take j) ∧ place (l.take j) (m.take j) ≤ 16384 ∧ l[j]?.getD 0 ≤ 16384 ∧ 0 ≤ place (l.take j) (m.take j) * l[j]?.getD 0 ∧ place (l.take j) (m.take j) * l[j]?.getD 0 ≤ 268435456 := by
  obtain ⟨_, hn, h3⟩ := sizeE_ok hs
  have hp := all_pos hn hz
  rcases h3 with h3 | ⟨_, h3⟩
  · exact absurd h3 hz
  · obtain ⟨_, b2, b3, _⟩ := place_bound (inAxes_take h (Nat.le_of_lt hj) hi)
    have b4 := prodL_take_le hp j
    have b5 := prod_of_mem hp (getD_mem hj)
    have b6 := Int.mul_nonneg (a := place (l.take j) (m.take j)) (b := l[j]?.getD 0) b2 (by omega)
    have b7 := Int.mul_le_mul (a := place (l.take j) (m.take j)) (b := l[j]?.getD 0) (c := 16384) (d := 16384) (by omega) (by omega) (by omega) (by omega)
    exact ⟨b2, by omega, by omega, b6, by omega⟩
theorem plc_out {l m : List Int} (hs : sizeE l = 0) (h : m.length = l.length) {j : Nat} (hj : j < l.length) (ho : m[j]?.getD 0 < 0 ∨ l[j]?.getD 0 ≤ m[j]?.getD 0) : plcV l m = 0 ∧ plcE l m = 8 := by
  have : ¬ inAxes l m := by
    intro hx
    have := ((inAxes_iff l m).1 hx).2 j hj
    omega
  simp [plcV, plcE, hs, h, this]
theorem plc_in {l m : List Int} (hs : sizeE l = 0) (h : m.length = l.length) (hi : ∀ i, i < l.length → 0 ≤ m[i]?.getD 0 ∧ m[i]?.getD 0 < l[i]?.getD 0) : plcV l m = place l m ∧ plcE l m = 0 ∧ ¬ hasZero l := by
  have : inAxes l m := (inAxes_iff l m).2 ⟨h, hi⟩
  refine ⟨by simp [plcV, hs, this], by simp [plcE, hs, h, this], ?_⟩
  rintro ⟨z, hz, rfl⟩
  obtain ⟨k, hk, e⟩ := mem_getD hz
  have := hi k hk
  omega
theorem plc_len {l m : List Int} (hs : sizeE l = 0) (h : ¬ m.length = l.length) : plcV l m = 0 ∧ plcE l m = 6 := by
  refine ⟨?_, by simp [plcE, hs, h]⟩
  unfold plcV
  rw [if_neg]
  rintro ⟨_, hx⟩
  exact h ((inAxes_iff l m).1 hx).1
theorem plc_bad {l m : List Int} (hs : ¬ sizeE l = 0) : plcV l m = 0 ∧ plcE l m = sizeE l := ⟨by simp [plcV, hs], by simp [plcE, hs]⟩
set_option maxHeartbeats 1000000 in
theorem place_any {lo lo' : Nat} (l m : List Int) (a a' : Option Addr) (cap cap' : Nat) (w : World) (R : Row lo w a l) (R' : Row lo' w a' m) :
    Calls Try.prog 13 #[.slice a l.length cap, .slice a' m.length cap'] w fun e w' => e = .returned (.tuple #[.int .i64 (plcV l m), .int .i64 (plcE l m)]) ∧ w' = w := by
  have C := size_any l a cap w R
  have hrow := @row_at _ _ _ _ R
  have hrow' := @row_at _ _ _ _ R'
  have hl := R.1
  have hl' := R'.1
  clear R R'
  by_cases hs : sizeE l = 0
  · by_cases h : m.length = l.length
    · have FO : Hid (∀ j, j < l.length → m[j]?.getD 0 < 0 ∨ l[j]?.getD 0 ≤ m[j]?.getD 0 → plcV l m = 0 ∧ plcE l m = 8) := fun j hj ho => plc_out hs h hj ho
      have FI : Hid ((∀ i, i < l.length → 0 ≤ m[i]?.getD 0 ∧ m[i]?.getD 0 < l[i]?.getD 0) → plcV l m = place l m ∧ plcE l m = 0 ∧ ¬ hasZero l) := fun hi => plc_in hs h hi
      have FB : Hid (¬ hasZero l → ∀ j, j < l.length → (∀ i, i < j → 0 ≤ m[i]?.getD 0 ∧ m[i]?.getD 0 < l[i]?.getD 0) → 0 ≤ m[j]?.getD 0 → m[j]?.getD 0 < l[j]?.getD 0 → 0 ≤ place (l.take j) (m.take j) ∧ place (l.take j) (m.take j) ≤ 16384 ∧ l[j]?.getD 0 ≤ 16384 ∧ 0 ≤ place (l.take j) (m.take j) * l[j]?.getD 0 ∧ place (l.take j) (m.take j) * l[j]?.getD 0 ≤ 268435456) := fun hz j hj hi h1 h2 => place_facts hs h hz hj hi h1 h2
      have FS : Hid (∀ j, j < l.length → place (l.take (j + 1)) (m.take (j + 1)) = place (l.take j) (m.take j) * l[j]?.getD 0 + m[j]?.getD 0) := fun j hj => place_take l m h j hj
      rw [hs] at C
      generalize plcV l m = V at FO FI
      generalize plcE l m = E at FO FI
      clear hs
      generalize sizeV l = S at C
      have hm0 : Hid (m.length = l.length) := h
      rw [h]
      clear h
      go_enter Try.func13, Try.ntmps13
      go_wp2
      go_step3
      go_wp2_with (go_at_call 12; refine C.mono ?_; rintro e w' ⟨rfl, hw⟩; rw [hw])
      go_step3
      go_wp2
      clear C
      go_loop [8, 9, 27] (fun x e i => ∃ j : Nat, ∃ z : Int, j ≤ l.length ∧ i = .int .i64 j ∧ x = .int .i64 z ∧ e = .int .i64 0 ∧ (¬ hasZero l → z = place (l.take j) (m.take j)) ∧ (∀ i, i < j → 0 ≤ m[i]?.getD 0 ∧ m[i]?.getD 0 < l[i]?.getD 0)) (fun _ _ i => l.length - (intOf i).toNat)
      case atStart => exact ⟨0, 0, Nat.zero_le _, rfl, rfl, rfl, by simp [place], by simp⟩
      case round =>
        obtain ⟨j, z, hj, rfl, rfl, rfl, g1, g2⟩ := hrel
        have G : Hid ((¬ hasZero l → z = place (l.take j) (m.take j)) ∧ (∀ i, i < j → 0 ≤ m[i]?.getD 0 ∧ m[i]?.getD 0 < l[i]?.getD 0)) := ⟨g1, g2⟩
        clear g1 g2
        by_cases hlt : j < l.length
        · obtain ⟨b, off, ha, hb, hck⟩ := hrow hlt
          obtain ⟨b', off', ha', hb', hck'⟩ := hrow' (j := j) (by rw [hm0.out]; exact hlt)
          subst ha
          subst ha'
          obtain ⟨s, hs⟩ : ∃ s, l[j]?.getD 0 = s := ⟨_, rfl⟩
          obtain ⟨t, ht⟩ : ∃ t, m[j]?.getD 0 = t := ⟨_, rfl⟩
          have HS : Hid (l[j]?.getD 0 = s ∧ m[j]?.getD 0 = t) := ⟨hs, ht⟩
          rw [hs] at hck
          rw [ht] at hck'
          clear hrow hrow' hs ht
          by_cases ho : t < 0 ∨ s ≤ t
          · have fm : Hid (V = 0 ∧ E = 8) := FO.out j hlt (by rw [HS.out.1, HS.out.2]; exact ho)
            by_cases ht0 : t < 0
            · clear ho
              go_wp2
              go_ret2
              exact ⟨retII ⟨fm.out.1.symm, fm.out.2.symm⟩, rfl⟩
            · have : s ≤ t := by omega
              clear ho
              go_wp2
              go_ret2
              exact ⟨retII ⟨fm.out.1.symm, fm.out.2.symm⟩, rfl⟩
          · have ht0 : 0 ≤ t := by omega
            have hts : t < s := by omega
            have GN : Hid (∀ i, i < j + 1 → 0 ≤ m[i]?.getD 0 ∧ m[i]?.getD 0 < l[i]?.getD 0) := by
              intro i hi
              rcases Nat.lt_succ_iff_lt_or_eq.1 hi with h | rfl
              · exact G.out.2 i h
              · rw [HS.out.1, HS.out.2]; exact ⟨ht0, hts⟩
            by_cases hz : hasZero l
            · have HZ : Hid (hasZero l) := hz
              clear ho hz
              go_wp2
              go_round
              case rel => exact ⟨j + 1, _, by omega, by go_num, rfl, rfl, fun h => absurd HZ.out h, GN.out⟩
              case measure => simp [intOf]; omega
            · have hzz := G.out.1 hz
              have HZ : Hid (¬ hasZero l → z * s + t = place (l.take (j + 1)) (m.take (j + 1))) := by
                intro _
                rw [FS.out j hlt, ← hzz, HS.out.1, HS.out.2]
              obtain ⟨f1, f2, f3, f4, f5⟩ := FB.out hz j hlt G.out.2 (by rw [HS.out.2]; exact ht0) (by rw [HS.out.1, HS.out.2]; exact hts)
              rw [← hzz, HS.out.1] at f4 f5
              rw [← hzz] at f1 f2
              rw [HS.out.1] at f3
              obtain ⟨q, hq⟩ : ∃ q, z * s = q := ⟨_, rfl⟩
              rw [hq] at f4 f5 HZ
              clear ho hz hzz
              go_wp2
              go_round
              case rel => exact ⟨j + 1, _, by omega, by go_num, rfl, rfl, HZ.out, GN.out⟩
              case measure => simp [intOf]; omega
        · have hje : j = l.length := by omega
          subst hje
          have fi := FI.out G.out.2
          have hz := G.out.1 fi.2.2
          rw [List.take_length, ← hm0.out, List.take_length] at hz
          have fo : Hid (V = z ∧ E = 0) := ⟨by rw [hz, fi.1], fi.2.1⟩
          clear fi hz
          go_wp2
          go_ret2
          exact ⟨retII ⟨fo.out.1.symm, fo.out.2.symm⟩, rfl⟩
    · rw [(plc_len hs h).1, (plc_len hs h).2]
      rw [hs] at C
      clear hs
      have h' : ¬ (m.length : Int) = (l.length : Int) := by omega
      go_enter Try.func13, Try.ntmps13
      go_wp2
      go_step3
      go_wp2_with (go_at_call 12; refine C.mono ?_; rintro e w' ⟨rfl, hw⟩; rw [hw])
      rw [Exit.noGoto_ret]
      go_ret2
      exact ⟨rfl, rfl⟩
  · rw [(plc_bad hs).1, (plc_bad hs).2]
    generalize sizeE l = E at C hs
    go_enter Try.func13, Try.ntmps13
    go_wp2
    go_step3
    go_wp2_with (go_at_call 12; refine C.mono ?_; rintro e w' ⟨rfl, hw⟩; rw [hw])
    rw [Exit.noGoto_ret]
    go_ret2
    exact ⟨rfl, rfl⟩
end Go.Proofs.Ytkigfmfegldhcaa
