/-
  The program's walk: what its parts promise, the text of a function with its map (text); for all programs.
-/
import Derived.Test.YtkgpoibnilgaeaaCoK
import Derived.Maps.Own
import Derived.Maps.OwnOps
import Derived.Maps.Views
namespace Go.Proofs.Ytkgpoibnilgaeaa
open Go.ChangeShapes Go.WideShapes Go.ChangeAt Go.RowKit Go.Maps
set_option linter.unusedVariables false
set_option linter.unusedSimpArgs false
/-- A function's look at a node promises this. -/
def GivesOk (p : Nat) (good : Prop) (c' : Int) (w : World) (e : Ending) (w' : World) : Prop := ∃ ok : Bool, e = .returned (.bool ok) ∧ (ok = true ↔ good) ∧ But (· = p) w w' ∧ (ok = true → Ctr w' p c')
def FunC (f m : Nat) (g : Nd → Bool) : Prop := ∀ n x lo va w0 w p c d, NdIn m n lo w0 x va → Below w0.heap.size w0 w → w0.heap.size ≤ p → Ctr w p c → 0 ≤ c → c ≤ 2048 → 0 ≤ d → d ≤ 25 →
  Calls Try.prog f #[.pointer (some ⟨p, 0, none⟩), va, .int .i64 d] w fun e w' => GivesOk p (Gd (g x) c d m x) (c + sizeN m x) w e w'
/-- The map of arguments that a text names. -/
def MapS (r : Nat) (B c3 c4 : Int) (w : World) : Prop := ∃ (kk : Nat) (D : DataW Unit), w.ownsMap Try.prog 3 (plainElem Try.prog 3) r kk D ∧ IsMap D ∧ (kk : Int) ≤ B ∧ D.atKey (.int .i64 3) (.lit (.int .i64 0)) = .lit (.int .i64 c3) ∧ D.atKey (.int .i64 4) (.lit (.int .i64 0)) = .lit (.int .i64 c4) ∧ 0 ≤ c3 ∧ c3 ≤ B ∧ 0 ≤ c4 ∧ c4 ≤ B
theorem MapS.kept {r : Nat} {B B' c3 c4 : Int} {w w' : World} (h : MapS r B c3 c4 w) (hb : w'.heap[r]? = w.heap[r]?) (hB : B ≤ B') : MapS r B' c3 c4 w' := by
  obtain ⟨kk, D, ⟨es, clock, he, hF, hs, hD⟩, hm, hk, h3, h4, a, b, c, d⟩ := h
  exact ⟨kk, D, ⟨es, clock, hb.trans he, hF, hs, hD⟩, hm, by omega, h3, h4, a, by omega, c, by omega⟩
theorem MapS.lt {r : Nat} {B c3 c4 : Int} {w : World} (h : MapS r B c3 c4 w) : r < w.heap.size := by
  obtain ⟨kk, D, ho, -⟩ := h
  exact ho.lt
def MrS (mr : Option Nat) (B c3 c4 : Int) (w : World) : Prop := ∀ r, mr = some r → MapS r B c3 c4 w
def GivesE (p : Nat) (mr : Option Nat) (good : Prop) (c' c3' c4' : Int) (w : World) (e : Ending) (w' : World) : Prop := ∃ ok : Bool, e = .returned (.bool ok) ∧ (ok = true ↔ good) ∧ But (fun k => k = p ∨ mr = some k) w w' ∧ (ok = true → Ctr w' p c' ∧ MrS mr c' c3' c4' w')
def ExE (m : Nat) : Prop := ∀ n x lo va w0 w p c d mr c3 c4, NdIn m n lo w0 x va → Below w0.heap.size w0 w → w0.heap.size ≤ p → (∀ r, mr = some r → w0.heap.size ≤ r ∧ r ≠ p) → Ctr w p c → MrS mr c c3 c4 w → 0 ≤ c → c ≤ 2048 → 0 ≤ d → d ≤ 25 →
  Calls Try.prog 32 #[.pointer (some ⟨p, 0, none⟩), va, .int .i64 d, .map mr] w fun e w' => GivesE p mr (Gd (exprN m mr.isSome x) c d m x) (c + sizeN m x) (c3 + cntN m 3 x) (c4 + cntN m 4 x) w e w'
theorem law3 : Keyed Try.prog 3 := int_keyed Try.underlying3
theorem mzero (w : World) : (zeroValue 3).run Try.prog w = .ok (.int .i64 0) w := by kernel_rfl
theorem MapS.look {r : Nat} {B c3 c4 : Int} {w : World} (h : MapS r B c3 c4 w) : (Instr.lookup 66 (.map (some r)) (.int .i64 3) false).run Try.prog w = .ok (.int .i64 c3) w ∧ (Instr.lookup 66 (.map (some r)) (.int .i64 4) false).run Try.prog w = .ok (.int .i64 c4) w := by
  obtain ⟨kk, D, ho, hm, hk, h3, h4, -⟩ := h
  obtain ⟨a, hr, ha, -⟩ := ho.lookup_int law3 Try.underlying66 Try.underlying3 (mzero _) (keyOf_int_mk Try.underlying3 (a := 3) (by decide))
  obtain ⟨b, hr', hb, -⟩ := ho.lookup_int law3 Try.underlying66 Try.underlying3 (mzero _) (keyOf_int_mk Try.underlying3 (a := 4) (by decide))
  rw [h3] at ha
  rw [h4] at hb
  injection ha with ha
  injection hb with hb
  injection ha with _ ha
  injection hb with _ hb
  rw [ha, hb]
  exact ⟨hr, hr'⟩
theorem MapS.made (w : World) (B : Int) (hB : 0 ≤ B) : MapS w.heap.size B 0 0 (w.alloc (.map #[] 0)) :=
  ⟨0, .map [], World.ownsMap_made _ _ _ _, isMap_empty, by omega, rfl, rfl, by omega, hB, by omega, hB⟩

set_option maxHeartbeats 4000000 in
theorem text65 (m : Nat) (IH : ExE m) : ∀ n x lo va w0 w p c d, NdIn (m + 1) n lo w0 x va → x.kids.length = 1 → Below w0.heap.size w0 w → w0.heap.size ≤ p → Ctr w p c → 0 ≤ c → c ≤ 2048 → 0 ≤ d → d ≤ 24 →
    Calls Try.prog 65 #[.pointer (some ⟨p, 0, none⟩), va, .int .i64 d] w fun e w' => GivesOk p (Gd (txB (exprN m true) (usesN m) x.kind (kd x 0)) c (d + 1) m (kd x 0)) (c + sizeN m (kd x 0)) w e w' := by
  intro n x lo va w0 w p c d hx hlen hw hp hct hc0 hc hd0 hd
  obtain ⟨m', hm', a1, c1, a2, c2, ak, ck, rfl, hA, hl, hs, hK⟩ := hx.letters
  obtain rfl : m = m' := by omega
  have hpl := hct.lt
  have X0 := box7_new w x.kind x.op x.name (.slice a1 x.lit.shape.length c1) (.slice a2 x.lit.cells.length c2) (.slice ak x.kids.length ck) x.pos
  obtain ⟨W1, hW1⟩ : ∃ W1, w.alloc (.cells #[.int .i64 x.kind, .int .i64 x.op, .string x.name, .slice a1 x.lit.shape.length c1, .slice a2 x.lit.cells.length c2, .slice ak x.kids.length ck, .int .i64 x.pos] 28) = W1 := ⟨_, rfl⟩
  rw [hW1] at X0
  have hsz1 : W1.heap.size = w.heap.size + 1 := by rw [← hW1]; simp
  obtain ⟨W2, hW2⟩ : ∃ W2, W1.alloc (.map #[] 0) = W2 := ⟨_, rfl⟩
  have hb12 : Below W1.heap.size W1 W2 := by rw [← hW2]; exact one_alloc _ _
  have X2 := X0.next hb12
  have hmap : MapS (w.heap.size + 1) c 0 0 W2 := by rw [← hW2, ← hsz1]; exact MapS.made W1 c hc0
  have hct2 : Ctr W2 p c := hct.next X2.1
  have hw2 : Below w0.heap.size w0 W2 := hw.trans (X2.1.mono hw.size)
  obtain ⟨b, off, rfl, hbb, hkk⟩ := kids_base hK (by omega)
  obtain ⟨K0, O0, S0, A10, L10, C10, A20, L20, C20, AK0, LK0, CK0, P0, hkw0⟩ := hkk 0 (by omega)
  simp only [Nat.zero_mul, Nat.add_zero] at hkw0
  have C := hide (IH n (kd x 0) lo _ w0 W2 p c (d + 1) (some (w.heap.size + 1)) 0 0 (hkw0 w0 (Below.refl _ _)).2.1 hw2 hp (by rintro r h; cases h; exact ⟨by have := hw.size; omega, by omega⟩) hct2 (by rintro r h; cases h; exact hmap) hc0 hc (by omega) (by omega))
  obtain ⟨⟨g0, g1, g2, g3, g4, g5, g6⟩, -⟩ := hkw0 W2 hw2
  obtain ⟨⟨f0, f1, f2, f3, f4, f5, f6⟩, -⟩ := hkw0 W1 (hw.trans (X0.1.mono hw.size))
  have hd1 : IntKind.i64.wrap (d + 1) = d + 1 := IntWalk.i64_in _ ⟨by omega, by omega⟩
  have HSZ : Hid (W2.heap.size = w.heap.size + 2) := by show _ = _; rw [← hW2]; simp [hsz1]
  have HBT : Hid (But (· = p) w W2) := But.of X2.1
  have HU : Hid (exprN m true (kd x 0) = true → (0 < cntN m 3 (kd x 0) ↔ usesN m 3 (kd x 0) = true) ∧ (0 < cntN m 4 (kd x 0) ↔ usesN m 4 (kd x 0) = true)) := fun h => ⟨cnt_uses (Or.inl rfl) h, cnt_uses (Or.inr rfl) h⟩
  have HX2 := hide X2
  have hmm := @run_makeMap Try.prog
  have HW1 := hide hW1
  have HW2 := hide hW2
  have HSZ1 := hide hsz1
  clear hkk hkw0 hx hA hK hm' IH hl hmap hct2 hct hw hw2 X0 hb12 hW2 hsz1 hW1 X2
  change Hid (Calls Try.prog 32 _ W2 fun e w' => GivesE p (some (w.heap.size + 1)) (Gd (exprN m true (kd x 0)) c (d + 1) m (kd x 0)) (c + sizeN m (kd x 0)) (0 + cntN m 3 (kd x 0)) (0 + cntN m 4 (kd x 0)) W2 e w') at C
  rw [hlen] at *
  unfold txB
  have hC3 : (0 : Int) + (cntN m 3 (kd x 0) : Int) = (cntN m 3 (kd x 0) : Int) := by omega
  have hC4 : (0 : Int) + (cntN m 4 (kd x 0) : Int) = (cntN m 4 (kd x 0) : Int) := by omega
  rw [hC3, hC4] at C
  clear hlen hC3 hC4
  unfold Gd at C ⊢
  generalize exprN m true (kd x 0) = EE at *
  generalize usesN m 3 (kd x 0) = U3 at *
  generalize usesN m 4 (kd x 0) = U4 at *
  generalize cntN m 3 (kd x 0) = N3 at *
  generalize cntN m 4 (kd x 0) = N4 at *
  have HSN : Hid (∃ z, z = c + (sizeN m (kd x 0) : Int)) := ⟨_, rfl⟩
  generalize hFIT : (c + (sizeN m (kd x 0) : Int) ≤ 2048 ∧ d + 1 + deepN m (kd x 0) ≤ 24) = FIT at *
  have HFITD : Hid (FIT → c + (sizeN m (kd x 0) : Int) ≤ 2048) := fun h => by rw [← hFIT] at h; exact h.1
  clear hFIT HSN
  generalize c + (sizeN m (kd x 0) : Int) = C1 at *
  generalize x.kind = K at *
  generalize x.op = O at *
  generalize x.name = S at *
  generalize x.pos = P at *
  generalize x.lit.shape.length = L1 at *
  generalize x.lit.cells.length = L2 at *
  go_enter Try.func65, Try.ntmps65
  go_upto_region 2 with fail
  rw [HW1.out, HW2.out]
  have hX5 := HX2.out.2.2.2.2.2.2.2.1
  go_wp2_with fail
  refine C.out.mono ?_
  rintro e w3 ⟨ok, rfl, hok, hbut, hst⟩
  have HBUT : Hid (But (· = p) w w3) := HBT.out.trans hbut (fun j hj hh => by
    rcases hh with h | h
    · exact h
    · injection h with h; omega)
  have hq0 : w3.cell? ⟨w.heap.size, 0, none⟩ = some (.int .i64 K) := (hbut.cell (p := ⟨w.heap.size, 0, none⟩) (by show w.heap.size < _; rw [HSZ.out]; omega) (by
    rintro (h | h)
    · have : w.heap.size = p := h
      omega
    · injection h with h
      have : w.heap.size + 1 = w.heap.size := h
      omega)).trans HX2.out.2.2.1
  have HOK := hide hok
  have HST := hide hst
  clear C hbut hok hst g0 g1 g2 g3 g4 g5 g6 f0 f1 f2 f3 f4 f5 f6 HX2
  cases ok
  · go_wp2
    all_goals go_ret
    all_goals
      refine ⟨false, retB (by first | rfl | (simp; omega)), ⟨(fun h => by cases h), fun h => ?_⟩, HBUT.out, (fun h => by cases h)⟩
      try simp only [Bool.and_eq_true] at h
      exact HOK.out.2 ⟨h.1.1, h.2⟩
  · have hgd := HOK.out.1 rfl
    have hct3 := (HST.out rfl).1
    have hm3 := (HST.out rfl).2 _ rfl
    obtain ⟨l3, l4⟩ := hm3.look
    obtain ⟨u3, u4⟩ := HU.out hgd.1
    have HCT := hide hct3
    have HU3 := hide u3
    have HU4 := hide u4
    have HGD := hide hgd
    clear HOK HST hgd hct3 hm3 u3 u4 HU
    by_cases hk : K = 22
    · subst hk
      by_cases h3 : (N3 : Int) = 0
      · have h3' : ((N3 : Int) == 0) = true := by simp [h3]
        go_wp2
        go_ret
        refine ⟨true, retB (by first | rfl | (simp; omega)), ⟨fun _ => ⟨?_, HGD.out.2⟩, fun _ => rfl⟩, HBUT.out, fun _ => HCT.out⟩
        have a := HU3.out
        have b := HU4.out
        have e := HGD.out.1
        cases U3 <;> cases U4 <;> simp_all <;> omega
      · have h3' : ((N3 : Int) == 0) = false := beq_eq_false_iff_ne.2 h3
        go_wp2
        go_ret
        refine ⟨false, retB (by first | rfl | (simp; omega)), ⟨(fun h => by cases h), fun h => ?_⟩, HBUT.out, (fun h => by cases h)⟩
        have a := HU3.out
        have b := HU4.out
        have e := HGD.out.1
        have g := h.1
        cases U3 <;> cases U4 <;> simp_all <;> omega
    · have hk' : (K == 22) = false := beq_eq_false_iff_ne.2 hk
      by_cases h3 : 0 < (N3 : Int)
      · have h3' : decide (0 < (N3 : Int)) = true := by simp; omega
        by_cases h4 : 0 < (N4 : Int)
        · have h4' : decide (0 < (N4 : Int)) = true := by simp; omega
          go_wp2
          go_ret
          refine ⟨true, retB (by first | rfl | (simp; omega)), ⟨fun _ => ⟨?_, HGD.out.2⟩, fun _ => rfl⟩, HBUT.out, fun _ => HCT.out⟩
          have a := HU3.out
          have b := HU4.out
          have e := HGD.out.1
          cases U3 <;> cases U4 <;> simp_all <;> omega
        · have h4' : decide (0 < (N4 : Int)) = false := by simp; omega
          go_wp2
          go_ret
          refine ⟨false, retB (by first | rfl | (simp; omega)), ⟨(fun h => by cases h), fun h => ?_⟩, HBUT.out, (fun h => by cases h)⟩
          have a := HU3.out
          have b := HU4.out
          have e := HGD.out.1
          have g := h.1
          cases U3 <;> cases U4 <;> simp_all <;> omega
      · have h3' : decide (0 < (N3 : Int)) = false := by simp; omega
        go_wp2
        go_ret
        refine ⟨false, retB (by first | rfl | (simp; omega)), ⟨(fun h => by cases h), fun h => ?_⟩, HBUT.out, (fun h => by cases h)⟩
        have a := HU3.out
        have b := HU4.out
        have e := HGD.out.1
        have g := h.1
        cases U3 <;> cases U4 <;> simp_all <;> omega
end Go.Proofs.Ytkgpoibnilgaeaa
