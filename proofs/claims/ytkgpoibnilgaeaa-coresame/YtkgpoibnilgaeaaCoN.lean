/-
  The program's walk: functions of two arguments and of one (two, one): what they promise; for all programs.
-/
import Derived.Test.YtkgpoibnilgaeaaCoM
namespace Go.Proofs.Ytkgpoibnilgaeaa
open Go.ChangeShapes Go.WideShapes Go.ChangeAt Go.RowKit
set_option linter.unusedVariables false
set_option linter.unusedSimpArgs false

set_option maxHeartbeats 4000000 in
theorem two50 (m : Nat) (IH : ExE m) : FunC 50 (m + 1) (dyB (exprN m true) (usesN m)) := by
  intro n x lo va w0 w p c d hx hw hp hct hc0 hc hd0 hd
  have hxx := hx
  obtain ⟨m', hm', a1, c1, a2, c2, ak, ck, rfl, hA, hl, hs, hK⟩ := hx.letters
  obtain rfl : m = m' := by omega
  have hpl := hct.lt
  have X0 := hide (bw_new (p := p) hw x.kind x.op x.name (.slice a1 x.lit.shape.length c1) (.slice a2 x.lit.cells.length c2) (.slice ak x.kids.length ck) x.pos)
  have hct0 : Ctr (w.alloc (.cells #[.int .i64 x.kind, .int .i64 x.op, .string x.name, .slice a1 x.lit.shape.length c1, .slice a2 x.lit.cells.length c2, .slice ak x.kids.length ck, .int .i64 x.pos] 28)) p c := hct.next (one_alloc _ _)
  have hw0 := X0.out.2.1
  have HP : Hid (w0.heap.size ≤ p ∧ w.heap.size ≠ p ∧ w0.heap.size ≤ w.heap.size) := ⟨hp, by omega, hw.size⟩
  have HEN : Hid (∀ wr, Ctr wr p c → Calls Try.prog 48 #[.pointer (some ⟨p, 0, none⟩), .agg #[.int .i64 x.kind, .int .i64 x.op, .string x.name, .slice a1 x.lit.shape.length c1, .slice a2 x.lit.cells.length c2, .slice ak x.kids.length ck, .int .i64 x.pos], .int .i64 d] wr fun e w' => e = .returned (.bool (entX c d x)) ∧ But (· = p) wr w' ∧ Ctr w' p (c + 1)) := fun wr h => enter48 _ _ _ _ _ _ _ _ _ _ _ _ _ c d p wr h hc0 hc
  by_cases h25 : x.kind = 25
  · have HG := hide (gd1 (m := m) (c := c) (d := d) (ent_one (by omega)) (show dyB (exprN m true) (usesN m) x = (bareB x 1 false false false && betB (kd x 0)) by unfold dyB kd; rw [if_pos h25]))
    cases hEN : entX c d x with
    | false =>
      rw [hEN] at HEN HG
      generalize Gd (dyB (exprN m true) (usesN m) x) c d (m + 1) x = GD at *
      generalize c + (sizeN (m + 1) x : Int) = CE at *
      clear hxx hA hK hct hw hx hpl
      generalize x.kids.length = LK at *
      generalize x.kind = K at *
      generalize x.op = O at *
      generalize x.name = S at *
      generalize x.pos = P at *
      generalize x.lit.shape.length = L1 at *
      generalize x.lit.cells.length = L2 at *
      subst h25
      go_enter Try.func50, Try.ntmps50
      go_wp2_with fail
      refine (HEN.out _ hct0).mono ?_
      rintro e w1 ⟨rfl, hbt1, hct1⟩
      have X1 := hide (X0.out.next hbt1 HP.out)
      clear hbt1
      obtain ⟨-, hw1, -, q0, q1, q2, q3, q4, q5, q6⟩ := X1.out
      go_wp2
      all_goals go_ret
      all_goals exact ⟨false, retB (by first | rfl | simp_all), ⟨(fun h => by cases h), fun h => (HG.out.1 h).1⟩, X1.out.1, (fun h => by cases h)⟩
    | true =>
      rw [hEN] at HEN HG
      have hlen := ent_len (k := 1) hEN (ent_one (by omega))
      obtain ⟨hr1, hr2⟩ := ent_room hEN
      have HCE : Hid (c + (sizeN (m + 1) x : Int) = c + 1 + (sizeN m (kd x 0) : Int)) := by show _ = _; rw [size1 hlen]; omega
      obtain ⟨b, off, rfl, hbb, hkk⟩ := kids_base hK (by omega)
      obtain ⟨K0, O0, S0, A10, L10, C10, A20, L20, C20, AK0, LK0, CK0, P0, hkw0⟩ := hkk 0 (by omega)
      simp only [Nat.zero_mul, Nat.add_zero] at hkw0
      have HKW0 := hide (fun wr hwr => And.intro (hkw0 wr hwr).1 trivial)
      have HF := hide (fun wr (hwr : Below w0.heap.size w0 wr) (hc1 : Ctr wr p (c + 1)) => (between66 m).kid n (kd x 0) lo _ w0 wr p (c + 1) (d + 1) (hkw0 w0 (Below.refl _ _)).2.1 hwr hp hc1 (by omega) (by omega) (by omega) (by omega))
      have hd1 : IntKind.i64.wrap (d + 1) = d + 1 := IntWalk.i64_in _ ⟨by omega, by omega⟩
      generalize Gd (dyB (exprN m true) (usesN m) x) c d (m + 1) x = GD at *
      generalize Gd (betB (kd x 0)) (c + 1) (d + 1) m (kd x 0) = GK at *
      generalize c + (sizeN (m + 1) x : Int) = CE at *
      generalize c + 1 + (sizeN m (kd x 0) : Int) = CK at *
      clear hkk hkw0 hEN
      rw [hlen] at *
      clear hlen
      clear hxx hA hK hct hw hx hpl
      generalize x.kind = K at *
      generalize x.op = O at *
      generalize x.name = S at *
      generalize x.pos = P at *
      generalize x.lit.shape.length = L1 at *
      generalize x.lit.cells.length = L2 at *
      subst h25
      go_enter Try.func50, Try.ntmps50
      obtain ⟨⟨g00, g01, g02, g03, g04, g05, g06⟩, -⟩ := HKW0.out _ hw0
      go_wp2_with fail
      refine (HEN.out _ hct0).mono ?_
      rintro e w1 ⟨rfl, hbt1, hct1⟩
      have X1 := hide (X0.out.next hbt1 HP.out)
      clear hbt1 g00 g01 g02 g03 g04 g05 g06
      obtain ⟨-, hw1, -, q0, q1, q2, q3, q4, q5, q6⟩ := X1.out
      obtain ⟨⟨g00, g01, g02, g03, g04, g05, g06⟩, -⟩ := HKW0.out _ hw1
      go_wp2_with fail
      refine (HF.out _ hw1 hct1).mono ?_
      rintro e w2 ⟨ok2, rfl, hok2, hbt2, hst2⟩
      have X2 := hide (X1.out.next hbt2 HP.out)
      have HOK2 := hide hok2
      have HST2 := hide hst2
      clear hbt2 hok2 hst2 g00 g01 g02 g03 g04 g05 g06 q0 q1 q2 q3 q4 q5 q6
      obtain ⟨-, hw2, -, q0, q1, q2, q3, q4, q5, q6⟩ := X2.out
      obtain ⟨⟨g00, g01, g02, g03, g04, g05, g06⟩, -⟩ := HKW0.out _ hw2
      cases ok2
      · go_wp2
        all_goals go_ret
        all_goals exact ⟨false, retB (by first | rfl | simp_all), ⟨(fun h => by cases h), fun h => HOK2.out.2 (HG.out.1 h).2⟩, X2.out.1, (fun h => by cases h)⟩
      · go_wp2
        all_goals go_ret
        all_goals exact ⟨true, retB (by first | rfl | simp_all), ⟨fun _ => HG.out.2 ⟨(by first | rfl | trivial), HOK2.out.1 (by first | rfl | trivial)⟩, fun _ => rfl⟩, X2.out.1, fun _ => (by rw [HCE.out]; exact HST2.out (by first | rfl | trivial))⟩
  by_cases h35 : x.kind = 35
  · have HG := hide (gd1 (m := m) (c := c) (d := d) (ent_one (by omega)) (show dyB (exprN m true) (usesN m) x = (bareB x 1 false false false && tnB (exprN m true) (usesN m) (kd x 0)) by unfold dyB; rw [if_neg h25, if_pos h35]; exact tur_eq _ _ x))
    cases hEN : entX c d x with
    | false =>
      rw [hEN] at HEN HG
      generalize Gd (dyB (exprN m true) (usesN m) x) c d (m + 1) x = GD at *
      generalize c + (sizeN (m + 1) x : Int) = CE at *
      clear hxx hA hK hct hw hx hpl
      generalize x.kids.length = LK at *
      generalize x.kind = K at *
      generalize x.op = O at *
      generalize x.name = S at *
      generalize x.pos = P at *
      generalize x.lit.shape.length = L1 at *
      generalize x.lit.cells.length = L2 at *
      clear h25
      subst h35
      go_enter Try.func50, Try.ntmps50
      go_wp2_with fail
      refine (HEN.out _ hct0).mono ?_
      rintro e w1 ⟨rfl, hbt1, hct1⟩
      have X1 := hide (X0.out.next hbt1 HP.out)
      clear hbt1
      obtain ⟨-, hw1, -, q0, q1, q2, q3, q4, q5, q6⟩ := X1.out
      go_wp2
      all_goals go_ret
      all_goals exact ⟨false, retB (by first | rfl | simp_all), ⟨(fun h => by cases h), fun h => (HG.out.1 h).1⟩, X1.out.1, (fun h => by cases h)⟩
    | true =>
      rw [hEN] at HEN HG
      have hlen := ent_len (k := 1) hEN (ent_one (by omega))
      obtain ⟨hr1, hr2⟩ := ent_room hEN
      have HCE : Hid (c + (sizeN (m + 1) x : Int) = c + 1 + (sizeN m (kd x 0) : Int)) := by show _ = _; rw [size1 hlen]; omega
      obtain ⟨b, off, rfl, hbb, hkk⟩ := kids_base hK (by omega)
      obtain ⟨K0, O0, S0, A10, L10, C10, A20, L20, C20, AK0, LK0, CK0, P0, hkw0⟩ := hkk 0 (by omega)
      simp only [Nat.zero_mul, Nat.add_zero] at hkw0
      have HKW0 := hide (fun wr hwr => And.intro (hkw0 wr hwr).1 trivial)
      have HF := hide (fun wr (hwr : Below w0.heap.size w0 wr) (hc1 : Ctr wr p (c + 1)) => (turned67 m IH).kid n (kd x 0) lo _ w0 wr p (c + 1) (d + 1) (hkw0 w0 (Below.refl _ _)).2.1 hwr hp hc1 (by omega) (by omega) (by omega) (by omega))
      have hd1 : IntKind.i64.wrap (d + 1) = d + 1 := IntWalk.i64_in _ ⟨by omega, by omega⟩
      generalize Gd (dyB (exprN m true) (usesN m) x) c d (m + 1) x = GD at *
      generalize Gd (tnB (exprN m true) (usesN m) (kd x 0)) (c + 1) (d + 1) m (kd x 0) = GK at *
      generalize c + (sizeN (m + 1) x : Int) = CE at *
      generalize c + 1 + (sizeN m (kd x 0) : Int) = CK at *
      clear hkk hkw0 hEN
      rw [hlen] at *
      clear hlen
      clear hxx hA hK hct hw hx hpl
      generalize x.kind = K at *
      generalize x.op = O at *
      generalize x.name = S at *
      generalize x.pos = P at *
      generalize x.lit.shape.length = L1 at *
      generalize x.lit.cells.length = L2 at *
      clear h25
      subst h35
      go_enter Try.func50, Try.ntmps50
      obtain ⟨⟨g00, g01, g02, g03, g04, g05, g06⟩, -⟩ := HKW0.out _ hw0
      go_wp2_with fail
      refine (HEN.out _ hct0).mono ?_
      rintro e w1 ⟨rfl, hbt1, hct1⟩
      have X1 := hide (X0.out.next hbt1 HP.out)
      clear hbt1 g00 g01 g02 g03 g04 g05 g06
      obtain ⟨-, hw1, -, q0, q1, q2, q3, q4, q5, q6⟩ := X1.out
      obtain ⟨⟨g00, g01, g02, g03, g04, g05, g06⟩, -⟩ := HKW0.out _ hw1
      go_wp2_with fail
      refine (HF.out _ hw1 hct1).mono ?_
      rintro e w2 ⟨ok2, rfl, hok2, hbt2, hst2⟩
      have X2 := hide (X1.out.next hbt2 HP.out)
      have HOK2 := hide hok2
      have HST2 := hide hst2
      clear hbt2 hok2 hst2 g00 g01 g02 g03 g04 g05 g06 q0 q1 q2 q3 q4 q5 q6
      obtain ⟨-, hw2, -, q0, q1, q2, q3, q4, q5, q6⟩ := X2.out
      obtain ⟨⟨g00, g01, g02, g03, g04, g05, g06⟩, -⟩ := HKW0.out _ hw2
      cases ok2
      · go_wp2
        all_goals go_ret
        all_goals exact ⟨false, retB (by first | rfl | simp_all), ⟨(fun h => by cases h), fun h => HOK2.out.2 (HG.out.1 h).2⟩, X2.out.1, (fun h => by cases h)⟩
      · go_wp2
        all_goals go_ret
        all_goals exact ⟨true, retB (by first | rfl | simp_all), ⟨fun _ => HG.out.2 ⟨(by first | rfl | trivial), HOK2.out.1 (by first | rfl | trivial)⟩, fun _ => rfl⟩, X2.out.1, fun _ => (by rw [HCE.out]; exact HST2.out (by first | rfl | trivial))⟩
  · have HF := hide (fun wr (hwr : Below w0.heap.size w0 wr) (hc1 : Ctr wr p c) => turnable68 m IH n x lo _ w0 wr p c d hxx hwr hp hc1 hc0 hc hd0 hd)
    rw [show dyB (exprN m true) (usesN m) x = twoB (exprN m true) (usesN m) x by unfold dyB; rw [if_neg h25, if_neg h35]]
    have k25 : (x.kind == 25) = false := beq_eq_false_iff_ne.2 h25
    have k35 : (x.kind == 35) = false := beq_eq_false_iff_ne.2 h35
    generalize Gd (twoB (exprN m true) (usesN m) x) c d (m + 1) x = GD at *
    generalize c + (sizeN (m + 1) x : Int) = CE at *
    clear hxx hA hK hct hw hx hpl
    generalize x.kids.length = LK at *
    generalize x.kind = K at *
    generalize x.op = O at *
    generalize x.name = S at *
    generalize x.pos = P at *
    generalize x.lit.shape.length = L1 at *
    generalize x.lit.cells.length = L2 at *
    go_enter Try.func50, Try.ntmps50
    go_wp2_with fail
    refine (HF.out _ hw0 hct0).mono ?_
    rintro e w1 ⟨ok1, rfl, hok1, hbt1, hst1⟩
    have X1 := hide (X0.out.next hbt1 HP.out)
    have HOK1 := hide hok1
    have HST1 := hide hst1
    clear hbt1 hok1 hst1
    obtain ⟨-, hw1, -, q0, q1, q2, q3, q4, q5, q6⟩ := X1.out
    cases ok1
    · go_wp2
      all_goals go_ret
      all_goals exact ⟨false, retB (by first | rfl | simp_all), ⟨(fun h => by cases h), fun h => HOK1.out.2 h⟩, X1.out.1, (fun h => by cases h)⟩
    · go_wp2
      all_goals go_ret
      all_goals exact ⟨true, retB (by first | rfl | simp_all), ⟨fun _ => HOK1.out.1 (by first | rfl | trivial), fun _ => rfl⟩, X1.out.1, fun _ => HST1.out (by first | rfl | trivial)⟩

set_option maxHeartbeats 4000000 in
theorem one49_lam (m : Nat) (IH : ExE m) : ∀ n x lo va w0 w p c d, NdIn (m + 1) n lo w0 x va → Below w0.heap.size w0 w → w0.heap.size ≤ p → Ctr w p c → 0 ≤ c → c ≤ 2048 → 0 ≤ d → d ≤ 25 → x.kind = 22 →
    Calls Try.prog 49 #[.pointer (some ⟨p, 0, none⟩), va, .int .i64 d] w fun e w' => GivesOk p (Gd (lamB (exprN m true) (usesN m) x) c d (m + 1) x) (c + sizeN (m + 1) x) w e w' := by
  intro n x lo va w0 w p c d hx hw hp hct hc0 hc hd0 hd h22
  have hxx := hx
  obtain ⟨m', hm', a1, c1, a2, c2, ak, ck, rfl, hA, hl, hs, hK⟩ := hx.letters
  obtain rfl : m = m' := by omega
  have hpl := hct.lt
  have X0 := hide (bw_new (p := p) hw x.kind x.op x.name (.slice a1 x.lit.shape.length c1) (.slice a2 x.lit.cells.length c2) (.slice ak x.kids.length ck) x.pos)
  have hct0 : Ctr (w.alloc (.cells #[.int .i64 x.kind, .int .i64 x.op, .string x.name, .slice a1 x.lit.shape.length c1, .slice a2 x.lit.cells.length c2, .slice ak x.kids.length ck, .int .i64 x.pos] 28)) p c := hct.next (one_alloc _ _)
  have hw0 := X0.out.2.1
  have HP : Hid (w0.heap.size ≤ p ∧ w.heap.size ≠ p ∧ w0.heap.size ≤ w.heap.size) := ⟨hp, by omega, hw.size⟩
  have HEN : Hid (∀ wr, Ctr wr p c → Calls Try.prog 48 #[.pointer (some ⟨p, 0, none⟩), .agg #[.int .i64 x.kind, .int .i64 x.op, .string x.name, .slice a1 x.lit.shape.length c1, .slice a2 x.lit.cells.length c2, .slice ak x.kids.length ck, .int .i64 x.pos], .int .i64 d] wr fun e w' => e = .returned (.bool (entX c d x)) ∧ But (· = p) wr w' ∧ Ctr w' p (c + 1)) := fun wr h => enter48 _ _ _ _ _ _ _ _ _ _ _ _ _ c d p wr h hc0 hc
  have HG := hide (gd1 (m := m) (c := c) (d := d) (ent_one (by omega)) (show lamB (exprN m true) (usesN m) x = (bareB x 1 false false false && txB (exprN m true) (usesN m) x.kind (kd x 0)) by exact lam_eq _ _ x))
  cases hEN : entX c d x with
  | false =>
    rw [hEN] at HEN HG
    generalize Gd (lamB (exprN m true) (usesN m) x) c d (m + 1) x = GD at *
    generalize c + (sizeN (m + 1) x : Int) = CE at *
    clear hxx hA hK hct hw hx hpl
    generalize x.kids.length = LK at *
    generalize x.kind = K at *
    generalize x.op = O at *
    generalize x.name = S at *
    generalize x.pos = P at *
    generalize x.lit.shape.length = L1 at *
    generalize x.lit.cells.length = L2 at *
    subst h22
    go_enter Try.func49, Try.ntmps49
    go_wp2_with fail
    refine (HEN.out _ hct0).mono ?_
    rintro e w1 ⟨rfl, hbt1, hct1⟩
    have X1 := hide (X0.out.next hbt1 HP.out)
    clear hbt1
    obtain ⟨-, hw1, -, q0, q1, q2, q3, q4, q5, q6⟩ := X1.out
    go_wp2
    all_goals go_ret
    all_goals exact ⟨false, retB (by first | rfl | simp_all), ⟨(fun h => by cases h), fun h => (HG.out.1 h).1⟩, X1.out.1, (fun h => by cases h)⟩
  | true =>
    rw [hEN] at HEN HG
    have hlen := ent_len (k := 1) hEN (ent_one (by omega))
    obtain ⟨hr1, hr2⟩ := ent_room hEN
    have HCE : Hid (c + (sizeN (m + 1) x : Int) = c + 1 + (sizeN m (kd x 0) : Int)) := by show _ = _; rw [size1 hlen]; omega
    have HF := hide (fun wr (hwr : Below w0.heap.size w0 wr) (hc1 : Ctr wr p (c + 1)) => text65 m IH n x lo _ w0 wr p (c + 1) d hxx hlen hwr hp hc1 (by omega) (by omega) (by omega) (by omega))
    generalize Gd (lamB (exprN m true) (usesN m) x) c d (m + 1) x = GD at *
    generalize Gd (txB (exprN m true) (usesN m) x.kind (kd x 0)) (c + 1) (d + 1) m (kd x 0) = GK at *
    generalize c + (sizeN (m + 1) x : Int) = CE at *
    generalize c + 1 + (sizeN m (kd x 0) : Int) = CK at *
    clear hEN hlen
    clear hxx hA hK hct hw hx hpl
    generalize x.kids.length = LK at *
    generalize x.kind = K at *
    generalize x.op = O at *
    generalize x.name = S at *
    generalize x.pos = P at *
    generalize x.lit.shape.length = L1 at *
    generalize x.lit.cells.length = L2 at *
    subst h22
    go_enter Try.func49, Try.ntmps49
    go_wp2_with fail
    refine (HEN.out _ hct0).mono ?_
    rintro e w1 ⟨rfl, hbt1, hct1⟩
    have X1 := hide (X0.out.next hbt1 HP.out)
    clear hbt1
    obtain ⟨-, hw1, -, q0, q1, q2, q3, q4, q5, q6⟩ := X1.out
    go_wp2_with fail
    refine (HF.out _ hw1 hct1).mono ?_
    rintro e w2 ⟨ok2, rfl, hok2, hbt2, hst2⟩
    have X2 := hide (X1.out.next hbt2 HP.out)
    have HOK2 := hide hok2
    have HST2 := hide hst2
    clear hbt2 hok2 hst2 q0 q1 q2 q3 q4 q5 q6
    obtain ⟨-, hw2, -, q0, q1, q2, q3, q4, q5, q6⟩ := X2.out
    cases ok2
    · go_wp2
      all_goals go_ret
      all_goals exact ⟨false, retB (by first | rfl | simp_all), ⟨(fun h => by cases h), fun h => HOK2.out.2 (HG.out.1 h).2⟩, X2.out.1, (fun h => by cases h)⟩
    · go_wp2
      all_goals go_ret
      all_goals exact ⟨true, retB (by first | rfl | simp_all), ⟨fun _ => HG.out.2 ⟨(by first | rfl | trivial), HOK2.out.1 (by first | rfl | trivial)⟩, fun _ => rfl⟩, X2.out.1, fun _ => (by rw [HCE.out]; exact HST2.out (by first | rfl | trivial))⟩
theorem one49_kid (m : Nat) (IH : ExE m) : ∀ n x lo va w0 w p c d, NdIn m n lo w0 x va → Below w0.heap.size w0 w → w0.heap.size ≤ p → Ctr w p c → 0 ≤ c → c ≤ 2048 → 0 ≤ d → d ≤ 25 → x.kind = 22 →
    Calls Try.prog 49 #[.pointer (some ⟨p, 0, none⟩), va, .int .i64 d] w fun e w' => GivesOk p (Gd (lamB (exprN m true) (usesN m) x) c d m x) (c + sizeN m x) w e w' := by
  intro n x lo va w0 w p c d hx hw hp hct hc0 hc hd0 hd h22
  have := one49_lam m IH n x lo va w0 w p c d hx.deeper hw hp hct hc0 hc hd0 hd h22
  unfold Gd at this ⊢
  rw [(fuel_up hx).1, (fuel_up hx).2] at this
  exact this

set_option maxHeartbeats 8000000 in
theorem one49 (m : Nat) (IH : ExE m) : FunC 49 (m + 1) (moB (exprN m true) (usesN m)) := by
  intro n x lo va w0 w p c d hx hw hp hct hc0 hc hd0 hd
  have hxx := hx
  obtain ⟨m', hm', a1, c1, a2, c2, ak, ck, rfl, hA, hl, hs, hK⟩ := hx.letters
  obtain rfl : m = m' := by omega
  have hpl := hct.lt
  have X0 := hide (bw_new (p := p) hw x.kind x.op x.name (.slice a1 x.lit.shape.length c1) (.slice a2 x.lit.cells.length c2) (.slice ak x.kids.length ck) x.pos)
  have hct0 : Ctr (w.alloc (.cells #[.int .i64 x.kind, .int .i64 x.op, .string x.name, .slice a1 x.lit.shape.length c1, .slice a2 x.lit.cells.length c2, .slice ak x.kids.length ck, .int .i64 x.pos] 28)) p c := hct.next (one_alloc _ _)
  have hw0 := X0.out.2.1
  have HP : Hid (w0.heap.size ≤ p ∧ w.heap.size ≠ p ∧ w0.heap.size ≤ w.heap.size) := ⟨hp, by omega, hw.size⟩
  have HEN : Hid (∀ wr, Ctr wr p c → Calls Try.prog 48 #[.pointer (some ⟨p, 0, none⟩), .agg #[.int .i64 x.kind, .int .i64 x.op, .string x.name, .slice a1 x.lit.shape.length c1, .slice a2 x.lit.cells.length c2, .slice ak x.kids.length ck, .int .i64 x.pos], .int .i64 d] wr fun e w' => e = .returned (.bool (entX c d x)) ∧ But (· = p) wr w' ∧ Ctr w' p (c + 1)) := fun wr h => enter48 _ _ _ _ _ _ _ _ _ _ _ _ _ c d p wr h hc0 hc
  by_cases h21 : x.kind = 21
  · have HFR := hide (fun wr => from43 x.op 1 19 wr)
    have HG := hide (gd0 (m := m) (c := c) (d := d) (ent_prim h21) (show moB (exprN m true) (usesN m) x = (bareB x 0 true false false && frm x.op 1 19) by unfold moB; rw [if_pos h21]; exact prim_eq 1 19 h21))
    have HCE : Hid (entX c d x = true → c + (sizeN (m + 1) x : Int) = c + 1) := fun h => by rw [size0 (ent_len (k := 0) h (ent_prim h21))]; rfl
    generalize frm x.op 1 19 = FR at *
    generalize Gd (moB (exprN m true) (usesN m) x) c d (m + 1) x = GD at *
    generalize c + (sizeN (m + 1) x : Int) = CE at *
    generalize entX c d x = EN at *
    clear hxx hA hK hct hw hx hpl
    generalize x.kids.length = LK at *
    generalize x.kind = K at *
    generalize x.op = O at *
    generalize x.name = S at *
    generalize x.pos = P at *
    generalize x.lit.shape.length = L1 at *
    generalize x.lit.cells.length = L2 at *
    subst h21
    cases EN
    · go_enter Try.func49, Try.ntmps49
      go_wp2_with fail
      refine (HEN.out _ hct0).mono ?_
      rintro e w1 ⟨rfl, hbt1, hct1⟩
      have X1 := hide (X0.out.next hbt1 HP.out)
      clear hbt1
      obtain ⟨-, hw1, -, q0, q1, q2, q3, q4, q5, q6⟩ := X1.out
      go_wp2
      all_goals go_ret
      all_goals exact ⟨false, retB (by first | rfl | simp_all), ⟨(fun h => by cases h), fun h => (HG.out.1 h).1⟩, X1.out.1, (fun h => by cases h)⟩
    · have HCE' := hide (HCE.out rfl)
      cases FR
      · go_enter Try.func49, Try.ntmps49
        go_wp2_with fail
        refine (HEN.out _ hct0).mono ?_
        rintro e w1 ⟨rfl, hbt1, hct1⟩
        have X1 := hide (X0.out.next hbt1 HP.out)
        clear hbt1
        obtain ⟨-, hw1, -, q0, q1, q2, q3, q4, q5, q6⟩ := X1.out
        go_wp2_with fail
        refine (HFR.out _).mono ?_
        rintro e w2 ⟨rfl, hb2⟩
        have hct2 := hct1.next hb2
        have X2 := hide (X1.out.next (But.of hb2) HP.out)
        clear hb2 q0 q1 q2 q3 q4 q5 q6
        obtain ⟨-, hw2, -, q0, q1, q2, q3, q4, q5, q6⟩ := X2.out
        go_wp2
        all_goals go_ret
        all_goals exact ⟨false, retB (by first | rfl | simp_all), ⟨(fun h => by cases h), fun h => (HG.out.1 h).2⟩, X2.out.1, (fun h => by cases h)⟩
      · go_enter Try.func49, Try.ntmps49
        go_wp2_with fail
        refine (HEN.out _ hct0).mono ?_
        rintro e w1 ⟨rfl, hbt1, hct1⟩
        have X1 := hide (X0.out.next hbt1 HP.out)
        clear hbt1
        obtain ⟨-, hw1, -, q0, q1, q2, q3, q4, q5, q6⟩ := X1.out
        go_wp2_with fail
        refine (HFR.out _).mono ?_
        rintro e w2 ⟨rfl, hb2⟩
        have hct2 := hct1.next hb2
        have X2 := hide (X1.out.next (But.of hb2) HP.out)
        clear hb2 q0 q1 q2 q3 q4 q5 q6
        obtain ⟨-, hw2, -, q0, q1, q2, q3, q4, q5, q6⟩ := X2.out
        go_wp2
        all_goals go_ret
        all_goals exact ⟨true, retB (by first | rfl | simp_all), ⟨fun _ => HG.out.2 ⟨(by first | rfl | trivial), (by first | rfl | trivial)⟩, fun _ => rfl⟩, X2.out.1, fun _ => by rw [HCE'.out]; exact hct2⟩
  by_cases h22 : x.kind = 22
  · clear h21
    have HG := hide (gd1 (m := m) (c := c) (d := d) (ent_one (by omega)) (show moB (exprN m true) (usesN m) x = (bareB x 1 false false false && txB (exprN m true) (usesN m) x.kind (kd x 0)) by unfold moB; rw [if_neg (by omega), if_pos h22]; exact lam_eq _ _ x))
    cases hEN : entX c d x with
    | false =>
      rw [hEN] at HEN HG
      generalize Gd (moB (exprN m true) (usesN m) x) c d (m + 1) x = GD at *
      generalize c + (sizeN (m + 1) x : Int) = CE at *
      clear hxx hA hK hct hw hx hpl
      generalize x.kids.length = LK at *
      generalize x.kind = K at *
      generalize x.op = O at *
      generalize x.name = S at *
      generalize x.pos = P at *
      generalize x.lit.shape.length = L1 at *
      generalize x.lit.cells.length = L2 at *
      subst h22
      go_enter Try.func49, Try.ntmps49
      go_wp2_with fail
      refine (HEN.out _ hct0).mono ?_
      rintro e w1 ⟨rfl, hbt1, hct1⟩
      have X1 := hide (X0.out.next hbt1 HP.out)
      clear hbt1
      obtain ⟨-, hw1, -, q0, q1, q2, q3, q4, q5, q6⟩ := X1.out
      go_wp2
      all_goals go_ret
      all_goals exact ⟨false, retB (by first | rfl | simp_all), ⟨(fun h => by cases h), fun h => (HG.out.1 h).1⟩, X1.out.1, (fun h => by cases h)⟩
    | true =>
      rw [hEN] at HEN HG
      have hlen := ent_len (k := 1) hEN (ent_one (by omega))
      obtain ⟨hr1, hr2⟩ := ent_room hEN
      have HCE : Hid (c + (sizeN (m + 1) x : Int) = c + 1 + (sizeN m (kd x 0) : Int)) := by show _ = _; rw [size1 hlen]; omega
      have HF := hide (fun wr (hwr : Below w0.heap.size w0 wr) (hc1 : Ctr wr p (c + 1)) => text65 m IH n x lo _ w0 wr p (c + 1) d hxx hlen hwr hp hc1 (by omega) (by omega) (by omega) (by omega))
      generalize Gd (moB (exprN m true) (usesN m) x) c d (m + 1) x = GD at *
      generalize Gd (txB (exprN m true) (usesN m) x.kind (kd x 0)) (c + 1) (d + 1) m (kd x 0) = GK at *
      generalize c + (sizeN (m + 1) x : Int) = CE at *
      generalize c + 1 + (sizeN m (kd x 0) : Int) = CK at *
      clear hEN hlen
      clear hxx hA hK hct hw hx hpl
      generalize x.kids.length = LK at *
      generalize x.kind = K at *
      generalize x.op = O at *
      generalize x.name = S at *
      generalize x.pos = P at *
      generalize x.lit.shape.length = L1 at *
      generalize x.lit.cells.length = L2 at *
      subst h22
      go_enter Try.func49, Try.ntmps49
      go_wp2_with fail
      refine (HEN.out _ hct0).mono ?_
      rintro e w1 ⟨rfl, hbt1, hct1⟩
      have X1 := hide (X0.out.next hbt1 HP.out)
      clear hbt1
      obtain ⟨-, hw1, -, q0, q1, q2, q3, q4, q5, q6⟩ := X1.out
      go_wp2_with fail
      refine (HF.out _ hw1 hct1).mono ?_
      rintro e w2 ⟨ok2, rfl, hok2, hbt2, hst2⟩
      have X2 := hide (X1.out.next hbt2 HP.out)
      have HOK2 := hide hok2
      have HST2 := hide hst2
      clear hbt2 hok2 hst2 q0 q1 q2 q3 q4 q5 q6
      obtain ⟨-, hw2, -, q0, q1, q2, q3, q4, q5, q6⟩ := X2.out
      cases ok2
      · go_wp2
        all_goals go_ret
        all_goals exact ⟨false, retB (by first | rfl | simp_all), ⟨(fun h => by cases h), fun h => HOK2.out.2 (HG.out.1 h).2⟩, X2.out.1, (fun h => by cases h)⟩
      · go_wp2
        all_goals go_ret
        all_goals exact ⟨true, retB (by first | rfl | simp_all), ⟨fun _ => HG.out.2 ⟨(by first | rfl | trivial), HOK2.out.1 (by first | rfl | trivial)⟩, fun _ => rfl⟩, X2.out.1, fun _ => (by rw [HCE.out]; exact HST2.out (by first | rfl | trivial))⟩
  by_cases h3 : x.kind = 31 ∨ x.kind = 32 ∨ x.kind = 33 ∨ x.kind = 34
  · have HK3 := hide h3
    have HG := hide (gd1 (m := m) (c := c) (d := d) (ent_one (by omega)) (show moB (exprN m true) (usesN m) x = (bareB x 1 false false false && betB (kd x 0)) by unfold moB kd; rw [if_neg h21, if_neg h22, if_pos h3]))
    cases hEN : entX c d x with
    | false =>
      rw [hEN] at HEN HG
      generalize Gd (moB (exprN m true) (usesN m) x) c d (m + 1) x = GD at *
      generalize c + (sizeN (m + 1) x : Int) = CE at *
      clear hxx hA hK hct hw hx hpl
      generalize x.kids.length = LK at *
      generalize x.kind = K at *
      generalize x.op = O at *
      generalize x.name = S at *
      generalize x.pos = P at *
      generalize x.lit.shape.length = L1 at *
      generalize x.lit.cells.length = L2 at *
      clear h21 h22 h3
      rcases HK3.out with rfl | rfl | rfl | rfl
      · go_enter Try.func49, Try.ntmps49
        go_wp2_with fail
        refine (HEN.out _ hct0).mono ?_
        rintro e w1 ⟨rfl, hbt1, hct1⟩
        have X1 := hide (X0.out.next hbt1 HP.out)
        clear hbt1
        obtain ⟨-, hw1, -, q0, q1, q2, q3, q4, q5, q6⟩ := X1.out
        go_wp2
        all_goals go_ret
        all_goals exact ⟨false, retB (by first | rfl | simp_all), ⟨(fun h => by cases h), fun h => (HG.out.1 h).1⟩, X1.out.1, (fun h => by cases h)⟩
      · go_enter Try.func49, Try.ntmps49
        go_wp2_with fail
        refine (HEN.out _ hct0).mono ?_
        rintro e w1 ⟨rfl, hbt1, hct1⟩
        have X1 := hide (X0.out.next hbt1 HP.out)
        clear hbt1
        obtain ⟨-, hw1, -, q0, q1, q2, q3, q4, q5, q6⟩ := X1.out
        go_wp2
        all_goals go_ret
        all_goals exact ⟨false, retB (by first | rfl | simp_all), ⟨(fun h => by cases h), fun h => (HG.out.1 h).1⟩, X1.out.1, (fun h => by cases h)⟩
      · go_enter Try.func49, Try.ntmps49
        go_wp2_with fail
        refine (HEN.out _ hct0).mono ?_
        rintro e w1 ⟨rfl, hbt1, hct1⟩
        have X1 := hide (X0.out.next hbt1 HP.out)
        clear hbt1
        obtain ⟨-, hw1, -, q0, q1, q2, q3, q4, q5, q6⟩ := X1.out
        go_wp2
        all_goals go_ret
        all_goals exact ⟨false, retB (by first | rfl | simp_all), ⟨(fun h => by cases h), fun h => (HG.out.1 h).1⟩, X1.out.1, (fun h => by cases h)⟩
      · go_enter Try.func49, Try.ntmps49
        go_wp2_with fail
        refine (HEN.out _ hct0).mono ?_
        rintro e w1 ⟨rfl, hbt1, hct1⟩
        have X1 := hide (X0.out.next hbt1 HP.out)
        clear hbt1
        obtain ⟨-, hw1, -, q0, q1, q2, q3, q4, q5, q6⟩ := X1.out
        go_wp2
        all_goals go_ret
        all_goals exact ⟨false, retB (by first | rfl | simp_all), ⟨(fun h => by cases h), fun h => (HG.out.1 h).1⟩, X1.out.1, (fun h => by cases h)⟩
    | true =>
      rw [hEN] at HEN HG
      have hlen := ent_len (k := 1) hEN (ent_one (by omega))
      obtain ⟨hr1, hr2⟩ := ent_room hEN
      have HCE : Hid (c + (sizeN (m + 1) x : Int) = c + 1 + (sizeN m (kd x 0) : Int)) := by show _ = _; rw [size1 hlen]; omega
      obtain ⟨b, off, rfl, hbb, hkk⟩ := kids_base hK (by omega)
      obtain ⟨K0, O0, S0, A10, L10, C10, A20, L20, C20, AK0, LK0, CK0, P0, hkw0⟩ := hkk 0 (by omega)
      simp only [Nat.zero_mul, Nat.add_zero] at hkw0
      have HKW0 := hide (fun wr hwr => And.intro (hkw0 wr hwr).1 trivial)
      have HF := hide (fun wr (hwr : Below w0.heap.size w0 wr) (hc1 : Ctr wr p (c + 1)) => (between66 m).kid n (kd x 0) lo _ w0 wr p (c + 1) (d + 1) (hkw0 w0 (Below.refl _ _)).2.1 hwr hp hc1 (by omega) (by omega) (by omega) (by omega))
      have hd1 : IntKind.i64.wrap (d + 1) = d + 1 := IntWalk.i64_in _ ⟨by omega, by omega⟩
      generalize Gd (moB (exprN m true) (usesN m) x) c d (m + 1) x = GD at *
      generalize Gd (betB (kd x 0)) (c + 1) (d + 1) m (kd x 0) = GK at *
      generalize c + (sizeN (m + 1) x : Int) = CE at *
      generalize c + 1 + (sizeN m (kd x 0) : Int) = CK at *
      clear hkk hkw0 hEN
      rw [hlen] at *
      clear hlen
      clear hxx hA hK hct hw hx hpl
      generalize x.kind = K at *
      generalize x.op = O at *
      generalize x.name = S at *
      generalize x.pos = P at *
      generalize x.lit.shape.length = L1 at *
      generalize x.lit.cells.length = L2 at *
      clear h21 h22 h3
      rcases HK3.out with rfl | rfl | rfl | rfl
      · go_enter Try.func49, Try.ntmps49
        obtain ⟨⟨g00, g01, g02, g03, g04, g05, g06⟩, -⟩ := HKW0.out _ hw0
        go_wp2_with fail
        refine (HEN.out _ hct0).mono ?_
        rintro e w1 ⟨rfl, hbt1, hct1⟩
        have X1 := hide (X0.out.next hbt1 HP.out)
        clear hbt1 g00 g01 g02 g03 g04 g05 g06
        obtain ⟨-, hw1, -, q0, q1, q2, q3, q4, q5, q6⟩ := X1.out
        obtain ⟨⟨g00, g01, g02, g03, g04, g05, g06⟩, -⟩ := HKW0.out _ hw1
        go_wp2_with fail
        refine (HF.out _ hw1 hct1).mono ?_
        rintro e w2 ⟨ok2, rfl, hok2, hbt2, hst2⟩
        have X2 := hide (X1.out.next hbt2 HP.out)
        have HOK2 := hide hok2
        have HST2 := hide hst2
        clear hbt2 hok2 hst2 g00 g01 g02 g03 g04 g05 g06 q0 q1 q2 q3 q4 q5 q6
        obtain ⟨-, hw2, -, q0, q1, q2, q3, q4, q5, q6⟩ := X2.out
        obtain ⟨⟨g00, g01, g02, g03, g04, g05, g06⟩, -⟩ := HKW0.out _ hw2
        cases ok2
        · go_wp2
          all_goals go_ret
          all_goals exact ⟨false, retB (by first | rfl | simp_all), ⟨(fun h => by cases h), fun h => HOK2.out.2 (HG.out.1 h).2⟩, X2.out.1, (fun h => by cases h)⟩
        · go_wp2
          all_goals go_ret
          all_goals exact ⟨true, retB (by first | rfl | simp_all), ⟨fun _ => HG.out.2 ⟨(by first | rfl | trivial), HOK2.out.1 (by first | rfl | trivial)⟩, fun _ => rfl⟩, X2.out.1, fun _ => (by rw [HCE.out]; exact HST2.out (by first | rfl | trivial))⟩
      · go_enter Try.func49, Try.ntmps49
        obtain ⟨⟨g00, g01, g02, g03, g04, g05, g06⟩, -⟩ := HKW0.out _ hw0
        go_wp2_with fail
        refine (HEN.out _ hct0).mono ?_
        rintro e w1 ⟨rfl, hbt1, hct1⟩
        have X1 := hide (X0.out.next hbt1 HP.out)
        clear hbt1 g00 g01 g02 g03 g04 g05 g06
        obtain ⟨-, hw1, -, q0, q1, q2, q3, q4, q5, q6⟩ := X1.out
        obtain ⟨⟨g00, g01, g02, g03, g04, g05, g06⟩, -⟩ := HKW0.out _ hw1
        go_wp2_with fail
        refine (HF.out _ hw1 hct1).mono ?_
        rintro e w2 ⟨ok2, rfl, hok2, hbt2, hst2⟩
        have X2 := hide (X1.out.next hbt2 HP.out)
        have HOK2 := hide hok2
        have HST2 := hide hst2
        clear hbt2 hok2 hst2 g00 g01 g02 g03 g04 g05 g06 q0 q1 q2 q3 q4 q5 q6
        obtain ⟨-, hw2, -, q0, q1, q2, q3, q4, q5, q6⟩ := X2.out
        obtain ⟨⟨g00, g01, g02, g03, g04, g05, g06⟩, -⟩ := HKW0.out _ hw2
        cases ok2
        · go_wp2
          all_goals go_ret
          all_goals exact ⟨false, retB (by first | rfl | simp_all), ⟨(fun h => by cases h), fun h => HOK2.out.2 (HG.out.1 h).2⟩, X2.out.1, (fun h => by cases h)⟩
        · go_wp2
          all_goals go_ret
          all_goals exact ⟨true, retB (by first | rfl | simp_all), ⟨fun _ => HG.out.2 ⟨(by first | rfl | trivial), HOK2.out.1 (by first | rfl | trivial)⟩, fun _ => rfl⟩, X2.out.1, fun _ => (by rw [HCE.out]; exact HST2.out (by first | rfl | trivial))⟩
      · go_enter Try.func49, Try.ntmps49
        obtain ⟨⟨g00, g01, g02, g03, g04, g05, g06⟩, -⟩ := HKW0.out _ hw0
        go_wp2_with fail
        refine (HEN.out _ hct0).mono ?_
        rintro e w1 ⟨rfl, hbt1, hct1⟩
        have X1 := hide (X0.out.next hbt1 HP.out)
        clear hbt1 g00 g01 g02 g03 g04 g05 g06
        obtain ⟨-, hw1, -, q0, q1, q2, q3, q4, q5, q6⟩ := X1.out
        obtain ⟨⟨g00, g01, g02, g03, g04, g05, g06⟩, -⟩ := HKW0.out _ hw1
        go_wp2_with fail
        refine (HF.out _ hw1 hct1).mono ?_
        rintro e w2 ⟨ok2, rfl, hok2, hbt2, hst2⟩
        have X2 := hide (X1.out.next hbt2 HP.out)
        have HOK2 := hide hok2
        have HST2 := hide hst2
        clear hbt2 hok2 hst2 g00 g01 g02 g03 g04 g05 g06 q0 q1 q2 q3 q4 q5 q6
        obtain ⟨-, hw2, -, q0, q1, q2, q3, q4, q5, q6⟩ := X2.out
        obtain ⟨⟨g00, g01, g02, g03, g04, g05, g06⟩, -⟩ := HKW0.out _ hw2
        cases ok2
        · go_wp2
          all_goals go_ret
          all_goals exact ⟨false, retB (by first | rfl | simp_all), ⟨(fun h => by cases h), fun h => HOK2.out.2 (HG.out.1 h).2⟩, X2.out.1, (fun h => by cases h)⟩
        · go_wp2
          all_goals go_ret
          all_goals exact ⟨true, retB (by first | rfl | simp_all), ⟨fun _ => HG.out.2 ⟨(by first | rfl | trivial), HOK2.out.1 (by first | rfl | trivial)⟩, fun _ => rfl⟩, X2.out.1, fun _ => (by rw [HCE.out]; exact HST2.out (by first | rfl | trivial))⟩
      · go_enter Try.func49, Try.ntmps49
        obtain ⟨⟨g00, g01, g02, g03, g04, g05, g06⟩, -⟩ := HKW0.out _ hw0
        go_wp2_with fail
        refine (HEN.out _ hct0).mono ?_
        rintro e w1 ⟨rfl, hbt1, hct1⟩
        have X1 := hide (X0.out.next hbt1 HP.out)
        clear hbt1 g00 g01 g02 g03 g04 g05 g06
        obtain ⟨-, hw1, -, q0, q1, q2, q3, q4, q5, q6⟩ := X1.out
        obtain ⟨⟨g00, g01, g02, g03, g04, g05, g06⟩, -⟩ := HKW0.out _ hw1
        go_wp2_with fail
        refine (HF.out _ hw1 hct1).mono ?_
        rintro e w2 ⟨ok2, rfl, hok2, hbt2, hst2⟩
        have X2 := hide (X1.out.next hbt2 HP.out)
        have HOK2 := hide hok2
        have HST2 := hide hst2
        clear hbt2 hok2 hst2 g00 g01 g02 g03 g04 g05 g06 q0 q1 q2 q3 q4 q5 q6
        obtain ⟨-, hw2, -, q0, q1, q2, q3, q4, q5, q6⟩ := X2.out
        obtain ⟨⟨g00, g01, g02, g03, g04, g05, g06⟩, -⟩ := HKW0.out _ hw2
        cases ok2
        · go_wp2
          all_goals go_ret
          all_goals exact ⟨false, retB (by first | rfl | simp_all), ⟨(fun h => by cases h), fun h => HOK2.out.2 (HG.out.1 h).2⟩, X2.out.1, (fun h => by cases h)⟩
        · go_wp2
          all_goals go_ret
          all_goals exact ⟨true, retB (by first | rfl | simp_all), ⟨fun _ => HG.out.2 ⟨(by first | rfl | trivial), HOK2.out.1 (by first | rfl | trivial)⟩, fun _ => rfl⟩, X2.out.1, fun _ => (by rw [HCE.out]; exact HST2.out (by first | rfl | trivial))⟩
  by_cases h35 : x.kind = 35
  · have HG := hide (gd1 (m := m) (c := c) (d := d) (ent_one (by omega)) (show moB (exprN m true) (usesN m) x = (bareB x 1 false false false && tnB (exprN m true) (usesN m) (kd x 0)) by unfold moB; rw [if_neg h21, if_neg h22, if_neg h3, if_pos h35]; exact tur_eq _ _ x))
    cases hEN : entX c d x with
    | false =>
      rw [hEN] at HEN HG
      generalize Gd (moB (exprN m true) (usesN m) x) c d (m + 1) x = GD at *
      generalize c + (sizeN (m + 1) x : Int) = CE at *
      clear hxx hA hK hct hw hx hpl
      generalize x.kids.length = LK at *
      generalize x.kind = K at *
      generalize x.op = O at *
      generalize x.name = S at *
      generalize x.pos = P at *
      generalize x.lit.shape.length = L1 at *
      generalize x.lit.cells.length = L2 at *
      clear h21 h22 h3
      subst h35
      go_enter Try.func49, Try.ntmps49
      go_wp2_with fail
      refine (HEN.out _ hct0).mono ?_
      rintro e w1 ⟨rfl, hbt1, hct1⟩
      have X1 := hide (X0.out.next hbt1 HP.out)
      clear hbt1
      obtain ⟨-, hw1, -, q0, q1, q2, q3, q4, q5, q6⟩ := X1.out
      go_wp2
      all_goals go_ret
      all_goals exact ⟨false, retB (by first | rfl | simp_all), ⟨(fun h => by cases h), fun h => (HG.out.1 h).1⟩, X1.out.1, (fun h => by cases h)⟩
    | true =>
      rw [hEN] at HEN HG
      have hlen := ent_len (k := 1) hEN (ent_one (by omega))
      obtain ⟨hr1, hr2⟩ := ent_room hEN
      have HCE : Hid (c + (sizeN (m + 1) x : Int) = c + 1 + (sizeN m (kd x 0) : Int)) := by show _ = _; rw [size1 hlen]; omega
      obtain ⟨b, off, rfl, hbb, hkk⟩ := kids_base hK (by omega)
      obtain ⟨K0, O0, S0, A10, L10, C10, A20, L20, C20, AK0, LK0, CK0, P0, hkw0⟩ := hkk 0 (by omega)
      simp only [Nat.zero_mul, Nat.add_zero] at hkw0
      have HKW0 := hide (fun wr hwr => And.intro (hkw0 wr hwr).1 trivial)
      have HF := hide (fun wr (hwr : Below w0.heap.size w0 wr) (hc1 : Ctr wr p (c + 1)) => (turned67 m IH).kid n (kd x 0) lo _ w0 wr p (c + 1) (d + 1) (hkw0 w0 (Below.refl _ _)).2.1 hwr hp hc1 (by omega) (by omega) (by omega) (by omega))
      have hd1 : IntKind.i64.wrap (d + 1) = d + 1 := IntWalk.i64_in _ ⟨by omega, by omega⟩
      generalize Gd (moB (exprN m true) (usesN m) x) c d (m + 1) x = GD at *
      generalize Gd (tnB (exprN m true) (usesN m) (kd x 0)) (c + 1) (d + 1) m (kd x 0) = GK at *
      generalize c + (sizeN (m + 1) x : Int) = CE at *
      generalize c + 1 + (sizeN m (kd x 0) : Int) = CK at *
      clear hkk hkw0 hEN
      rw [hlen] at *
      clear hlen
      clear hxx hA hK hct hw hx hpl
      generalize x.kind = K at *
      generalize x.op = O at *
      generalize x.name = S at *
      generalize x.pos = P at *
      generalize x.lit.shape.length = L1 at *
      generalize x.lit.cells.length = L2 at *
      clear h21 h22 h3
      subst h35
      go_enter Try.func49, Try.ntmps49
      obtain ⟨⟨g00, g01, g02, g03, g04, g05, g06⟩, -⟩ := HKW0.out _ hw0
      go_wp2_with fail
      refine (HEN.out _ hct0).mono ?_
      rintro e w1 ⟨rfl, hbt1, hct1⟩
      have X1 := hide (X0.out.next hbt1 HP.out)
      clear hbt1 g00 g01 g02 g03 g04 g05 g06
      obtain ⟨-, hw1, -, q0, q1, q2, q3, q4, q5, q6⟩ := X1.out
      obtain ⟨⟨g00, g01, g02, g03, g04, g05, g06⟩, -⟩ := HKW0.out _ hw1
      go_wp2_with fail
      refine (HF.out _ hw1 hct1).mono ?_
      rintro e w2 ⟨ok2, rfl, hok2, hbt2, hst2⟩
      have X2 := hide (X1.out.next hbt2 HP.out)
      have HOK2 := hide hok2
      have HST2 := hide hst2
      clear hbt2 hok2 hst2 g00 g01 g02 g03 g04 g05 g06 q0 q1 q2 q3 q4 q5 q6
      obtain ⟨-, hw2, -, q0, q1, q2, q3, q4, q5, q6⟩ := X2.out
      obtain ⟨⟨g00, g01, g02, g03, g04, g05, g06⟩, -⟩ := HKW0.out _ hw2
      cases ok2
      · go_wp2
        all_goals go_ret
        all_goals exact ⟨false, retB (by first | rfl | simp_all), ⟨(fun h => by cases h), fun h => HOK2.out.2 (HG.out.1 h).2⟩, X2.out.1, (fun h => by cases h)⟩
      · go_wp2
        all_goals go_ret
        all_goals exact ⟨true, retB (by first | rfl | simp_all), ⟨fun _ => HG.out.2 ⟨(by first | rfl | trivial), HOK2.out.1 (by first | rfl | trivial)⟩, fun _ => rfl⟩, X2.out.1, fun _ => (by rw [HCE.out]; exact HST2.out (by first | rfl | trivial))⟩
  have h31 : ¬ x.kind = 31 := fun h => h3 (by omega)
  have h32 : ¬ x.kind = 32 := fun h => h3 (by omega)
  have h33 : ¬ x.kind = 33 := fun h => h3 (by omega)
  have h34 : ¬ x.kind = 34 := fun h => h3 (by omega)
  by_cases h26 : x.kind = 26
  · have HFR := hide (fun wr => from43 x.op 0 4096 wr)
    have HG := hide (gd1 (m := m) (c := c) (d := d) (ent_pow h26) (show moB (exprN m true) (usesN m) x = (bareB x 1 true false false && (decide (0 ≤ x.op) && decide (x.op ≤ 4096) && decide ((kd x 0).kind = 22) && lamB (exprN m true) (usesN m) (kd x 0))) by unfold moB kd; rw [if_neg h21, if_neg h22, if_neg h3, if_neg h35, if_pos h26]; simp only [Bool.and_assoc]))
    have HGK : Hid (Gd (decide (0 ≤ x.op) && decide (x.op ≤ 4096) && decide ((kd x 0).kind = 22) && lamB (exprN m true) (usesN m) (kd x 0)) (c + 1) (d + 1) m (kd x 0) ↔ frm x.op 0 4096 = true ∧ (kd x 0).kind = 22 ∧ Gd (lamB (exprN m true) (usesN m) (kd x 0)) (c + 1) (d + 1) m (kd x 0)) := by
      show _ ↔ _
      simp only [Gd, frm, Bool.and_eq_true, decide_eq_true_eq]
      constructor
      · rintro ⟨⟨⟨⟨a, b⟩, c⟩, d⟩, e⟩; exact ⟨⟨a, b⟩, c, d, e⟩
      · rintro ⟨⟨a, b⟩, c, d, e⟩; exact ⟨⟨⟨⟨a, b⟩, c⟩, d⟩, e⟩
    clear h21 h22 h3 h31 h32 h33 h34 h35
    cases hEN : entX c d x with
    | false =>
      rw [hEN] at HEN HG
      generalize Gd (moB (exprN m true) (usesN m) x) c d (m + 1) x = GD at *
      generalize c + (sizeN (m + 1) x : Int) = CE at *
      clear HGK
      clear hxx hA hK hct hw hx hpl
      generalize x.kids.length = LK at *
      generalize x.kind = K at *
      generalize x.op = O at *
      generalize x.name = S at *
      generalize x.pos = P at *
      generalize x.lit.shape.length = L1 at *
      generalize x.lit.cells.length = L2 at *
      subst h26
      go_enter Try.func49, Try.ntmps49
      go_wp2_with fail
      refine (HEN.out _ hct0).mono ?_
      rintro e w1 ⟨rfl, hbt1, hct1⟩
      have X1 := hide (X0.out.next hbt1 HP.out)
      clear hbt1
      obtain ⟨-, hw1, -, q0, q1, q2, q3, q4, q5, q6⟩ := X1.out
      go_wp2
      all_goals go_ret
      all_goals exact ⟨false, retB (by first | rfl | simp_all), ⟨(fun h => by cases h), fun h => (HG.out.1 h).1⟩, X1.out.1, (fun h => by cases h)⟩
    | true =>
      rw [hEN] at HEN HG
      have hlen := ent_len (k := 1) hEN (ent_pow h26)
      obtain ⟨hr1, hr2⟩ := ent_room hEN
      have HCE : Hid (c + (sizeN (m + 1) x : Int) = c + 1 + (sizeN m (kd x 0) : Int)) := by show _ = _; rw [size1 hlen]; omega
      obtain ⟨b, off, rfl, hbb, hkk⟩ := kids_base hK (by omega)
      obtain ⟨K0, O0, S0, A10, L10, C10, A20, L20, C20, AK0, LK0, CK0, P0, hkw0⟩ := hkk 0 (by omega)
      simp only [Nat.zero_mul, Nat.add_zero] at hkw0
      have HKW0 := hide (fun wr hwr => And.intro (hkw0 wr hwr).1 trivial)
      obtain ⟨hK0, -⟩ := (hkw0 w0 (Below.refl _ _)).2.2
      change K0 = (kd x 0).kind at hK0
      have HF := hide (fun (hk22 : K0 = 22) wr (hwr : Below w0.heap.size w0 wr) (hc1 : Ctr wr p (c + 1)) => one49_kid m IH n (kd x 0) lo _ w0 wr p (c + 1) (d + 1) (hkw0 w0 (Below.refl _ _)).2.1 hwr hp hc1 (by omega) (by omega) (by omega) (by omega) (by rw [← hK0]; exact hk22))
      have hd1 : IntKind.i64.wrap (d + 1) = d + 1 := IntWalk.i64_in _ ⟨by omega, by omega⟩
      generalize Gd (moB (exprN m true) (usesN m) x) c d (m + 1) x = GD at *
      generalize Gd (decide (0 ≤ x.op) && decide (x.op ≤ 4096) && decide ((kd x 0).kind = 22) && lamB (exprN m true) (usesN m) (kd x 0)) (c + 1) (d + 1) m (kd x 0) = GK at *
      rw [← hK0] at HGK
      generalize Gd (lamB (exprN m true) (usesN m) (kd x 0)) (c + 1) (d + 1) m (kd x 0) = GL at *
      generalize frm x.op 0 4096 = FR at *
      generalize c + (sizeN (m + 1) x : Int) = CE at *
      generalize c + 1 + (sizeN m (kd x 0) : Int) = CK at *
      clear hkk hkw0 hEN hK0
      rw [hlen] at *
      clear hlen
      clear hxx hA hK hct hw hx hpl
      generalize x.kind = K at *
      generalize x.op = O at *
      generalize x.name = S at *
      generalize x.pos = P at *
      generalize x.lit.shape.length = L1 at *
      generalize x.lit.cells.length = L2 at *
      subst h26
      go_enter Try.func49, Try.ntmps49
      obtain ⟨⟨g00, g01, g02, g03, g04, g05, g06⟩, -⟩ := HKW0.out _ hw0
      go_wp2_with fail
      refine (HEN.out _ hct0).mono ?_
      rintro e w1 ⟨rfl, hbt1, hct1⟩
      have X1 := hide (X0.out.next hbt1 HP.out)
      clear hbt1 g00 g01 g02 g03 g04 g05 g06
      obtain ⟨-, hw1, -, q0, q1, q2, q3, q4, q5, q6⟩ := X1.out
      obtain ⟨⟨g00, g01, g02, g03, g04, g05, g06⟩, -⟩ := HKW0.out _ hw1
      have Y2 := hide (box7_new w1 K0 O0 S0 (.slice A10 L10 C10) (.slice A20 L20 C20) (.slice AK0 LK0 CK0) P0)
      have hct2 : Ctr (w1.alloc (.cells #[.int .i64 K0, .int .i64 O0, .string S0, .slice A10 L10 C10, .slice A20 L20 C20, .slice AK0 LK0 CK0, .int .i64 P0] 28)) p (c + 1) := hct1.next (one_alloc _ _)
      have X2 := hide (X1.out.next (But.of (one_alloc w1 (.cells #[.int .i64 K0, .int .i64 O0, .string S0, .slice A10 L10 C10, .slice A20 L20 C20, .slice AK0 LK0 CK0, .int .i64 P0] 28))) HP.out)
      obtain ⟨-, hw2, -, r0, r1, r2, r3, r4, r5, r6⟩ := X2.out
      go_wp2_with fail
      refine (HFR.out _).mono ?_
      rintro e w3 ⟨rfl, hb3⟩
      have hct3 := hct2.next hb3
      have X3 := hide (X2.out.next (But.of hb3) HP.out)
      have Y3 := hide (Y2.out.next hb3)
      clear hb3 r0 r1 r2 r3 r4 r5 r6 q0 q1 q2 q3 q4 q5 q6 g00 g01 g02 g03 g04 g05 g06
      obtain ⟨-, hw3, -⟩ := X3.out
      obtain ⟨-, -, y0, y1, y2, y3, y4, y5, y6⟩ := Y3.out
      cases FR
      · go_wp2
        all_goals go_ret
        all_goals exact ⟨false, retB (by first | rfl | simp_all), ⟨(fun h => by cases h), fun h => (HGK.out.1 (HG.out.1 h).2).1⟩, X3.out.1, (fun h => by cases h)⟩
      · by_cases hk22 : K0 = 22
        · have HF' := hide (HF.out hk22)
          subst hk22
          go_wp2_with fail
          refine (HF'.out _ hw3 hct3).mono ?_
          rintro e w4 ⟨ok4, rfl, hok4, hbt4, hst4⟩
          have X4 := hide (X3.out.next hbt4 HP.out)
          have HOK4 := hide hok4
          have HST4 := hide hst4
          clear hbt4 hok4 hst4 y0 y1 y2 y3 y4 y5 y6
          cases ok4
          · go_wp2
            all_goals go_ret
            all_goals exact ⟨false, retB (by first | rfl | simp_all), ⟨(fun h => by cases h), fun h => HOK4.out.2 (HGK.out.1 (HG.out.1 h).2).2.2⟩, X4.out.1, (fun h => by cases h)⟩
          · go_wp2
            all_goals go_ret
            all_goals exact ⟨true, retB (by first | rfl | simp_all), ⟨fun _ => HG.out.2 ⟨(by first | rfl | trivial), HGK.out.2 ⟨(by first | rfl | trivial), (by first | rfl | trivial), HOK4.out.1 (by first | rfl | trivial)⟩⟩, fun _ => rfl⟩, X4.out.1, fun _ => (by rw [HCE.out]; exact HST4.out (by first | rfl | trivial))⟩
        · have hk22' : (K0 == 22) = false := beq_eq_false_iff_ne.2 hk22
          go_wp2
          all_goals go_ret
          all_goals exact ⟨false, retB (by first | rfl | simp_all), ⟨(fun h => by cases h), fun h => absurd (HGK.out.1 (HG.out.1 h).2).2.1 hk22⟩, X3.out.1, (fun h => by cases h)⟩
  · have HG := hide (not_gd (m := m + 1) (c := c) (d := d) (x := x) (show moB (exprN m true) (usesN m) x = false by unfold moB; rw [if_neg h21, if_neg h22, if_neg h3, if_neg h35, if_neg h26]))
    clear h3
    generalize Gd (moB (exprN m true) (usesN m) x) c d (m + 1) x = GD at *
    generalize c + (sizeN (m + 1) x : Int) = CE at *
    generalize entX c d x = EN at *
    clear hxx hA hK hct hw hx hpl
    generalize x.kids.length = LK at *
    generalize x.kind = K at *
    generalize x.op = O at *
    generalize x.name = S at *
    generalize x.pos = P at *
    generalize x.lit.shape.length = L1 at *
    generalize x.lit.cells.length = L2 at *
    have k21 : (K == 21) = false := beq_eq_false_iff_ne.2 h21
    have k22 : (K == 22) = false := beq_eq_false_iff_ne.2 h22
    have k31 : (K == 31) = false := beq_eq_false_iff_ne.2 h31
    have k32 : (K == 32) = false := beq_eq_false_iff_ne.2 h32
    have k33 : (K == 33) = false := beq_eq_false_iff_ne.2 h33
    have k34 : (K == 34) = false := beq_eq_false_iff_ne.2 h34
    have k35 : (K == 35) = false := beq_eq_false_iff_ne.2 h35
    have k26 : (K == 26) = false := beq_eq_false_iff_ne.2 h26
    cases EN
    · go_enter Try.func49, Try.ntmps49
      go_wp2_with fail
      refine (HEN.out _ hct0).mono ?_
      rintro e w1 ⟨rfl, hbt1, hct1⟩
      have X1 := hide (X0.out.next hbt1 HP.out)
      clear hbt1
      obtain ⟨-, hw1, -, q0, q1, q2, q3, q4, q5, q6⟩ := X1.out
      go_wp2
      all_goals go_ret
      all_goals exact ⟨false, retB (by first | rfl | simp_all), ⟨(fun h => by cases h), fun h => absurd h HG.out⟩, X1.out.1, (fun h => by cases h)⟩
    · go_enter Try.func49, Try.ntmps49
      go_wp2_with fail
      refine (HEN.out _ hct0).mono ?_
      rintro e w1 ⟨rfl, hbt1, hct1⟩
      have X1 := hide (X0.out.next hbt1 HP.out)
      clear hbt1
      obtain ⟨-, hw1, -, q0, q1, q2, q3, q4, q5, q6⟩ := X1.out
      go_wp2
      all_goals go_ret
      all_goals exact ⟨false, retB (by first | rfl | simp_all), ⟨(fun h => by cases h), fun h => absurd h HG.out⟩, X1.out.1, (fun h => by cases h)⟩
end Go.Proofs.Ytkgpoibnilgaeaa
