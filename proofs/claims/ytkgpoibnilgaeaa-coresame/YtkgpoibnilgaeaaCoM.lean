/-
  The program's walk: scalar, between, turnable, turned: what they promise; for all programs.
-/
import Derived.Test.YtkgpoibnilgaeaaCoL
namespace Go.Proofs.Ytkgpoibnilgaeaa
open Go.ChangeShapes Go.WideShapes Go.ChangeAt Go.RowKit
set_option linter.unusedVariables false
set_option linter.unusedSimpArgs false
/-- A boxed node while the walk's counter turns. -/
def Bw (w0 w : World) (p B : Nat) (K O : Int) (S : ByteArray) (s1 s2 sk : Value) (P : Int) (wr : World) : Prop :=
  But (· = p) w wr ∧ Below w0.heap.size w0 wr ∧ B < wr.heap.size ∧ wr.cell? ⟨B, 0, none⟩ = some (.int .i64 K) ∧ wr.cell? ⟨B, 1, none⟩ = some (.int .i64 O) ∧ wr.cell? ⟨B, 2, none⟩ = some (.string S) ∧ wr.cell? ⟨B, 3, none⟩ = some s1 ∧ wr.cell? ⟨B, 4, none⟩ = some s2 ∧ wr.cell? ⟨B, 5, none⟩ = some sk ∧ wr.cell? ⟨B, 6, none⟩ = some (.int .i64 P)
theorem bw_new {w0 w : World} {p : Nat} (hw : Below w0.heap.size w0 w) (K O : Int) (S : ByteArray) (s1 s2 sk : Value) (P : Int) : Bw w0 w p w.heap.size K O S s1 s2 sk P (w.alloc (.cells #[.int .i64 K, .int .i64 O, .string S, s1, s2, sk, .int .i64 P] 28)) := by
  obtain ⟨h, hs, r⟩ := box7_new w K O S s1 s2 sk P
  exact ⟨But.of h, hw.trans (h.mono hw.size), hs, r⟩
theorem Bw.next {w0 w : World} {p B : Nat} {K O : Int} {S : ByteArray} {s1 s2 sk : Value} {P : Int} {wr w' : World} (h : Bw w0 w p B K O S s1 s2 sk P wr) (hb : But (· = p) wr w') (hp : w0.heap.size ≤ p ∧ B ≠ p ∧ w0.heap.size ≤ w.heap.size) : Bw w0 w p B K O S s1 s2 sk P w' := by
  obtain ⟨h0, h1, hs, q0, q1, q2, q3, q4, q5, q6⟩ := h
  have hc : ∀ i, w'.cell? ⟨B, i, none⟩ = wr.cell? ⟨B, i, none⟩ := fun i => hb.cell (p := ⟨B, i, none⟩) hs hp.2.1
  refine ⟨h0.trans hb (fun _ _ h => h), h1.trans (hb.below h1.size (fun k hk => by have : k = p := hk; omega)), Nat.lt_of_lt_of_le hs hb.size, ?_, ?_, ?_, ?_, ?_, ?_, ?_⟩
  all_goals (rw [hc]; assumption)
theorem FunC.kid {f m : Nat} {g : Nd → Bool} (h : FunC f (m + 1) g) : FunC f m g := by
  intro n x lo va w0 w p c d hx hw hp hct hc0 hc hd0 hd
  have := h n x lo va w0 w p c d hx.deeper hw hp hct hc0 hc hd0 hd
  unfold Gd at this ⊢
  rw [(fuel_up hx).1, (fuel_up hx).2] at this
  exact this
theorem ent_len {c d : Int} {x : Nd} {k : Nat} {a b e : Bool} (h : entX c d x = true) (hb : entB x = bareB x k a b e) : x.kids.length = k := bareB_len (by rw [← hb]; exact ((entX_iff c d x).1 h).2)
theorem ent_room {c d : Int} {x : Nd} (h : entX c d x = true) : c + 1 ≤ 2048 ∧ d ≤ 24 := ((entX_iff c d x).1 h).1

set_option maxHeartbeats 4000000 in
theorem scalar82 (m : Nat) : FunC 82 (m + 1) (fun x => primB x 21 32) := by
  intro n x lo va w0 w p c d hx hw hp hct hc0 hc hd0 hd
  have hxx := hx
  obtain ⟨m', hm', a1, c1, a2, c2, ak, ck, rfl, hA, hl, hs, hK⟩ := hx.letters
  obtain rfl : m = m' := by omega
  have hpl := hct.lt
  have X0 := hide (bw_new (p := p) hw x.kind x.op x.name (.slice a1 x.lit.shape.length c1) (.slice a2 x.lit.cells.length c2) (.slice ak x.kids.length ck) x.pos)
  have hct0 : Ctr (w.alloc (.cells #[.int .i64 x.kind, .int .i64 x.op, .string x.name, .slice a1 x.lit.shape.length c1, .slice a2 x.lit.cells.length c2, .slice ak x.kids.length ck, .int .i64 x.pos] 28)) p c := hct.next (one_alloc _ _)
  have hw0 := X0.out.2.1
  have HP : Hid (w0.heap.size ≤ p ∧ w.heap.size ≠ p ∧ w0.heap.size ≤ w.heap.size) := ⟨hp, by omega, hw.size⟩
  have HEN : Hid (∀ wr, Ctr wr p c → Calls Try.prog 48 #[.pointer (some ⟨p, 0, none⟩), .agg #[.int .i64 x.kind, .int .i64 x.op, .string x.name, .slice a1 x.lit.shape.length c1, .slice a2 x.lit.cells.length c2, .slice ak x.kids.length ck, .int .i64 x.pos], .int .i64 d] wr fun e w' => e = .returned (.bool (entX c d x)) ∧ But (· = p) wr w' ∧ Ctr w' p (c + 1)) := fun wr h => enter48 _ _ _ _ _ _ _ _ _ _ _ _ _ c d p wr h hc0 hc
  have HSC := hide (fun wr => scalar19 x.op wr)
  show Calls Try.prog 82 _ w fun e w' => GivesOk p (Gd (primB x 21 32) c d (m + 1) x) _ w e w'
  by_cases hk : x.kind = 21
  · have HG := hide (gd0 (m := m) (c := c) (d := d) (ent_prim hk) (prim_eq 21 32 hk))
    have HCE : Hid (entX c d x = true → c + (sizeN (m + 1) x : Int) = c + 1) := fun h => by rw [size0 (ent_len (k := 0) h (ent_prim hk))]; rfl
    generalize frm x.op 21 32 = FR at *
    generalize Gd (primB x 21 32) c d (m + 1) x = GD at *
    generalize c + (sizeN (m + 1) x : Int) = CE at *
    generalize entX c d x = EN at *
    clear hxx hA hK hct hw hx hpl
    generalize x.kids.length = LK at *
    generalize x.kind = K at *
    generalize x.op = O at *
    generalize x.name = S at *
    generalize x.pos = P at *
    generalize x.lit.shape.length = L1 at *
    generalize x.lit.cells.length = L2 at *
    subst hk
    cases EN
    · go_enter Try.func82, Try.ntmps82
      go_wp2_with fail
      refine (HEN.out _ hct0).mono ?_
      rintro e w1 ⟨rfl, hbt1, hct1⟩
      have X1 := hide (X0.out.next hbt1 HP.out)
      clear hbt1
      obtain ⟨-, hw1, -, q0, q1, q2, q3, q4, q5, q6⟩ := X1.out
      go_wp2
      all_goals go_ret
      all_goals exact ⟨false, retB (by first | rfl | simp_all), ⟨(fun h => by cases h), fun h => (HG.out.1 h).1⟩, X1.out.1, (fun h => by cases h)⟩
    · have HCE' := hide (HCE.out rfl)
      cases FR
      · go_enter Try.func82, Try.ntmps82
        go_wp2_with fail
        refine (HEN.out _ hct0).mono ?_
        rintro e w1 ⟨rfl, hbt1, hct1⟩
        have X1 := hide (X0.out.next hbt1 HP.out)
        clear hbt1
        obtain ⟨-, hw1, -, q0, q1, q2, q3, q4, q5, q6⟩ := X1.out
        go_wp2_with fail
        refine (HSC.out _).mono ?_
        rintro e w2 ⟨rfl, hb2⟩
        have hct2 := hct1.next hb2
        have X2 := hide (X1.out.next (But.of hb2) HP.out)
        clear hb2 q0 q1 q2 q3 q4 q5 q6
        obtain ⟨-, hw2, -, q0, q1, q2, q3, q4, q5, q6⟩ := X2.out
        go_wp2
        all_goals go_ret
        all_goals exact ⟨false, retB (by first | rfl | simp_all), ⟨(fun h => by cases h), fun h => (HG.out.1 h).2⟩, X2.out.1, (fun h => by cases h)⟩
      · go_enter Try.func82, Try.ntmps82
        go_wp2_with fail
        refine (HEN.out _ hct0).mono ?_
        rintro e w1 ⟨rfl, hbt1, hct1⟩
        have X1 := hide (X0.out.next hbt1 HP.out)
        clear hbt1
        obtain ⟨-, hw1, -, q0, q1, q2, q3, q4, q5, q6⟩ := X1.out
        go_wp2_with fail
        refine (HSC.out _).mono ?_
        rintro e w2 ⟨rfl, hb2⟩
        have hct2 := hct1.next hb2
        have X2 := hide (X1.out.next (But.of hb2) HP.out)
        clear hb2 q0 q1 q2 q3 q4 q5 q6
        obtain ⟨-, hw2, -, q0, q1, q2, q3, q4, q5, q6⟩ := X2.out
        go_wp2
        all_goals go_ret
        all_goals exact ⟨true, retB (by first | rfl | simp_all), ⟨fun _ => HG.out.2 ⟨(by first | rfl | trivial), (by first | rfl | trivial)⟩, fun _ => rfl⟩, X2.out.1, fun _ => by rw [HCE'.out]; exact hct2⟩
  · have HG := hide (not_gd (m := m + 1) (c := c) (d := d) (x := x) (prim_no 21 32 hk))
    have hk' : (x.kind == 21) = false := beq_eq_false_iff_ne.2 hk
    generalize Gd (primB x 21 32) c d (m + 1) x = GD at *
    generalize c + (sizeN (m + 1) x : Int) = CE at *
    generalize entX c d x = EN at *
    clear hxx hA hK hct hw hx hpl
    generalize x.kids.length = LK at *
    generalize x.kind = K at *
    generalize x.op = O at *
    generalize x.name = S at *
    generalize x.pos = P at *
    generalize x.lit.shape.length = L1 at *
    generalize x.lit.cells.length = L2 at *
    cases EN
    · go_enter Try.func82, Try.ntmps82
      go_wp2_with fail
      refine (HEN.out _ hct0).mono ?_
      rintro e w1 ⟨rfl, hbt1, hct1⟩
      have X1 := hide (X0.out.next hbt1 HP.out)
      clear hbt1
      obtain ⟨-, hw1, -, q0, q1, q2, q3, q4, q5, q6⟩ := X1.out
      go_wp2
      all_goals go_ret
      all_goals exact ⟨false, retB (by first | rfl | simp_all), ⟨(fun h => by cases h), fun h => absurd h HG.out⟩, X1.out.1, (fun h => by cases h)⟩
    · go_enter Try.func82, Try.ntmps82
      go_wp2_with fail
      refine (HEN.out _ hct0).mono ?_
      rintro e w1 ⟨rfl, hbt1, hct1⟩
      have X1 := hide (X0.out.next hbt1 HP.out)
      clear hbt1
      obtain ⟨-, hw1, -, q0, q1, q2, q3, q4, q5, q6⟩ := X1.out
      go_wp2
      all_goals go_ret
      all_goals exact ⟨false, retB (by first | rfl | simp_all), ⟨(fun h => by cases h), fun h => absurd h HG.out⟩, X1.out.1, (fun h => by cases h)⟩

set_option maxHeartbeats 4000000 in
theorem between66 (m : Nat) : FunC 66 (m + 1) betB := by
  intro n x lo va w0 w p c d hx hw hp hct hc0 hc hd0 hd
  have hxx := hx
  obtain ⟨m', hm', a1, c1, a2, c2, ak, ck, rfl, hA, hl, hs, hK⟩ := hx.letters
  obtain rfl : m = m' := by omega
  have hpl := hct.lt
  have X0 := hide (bw_new (p := p) hw x.kind x.op x.name (.slice a1 x.lit.shape.length c1) (.slice a2 x.lit.cells.length c2) (.slice ak x.kids.length ck) x.pos)
  have hct0 : Ctr (w.alloc (.cells #[.int .i64 x.kind, .int .i64 x.op, .string x.name, .slice a1 x.lit.shape.length c1, .slice a2 x.lit.cells.length c2, .slice ak x.kids.length ck, .int .i64 x.pos] 28)) p c := hct.next (one_alloc _ _)
  have hw0 := X0.out.2.1
  have HP : Hid (w0.heap.size ≤ p ∧ w.heap.size ≠ p ∧ w0.heap.size ≤ w.heap.size) := ⟨hp, by omega, hw.size⟩
  have HEN : Hid (∀ wr, Ctr wr p c → Calls Try.prog 48 #[.pointer (some ⟨p, 0, none⟩), .agg #[.int .i64 x.kind, .int .i64 x.op, .string x.name, .slice a1 x.lit.shape.length c1, .slice a2 x.lit.cells.length c2, .slice ak x.kids.length ck, .int .i64 x.pos], .int .i64 d] wr fun e w' => e = .returned (.bool (entX c d x)) ∧ But (· = p) wr w' ∧ Ctr w' p (c + 1)) := fun wr h => enter48 _ _ _ _ _ _ _ _ _ _ _ _ _ c d p wr h hc0 hc
  by_cases hk : x.kind = 35
  · have HG := hide (gd1 (m := m) (c := c) (d := d) (ent_one (by omega)) (show betB x = (bareB x 1 false false false && primB (kd x 0) 21 32) by unfold betB kd; rw [if_pos hk]))
    cases hEN : entX c d x with
    | false =>
      rw [hEN] at HEN HG
      generalize Gd (betB x) c d (m + 1) x = GD at *
      generalize c + (sizeN (m + 1) x : Int) = CE at *
      clear hxx hA hK hct hw hx hpl
      generalize x.kids.length = LK at *
      generalize x.kind = K at *
      generalize x.op = O at *
      generalize x.name = S at *
      generalize x.pos = P at *
      generalize x.lit.shape.length = L1 at *
      generalize x.lit.cells.length = L2 at *
      subst hk
      go_enter Try.func66, Try.ntmps66
      go_wp2_with fail
      refine (HEN.out _ hct0).mono ?_
      rintro e w1 ⟨rfl, hbt1, hct1⟩
      have X1 := hide (X0.out.next hbt1 HP.out)
      clear hbt1
      obtain ⟨-, hw1, -, q0, q1, q2, q3, q4, q5, q6⟩ := X1.out
      go_wp2
      all_goals go_ret
      all_goals exact ⟨false, retB (by first | rfl | simp_all), ⟨(fun h => by cases h), fun h => (HG.out.1 h).1⟩, X1.out.1, (fun h => by cases h)⟩
    | true =>
      rw [hEN] at HEN HG
      have hlen := ent_len (k := 1) hEN (ent_one (by omega))
      obtain ⟨hr1, hr2⟩ := ent_room hEN
      have HCE : Hid (c + (sizeN (m + 1) x : Int) = c + 1 + (sizeN m (kd x 0) : Int)) := by show _ = _; rw [size1 hlen]; omega
      obtain ⟨b, off, rfl, hbb, hkk⟩ := kids_base hK (by omega)
      obtain ⟨K0, O0, S0, A10, L10, C10, A20, L20, C20, AK0, LK0, CK0, P0, hkw0⟩ := hkk 0 (by omega)
      simp only [Nat.zero_mul, Nat.add_zero] at hkw0
      have HKW0 := hide (fun wr hwr => And.intro (hkw0 wr hwr).1 trivial)
      have HF := hide (fun wr (hwr : Below w0.heap.size w0 wr) (hc1 : Ctr wr p (c + 1)) => (scalar82 m).kid n (kd x 0) lo _ w0 wr p (c + 1) (d + 1) (hkw0 w0 (Below.refl _ _)).2.1 hwr hp hc1 (by omega) (by omega) (by omega) (by omega))
      change Hid (∀ wr, Below w0.heap.size w0 wr → Ctr wr p (c + 1) → Calls Try.prog 82 _ wr fun e w' => GivesOk p (Gd (primB (kd x 0) 21 32) (c + 1) (d + 1) m (kd x 0)) (c + 1 + (sizeN m (kd x 0) : Int)) wr e w') at HF
      have hd1 : IntKind.i64.wrap (d + 1) = d + 1 := IntWalk.i64_in _ ⟨by omega, by omega⟩
      generalize Gd (betB x) c d (m + 1) x = GD at *
      generalize Gd (primB (kd x 0) 21 32) (c + 1) (d + 1) m (kd x 0) = GK at *
      generalize c + (sizeN (m + 1) x : Int) = CE at *
      generalize c + 1 + (sizeN m (kd x 0) : Int) = CK at *
      clear hkk hkw0 hEN
      rw [hlen] at *
      clear hlen
      clear hxx hA hK hct hw hx hpl
      generalize x.kind = K at *
      generalize x.op = O at *
      generalize x.name = S at *
      generalize x.pos = P at *
      generalize x.lit.shape.length = L1 at *
      generalize x.lit.cells.length = L2 at *
      subst hk
      go_enter Try.func66, Try.ntmps66
      obtain ⟨⟨g00, g01, g02, g03, g04, g05, g06⟩, -⟩ := HKW0.out _ hw0
      go_wp2_with fail
      refine (HEN.out _ hct0).mono ?_
      rintro e w1 ⟨rfl, hbt1, hct1⟩
      have X1 := hide (X0.out.next hbt1 HP.out)
      clear hbt1 g00 g01 g02 g03 g04 g05 g06
      obtain ⟨-, hw1, -, q0, q1, q2, q3, q4, q5, q6⟩ := X1.out
      obtain ⟨⟨g00, g01, g02, g03, g04, g05, g06⟩, -⟩ := HKW0.out _ hw1
      go_wp2_with fail
      refine (HF.out _ hw1 hct1).mono ?_
      rintro e w2 ⟨ok2, rfl, hok2, hbt2, hst2⟩
      have X2 := hide (X1.out.next hbt2 HP.out)
      have HOK2 := hide hok2
      have HST2 := hide hst2
      clear hbt2 hok2 hst2 g00 g01 g02 g03 g04 g05 g06 q0 q1 q2 q3 q4 q5 q6
      obtain ⟨-, hw2, -, q0, q1, q2, q3, q4, q5, q6⟩ := X2.out
      obtain ⟨⟨g00, g01, g02, g03, g04, g05, g06⟩, -⟩ := HKW0.out _ hw2
      cases ok2
      · go_wp2
        all_goals go_ret
        all_goals exact ⟨false, retB (by first | rfl | simp_all), ⟨(fun h => by cases h), fun h => HOK2.out.2 (HG.out.1 h).2⟩, X2.out.1, (fun h => by cases h)⟩
      · go_wp2
        all_goals go_ret
        all_goals exact ⟨true, retB (by first | rfl | simp_all), ⟨fun _ => HG.out.2 ⟨(by first | rfl | trivial), HOK2.out.1 (by first | rfl | trivial)⟩, fun _ => rfl⟩, X2.out.1, fun _ => (by rw [HCE.out]; exact HST2.out (by first | rfl | trivial))⟩
  · have HF := hide (fun wr (hwr : Below w0.heap.size w0 wr) (hc1 : Ctr wr p c) => scalar82 m n x lo _ w0 wr p c d hxx hwr hp hc1 hc0 hc hd0 hd)
    change Hid (∀ wr, Below w0.heap.size w0 wr → Ctr wr p c → Calls Try.prog 82 _ wr fun e w' => GivesOk p (Gd (primB x 21 32) c d (m + 1) x) (c + (sizeN (m + 1) x : Int)) wr e w') at HF
    rw [show betB x = primB x 21 32 by unfold betB; rw [if_neg hk]]
    have hk' : (x.kind == 35) = false := beq_eq_false_iff_ne.2 hk
    generalize Gd (primB x 21 32) c d (m + 1) x = GD at *
    generalize c + (sizeN (m + 1) x : Int) = CE at *
    clear hxx hA hK hct hw hx hpl
    generalize x.kids.length = LK at *
    generalize x.kind = K at *
    generalize x.op = O at *
    generalize x.name = S at *
    generalize x.pos = P at *
    generalize x.lit.shape.length = L1 at *
    generalize x.lit.cells.length = L2 at *
    go_enter Try.func66, Try.ntmps66
    go_wp2_with fail
    refine (HF.out _ hw0 hct0).mono ?_
    rintro e w1 ⟨ok1, rfl, hok1, hbt1, hst1⟩
    have X1 := hide (X0.out.next hbt1 HP.out)
    have HOK1 := hide hok1
    have HST1 := hide hst1
    clear hbt1 hok1 hst1
    obtain ⟨-, hw1, -, q0, q1, q2, q3, q4, q5, q6⟩ := X1.out
    cases ok1
    · go_wp2
      all_goals go_ret
      all_goals exact ⟨false, retB (by first | rfl | simp_all), ⟨(fun h => by cases h), fun h => HOK1.out.2 h⟩, X1.out.1, (fun h => by cases h)⟩
    · go_wp2
      all_goals go_ret
      all_goals exact ⟨true, retB (by first | rfl | simp_all), ⟨fun _ => HOK1.out.1 (by first | rfl | trivial), fun _ => rfl⟩, X1.out.1, fun _ => HST1.out (by first | rfl | trivial)⟩

set_option maxHeartbeats 4000000 in
theorem turnable68 (m : Nat) (IH : ExE m) : FunC 68 (m + 1) (twoB (exprN m true) (usesN m)) := by
  intro n x lo va w0 w p c d hx hw hp hct hc0 hc hd0 hd
  have hxx := hx
  obtain ⟨m', hm', a1, c1, a2, c2, ak, ck, rfl, hA, hl, hs, hK⟩ := hx.letters
  obtain rfl : m = m' := by omega
  have hpl := hct.lt
  have X0 := hide (bw_new (p := p) hw x.kind x.op x.name (.slice a1 x.lit.shape.length c1) (.slice a2 x.lit.cells.length c2) (.slice ak x.kids.length ck) x.pos)
  have hct0 : Ctr (w.alloc (.cells #[.int .i64 x.kind, .int .i64 x.op, .string x.name, .slice a1 x.lit.shape.length c1, .slice a2 x.lit.cells.length c2, .slice ak x.kids.length ck, .int .i64 x.pos] 28)) p c := hct.next (one_alloc _ _)
  have hw0 := X0.out.2.1
  have HP : Hid (w0.heap.size ≤ p ∧ w.heap.size ≠ p ∧ w0.heap.size ≤ w.heap.size) := ⟨hp, by omega, hw.size⟩
  have HEN : Hid (∀ wr, Ctr wr p c → Calls Try.prog 48 #[.pointer (some ⟨p, 0, none⟩), .agg #[.int .i64 x.kind, .int .i64 x.op, .string x.name, .slice a1 x.lit.shape.length c1, .slice a2 x.lit.cells.length c2, .slice ak x.kids.length ck, .int .i64 x.pos], .int .i64 d] wr fun e w' => e = .returned (.bool (entX c d x)) ∧ But (· = p) wr w' ∧ Ctr w' p (c + 1)) := fun wr h => enter48 _ _ _ _ _ _ _ _ _ _ _ _ _ c d p wr h hc0 hc
  have HSC := hide (fun wr => scalar19 x.op wr)
  have HFR := hide (fun wr => from43 x.op 41 54 wr)
  by_cases hk : x.kind = 21
  · have HG := hide (gd0 (m := m) (c := c) (d := d) (ent_prim hk) (two_prim (e := exprN m true) (u := usesN m) hk))
    have HCE : Hid (entX c d x = true → c + (sizeN (m + 1) x : Int) = c + 1) := fun h => by rw [size0 (ent_len (k := 0) h (ent_prim hk))]; rfl
    generalize frm x.op 21 32 = FR at *
    generalize frm x.op 41 54 = FS at *
    generalize Gd (twoB (exprN m true) (usesN m) x) c d (m + 1) x = GD at *
    generalize c + (sizeN (m + 1) x : Int) = CE at *
    generalize entX c d x = EN at *
    clear hxx hA hK hct hw hx hpl
    generalize x.kids.length = LK at *
    generalize x.kind = K at *
    generalize x.op = O at *
    generalize x.name = S at *
    generalize x.pos = P at *
    generalize x.lit.shape.length = L1 at *
    generalize x.lit.cells.length = L2 at *
    subst hk
    cases EN
    · go_enter Try.func68, Try.ntmps68
      go_wp2_with fail
      refine (HEN.out _ hct0).mono ?_
      rintro e w1 ⟨rfl, hbt1, hct1⟩
      have X1 := hide (X0.out.next hbt1 HP.out)
      clear hbt1
      obtain ⟨-, hw1, -, q0, q1, q2, q3, q4, q5, q6⟩ := X1.out
      go_wp2
      all_goals go_ret
      all_goals exact ⟨false, retB (by first | rfl | simp_all), ⟨(fun h => by cases h), fun h => (HG.out.1 h).1⟩, X1.out.1, (fun h => by cases h)⟩
    · have HCE' := hide (HCE.out rfl)
      cases FR
      · cases FS
        · go_enter Try.func68, Try.ntmps68
          go_wp2_with fail
          refine (HEN.out _ hct0).mono ?_
          rintro e w1 ⟨rfl, hbt1, hct1⟩
          have X1 := hide (X0.out.next hbt1 HP.out)
          clear hbt1
          obtain ⟨-, hw1, -, q0, q1, q2, q3, q4, q5, q6⟩ := X1.out
          go_wp2_with fail
          refine (HSC.out _).mono ?_
          rintro e w2 ⟨rfl, hb2⟩
          have hct2 := hct1.next hb2
          have X2 := hide (X1.out.next (But.of hb2) HP.out)
          clear hb2 q0 q1 q2 q3 q4 q5 q6
          obtain ⟨-, hw2, -, q0, q1, q2, q3, q4, q5, q6⟩ := X2.out
          go_wp2_with fail
          refine (HFR.out _).mono ?_
          rintro e w3 ⟨rfl, hb3⟩
          have hct3 := hct2.next hb3
          have X3 := hide (X2.out.next (But.of hb3) HP.out)
          clear hb3 q0 q1 q2 q3 q4 q5 q6
          obtain ⟨-, hw3, -, q0, q1, q2, q3, q4, q5, q6⟩ := X3.out
          go_wp2
          all_goals go_ret
          all_goals exact ⟨false, retB (by first | rfl | simp_all), ⟨(fun h => by cases h), fun h => (HG.out.1 h).2⟩, X3.out.1, (fun h => by cases h)⟩
        · go_enter Try.func68, Try.ntmps68
          go_wp2_with fail
          refine (HEN.out _ hct0).mono ?_
          rintro e w1 ⟨rfl, hbt1, hct1⟩
          have X1 := hide (X0.out.next hbt1 HP.out)
          clear hbt1
          obtain ⟨-, hw1, -, q0, q1, q2, q3, q4, q5, q6⟩ := X1.out
          go_wp2_with fail
          refine (HSC.out _).mono ?_
          rintro e w2 ⟨rfl, hb2⟩
          have hct2 := hct1.next hb2
          have X2 := hide (X1.out.next (But.of hb2) HP.out)
          clear hb2 q0 q1 q2 q3 q4 q5 q6
          obtain ⟨-, hw2, -, q0, q1, q2, q3, q4, q5, q6⟩ := X2.out
          go_wp2_with fail
          refine (HFR.out _).mono ?_
          rintro e w3 ⟨rfl, hb3⟩
          have hct3 := hct2.next hb3
          have X3 := hide (X2.out.next (But.of hb3) HP.out)
          clear hb3 q0 q1 q2 q3 q4 q5 q6
          obtain ⟨-, hw3, -, q0, q1, q2, q3, q4, q5, q6⟩ := X3.out
          go_wp2
          all_goals go_ret
          all_goals exact ⟨true, retB (by first | rfl | simp_all), ⟨fun _ => HG.out.2 ⟨(by first | rfl | trivial), (by first | rfl | trivial)⟩, fun _ => rfl⟩, X3.out.1, fun _ => by rw [HCE'.out]; exact hct3⟩
      · go_enter Try.func68, Try.ntmps68
        go_wp2_with fail
        refine (HEN.out _ hct0).mono ?_
        rintro e w1 ⟨rfl, hbt1, hct1⟩
        have X1 := hide (X0.out.next hbt1 HP.out)
        clear hbt1
        obtain ⟨-, hw1, -, q0, q1, q2, q3, q4, q5, q6⟩ := X1.out
        go_wp2_with fail
        refine (HSC.out _).mono ?_
        rintro e w2 ⟨rfl, hb2⟩
        have hct2 := hct1.next hb2
        have X2 := hide (X1.out.next (But.of hb2) HP.out)
        clear hb2 q0 q1 q2 q3 q4 q5 q6
        obtain ⟨-, hw2, -, q0, q1, q2, q3, q4, q5, q6⟩ := X2.out
        go_wp2
        all_goals go_ret
        all_goals exact ⟨true, retB (by first | rfl | simp_all), ⟨fun _ => HG.out.2 ⟨(by first | rfl | trivial), (by first | rfl | trivial)⟩, fun _ => rfl⟩, X2.out.1, fun _ => by rw [HCE'.out]; exact hct2⟩
  by_cases hk2 : x.kind = 23
  · have HG := hide (gd1 (m := m) (c := c) (d := d) (ent_one (by omega)) (show twoB (exprN m true) (usesN m) x = (bareB x 1 false false false && txB (exprN m true) (usesN m) x.kind (kd x 0)) by unfold twoB; rw [if_pos hk2]; exact lam_eq _ _ x))
    cases hEN : entX c d x with
    | false =>
      rw [hEN] at HEN HG
      generalize Gd (twoB (exprN m true) (usesN m) x) c d (m + 1) x = GD at *
      generalize c + (sizeN (m + 1) x : Int) = CE at *
      clear hxx hA hK hct hw hx hpl
      generalize x.kids.length = LK at *
      generalize x.kind = K at *
      generalize x.op = O at *
      generalize x.name = S at *
      generalize x.pos = P at *
      generalize x.lit.shape.length = L1 at *
      generalize x.lit.cells.length = L2 at *
      subst hk2
      go_enter Try.func68, Try.ntmps68
      go_wp2_with fail
      refine (HEN.out _ hct0).mono ?_
      rintro e w1 ⟨rfl, hbt1, hct1⟩
      have X1 := hide (X0.out.next hbt1 HP.out)
      clear hbt1
      obtain ⟨-, hw1, -, q0, q1, q2, q3, q4, q5, q6⟩ := X1.out
      go_wp2
      all_goals go_ret
      all_goals exact ⟨false, retB (by first | rfl | simp_all), ⟨(fun h => by cases h), fun h => (HG.out.1 h).1⟩, X1.out.1, (fun h => by cases h)⟩
    | true =>
      rw [hEN] at HEN HG
      have hlen := ent_len (k := 1) hEN (ent_one (by omega))
      obtain ⟨hr1, hr2⟩ := ent_room hEN
      have HCE : Hid (c + (sizeN (m + 1) x : Int) = c + 1 + (sizeN m (kd x 0) : Int)) := by show _ = _; rw [size1 hlen]; omega
      have HF := hide (fun wr (hwr : Below w0.heap.size w0 wr) (hc1 : Ctr wr p (c + 1)) => text65 m IH n x lo _ w0 wr p (c + 1) d hxx hlen hwr hp hc1 (by omega) (by omega) (by omega) (by omega))
      generalize Gd (twoB (exprN m true) (usesN m) x) c d (m + 1) x = GD at *
      generalize Gd (txB (exprN m true) (usesN m) x.kind (kd x 0)) (c + 1) (d + 1) m (kd x 0) = GK at *
      generalize c + (sizeN (m + 1) x : Int) = CE at *
      generalize c + 1 + (sizeN m (kd x 0) : Int) = CK at *
      clear hEN hlen
      clear hxx hA hK hct hw hx hpl
      generalize x.kids.length = LK at *
      generalize x.kind = K at *
      generalize x.op = O at *
      generalize x.name = S at *
      generalize x.pos = P at *
      generalize x.lit.shape.length = L1 at *
      generalize x.lit.cells.length = L2 at *
      subst hk2
      go_enter Try.func68, Try.ntmps68
      go_wp2_with fail
      refine (HEN.out _ hct0).mono ?_
      rintro e w1 ⟨rfl, hbt1, hct1⟩
      have X1 := hide (X0.out.next hbt1 HP.out)
      clear hbt1
      obtain ⟨-, hw1, -, q0, q1, q2, q3, q4, q5, q6⟩ := X1.out
      go_wp2_with fail
      refine (HF.out _ hw1 hct1).mono ?_
      rintro e w2 ⟨ok2, rfl, hok2, hbt2, hst2⟩
      have X2 := hide (X1.out.next hbt2 HP.out)
      have HOK2 := hide hok2
      have HST2 := hide hst2
      clear hbt2 hok2 hst2 q0 q1 q2 q3 q4 q5 q6
      obtain ⟨-, hw2, -, q0, q1, q2, q3, q4, q5, q6⟩ := X2.out
      cases ok2
      · go_wp2
        all_goals go_ret
        all_goals exact ⟨false, retB (by first | rfl | simp_all), ⟨(fun h => by cases h), fun h => HOK2.out.2 (HG.out.1 h).2⟩, X2.out.1, (fun h => by cases h)⟩
      · go_wp2
        all_goals go_ret
        all_goals exact ⟨true, retB (by first | rfl | simp_all), ⟨fun _ => HG.out.2 ⟨(by first | rfl | trivial), HOK2.out.1 (by first | rfl | trivial)⟩, fun _ => rfl⟩, X2.out.1, fun _ => (by rw [HCE.out]; exact HST2.out (by first | rfl | trivial))⟩
  · have HG := hide (not_gd (m := m + 1) (c := c) (d := d) (x := x) (two_no (e := exprN m true) (u := usesN m) hk hk2))
    have hk' : (x.kind == 21) = false := beq_eq_false_iff_ne.2 hk
    have hk2' : (x.kind == 23) = false := beq_eq_false_iff_ne.2 hk2
    generalize Gd (twoB (exprN m true) (usesN m) x) c d (m + 1) x = GD at *
    generalize c + (sizeN (m + 1) x : Int) = CE at *
    generalize entX c d x = EN at *
    clear hxx hA hK hct hw hx hpl
    generalize x.kids.length = LK at *
    generalize x.kind = K at *
    generalize x.op = O at *
    generalize x.name = S at *
    generalize x.pos = P at *
    generalize x.lit.shape.length = L1 at *
    generalize x.lit.cells.length = L2 at *
    cases EN
    · go_enter Try.func68, Try.ntmps68
      go_wp2_with fail
      refine (HEN.out _ hct0).mono ?_
      rintro e w1 ⟨rfl, hbt1, hct1⟩
      have X1 := hide (X0.out.next hbt1 HP.out)
      clear hbt1
      obtain ⟨-, hw1, -, q0, q1, q2, q3, q4, q5, q6⟩ := X1.out
      go_wp2
      all_goals go_ret
      all_goals exact ⟨false, retB (by first | rfl | simp_all), ⟨(fun h => by cases h), fun h => absurd h HG.out⟩, X1.out.1, (fun h => by cases h)⟩
    · go_enter Try.func68, Try.ntmps68
      go_wp2_with fail
      refine (HEN.out _ hct0).mono ?_
      rintro e w1 ⟨rfl, hbt1, hct1⟩
      have X1 := hide (X0.out.next hbt1 HP.out)
      clear hbt1
      obtain ⟨-, hw1, -, q0, q1, q2, q3, q4, q5, q6⟩ := X1.out
      go_wp2
      all_goals go_ret
      all_goals exact ⟨false, retB (by first | rfl | simp_all), ⟨(fun h => by cases h), fun h => absurd h HG.out⟩, X1.out.1, (fun h => by cases h)⟩

set_option maxHeartbeats 4000000 in
theorem turned67 (m : Nat) (IH : ExE m) : FunC 67 (m + 1) (tnB (exprN m true) (usesN m)) := by
  intro n x lo va w0 w p c d hx hw hp hct hc0 hc hd0 hd
  have hxx := hx
  obtain ⟨m', hm', a1, c1, a2, c2, ak, ck, rfl, hA, hl, hs, hK⟩ := hx.letters
  obtain rfl : m = m' := by omega
  have hpl := hct.lt
  have X0 := hide (bw_new (p := p) hw x.kind x.op x.name (.slice a1 x.lit.shape.length c1) (.slice a2 x.lit.cells.length c2) (.slice ak x.kids.length ck) x.pos)
  have hct0 : Ctr (w.alloc (.cells #[.int .i64 x.kind, .int .i64 x.op, .string x.name, .slice a1 x.lit.shape.length c1, .slice a2 x.lit.cells.length c2, .slice ak x.kids.length ck, .int .i64 x.pos] 28)) p c := hct.next (one_alloc _ _)
  have hw0 := X0.out.2.1
  have HP : Hid (w0.heap.size ≤ p ∧ w.heap.size ≠ p ∧ w0.heap.size ≤ w.heap.size) := ⟨hp, by omega, hw.size⟩
  have HEN : Hid (∀ wr, Ctr wr p c → Calls Try.prog 48 #[.pointer (some ⟨p, 0, none⟩), .agg #[.int .i64 x.kind, .int .i64 x.op, .string x.name, .slice a1 x.lit.shape.length c1, .slice a2 x.lit.cells.length c2, .slice ak x.kids.length ck, .int .i64 x.pos], .int .i64 d] wr fun e w' => e = .returned (.bool (entX c d x)) ∧ But (· = p) wr w' ∧ Ctr w' p (c + 1)) := fun wr h => enter48 _ _ _ _ _ _ _ _ _ _ _ _ _ c d p wr h hc0 hc
  by_cases hb : x.kind = 21 ∧ (x.op = 52 ∨ x.op = 53)
  · have HG := hide (not_gd (m := m + 1) (c := c) (d := d) (x := x) (tn_bad (e := exprN m true) (u := usesN m) hb.1 hb.2))
    obtain ⟨hk, ho⟩ := hb
    generalize Gd (tnB (exprN m true) (usesN m) x) c d (m + 1) x = GD at *
    generalize c + (sizeN (m + 1) x : Int) = CE at *
    clear hxx hA hK hct hw hx hpl
    generalize x.kids.length = LK at *
    generalize x.kind = K at *
    generalize x.op = O at *
    generalize x.name = S at *
    generalize x.pos = P at *
    generalize x.lit.shape.length = L1 at *
    generalize x.lit.cells.length = L2 at *
    subst hk
    rcases ho with rfl | rfl
    · go_enter Try.func67, Try.ntmps67
      go_wp2
      all_goals go_ret
      all_goals exact ⟨false, retB (by first | rfl | simp_all), ⟨(fun h => by cases h), fun h => absurd h HG.out⟩, X0.out.1, (fun h => by cases h)⟩
    · go_enter Try.func67, Try.ntmps67
      go_wp2
      all_goals go_ret
      all_goals exact ⟨false, retB (by first | rfl | simp_all), ⟨(fun h => by cases h), fun h => absurd h HG.out⟩, X0.out.1, (fun h => by cases h)⟩
  · rw [tn_ok hb]
    have HF := hide (fun wr (hwr : Below w0.heap.size w0 wr) (hc1 : Ctr wr p c) => turnable68 m IH n x lo _ w0 wr p c d hxx hwr hp hc1 hc0 hc hd0 hd)
    generalize Gd (twoB (exprN m true) (usesN m) x) c d (m + 1) x = GD at *
    generalize c + (sizeN (m + 1) x : Int) = CE at *
    clear hxx hA hK hct hw hx hpl
    generalize x.kids.length = LK at *
    generalize x.kind = K at *
    generalize x.op = O at *
    generalize x.name = S at *
    generalize x.pos = P at *
    generalize x.lit.shape.length = L1 at *
    generalize x.lit.cells.length = L2 at *
    by_cases hk : K = 21
    · have h1 : ¬ O = 52 := fun h => hb ⟨hk, Or.inl h⟩
      have h2 : ¬ O = 53 := fun h => hb ⟨hk, Or.inr h⟩
      clear hb
      subst hk
      have h1' : (O == 52) = false := beq_eq_false_iff_ne.2 h1
      have h2' : (O == 53) = false := beq_eq_false_iff_ne.2 h2
      go_enter Try.func67, Try.ntmps67
      go_wp2_with fail
      refine (HF.out _ hw0 hct0).mono ?_
      rintro e w1 ⟨ok1, rfl, hok1, hbt1, hst1⟩
      have X1 := hide (X0.out.next hbt1 HP.out)
      have HOK1 := hide hok1
      have HST1 := hide hst1
      clear hbt1 hok1 hst1
      obtain ⟨-, hw1, -, q0, q1, q2, q3, q4, q5, q6⟩ := X1.out
      cases ok1
      · go_wp2
        all_goals go_ret
        all_goals exact ⟨false, retB (by first | rfl | simp_all), ⟨(fun h => by cases h), fun h => HOK1.out.2 h⟩, X1.out.1, (fun h => by cases h)⟩
      · go_wp2
        all_goals go_ret
        all_goals exact ⟨true, retB (by first | rfl | simp_all), ⟨fun _ => HOK1.out.1 (by first | rfl | trivial), fun _ => rfl⟩, X1.out.1, fun _ => HST1.out (by first | rfl | trivial)⟩
    · clear hb
      have hk' : (K == 21) = false := beq_eq_false_iff_ne.2 hk
      go_enter Try.func67, Try.ntmps67
      go_wp2_with fail
      refine (HF.out _ hw0 hct0).mono ?_
      rintro e w1 ⟨ok1, rfl, hok1, hbt1, hst1⟩
      have X1 := hide (X0.out.next hbt1 HP.out)
      have HOK1 := hide hok1
      have HST1 := hide hst1
      clear hbt1 hok1 hst1
      obtain ⟨-, hw1, -, q0, q1, q2, q3, q4, q5, q6⟩ := X1.out
      cases ok1
      · go_wp2
        all_goals go_ret
        all_goals exact ⟨false, retB (by first | rfl | simp_all), ⟨(fun h => by cases h), fun h => HOK1.out.2 h⟩, X1.out.1, (fun h => by cases h)⟩
      · go_wp2
        all_goals go_ret
        all_goals exact ⟨true, retB (by first | rfl | simp_all), ⟨fun _ => HOK1.out.1 (by first | rfl | trivial), fun _ => rfl⟩, X1.out.1, fun _ => HST1.out (by first | rfl | trivial)⟩
end Go.Proofs.Ytkgpoibnilgaeaa
