/-
  The contract of layer 6's along: an array with the places along an axis that a list says.
  The contract of layer 6's rotated.
  The contracts of the library's Mul and of its Repeat of one cell, and of layer 6's filling.
  The contract of layer 6's taken.
-/
import Derived.Test.YtmjncdhahdpplaaM5
import Derived.Lib.Mul64
namespace Go.Proofs.Ytmjncdhahdpplaa
open Go.ChangeShapes Go.WideShapes Go.ChangeAt Go.RowKit
set_option linter.unusedVariables false
set_option maxRecDepth 100000
def alongA (x : Ar) (k : Nat) (l : List Int) : Ar := .mk (x.shape.set k (l.length : Int)) (mkCs (sizeV (x.shape.set k (l.length : Int))).toNat fun p => cAt x.cells (alongQ (gI x.shape k).toNat (sizeV (x.shape.drop (k + 1))).toNat l.length (fun i => (gI l i).toNat) p))
theorem prodL_set (s : List Int) (k : Nat) (hk : k < s.length) (v : Int) : prodL (s.set k v) = prodL (s.take k) * (v * prodL (s.drop (k + 1))) := by
  rw [List.set_eq_take_append_cons_drop, if_pos hk, prodL_append]
  rfl
theorem set_gI (s : List Int) (k : Nat) (hk : k < s.length) : s.set k (gI s k) = s := gI_ext (by simp) fun i hi => by
  rw [gI_set _ _ _ _ hk]
  by_cases h : i = k
  · rw [if_pos h, h]
  · rw [if_neg h]
theorem mem_set_other {s : List Int} {k : Nat} {v z : Int} (hz : z ∈ s) (hk : k < s.length) : z ∈ s.set k v ∨ z = gI s k := by
  obtain ⟨i, hi, e⟩ := mem_getD hz
  by_cases h : i = k
  · right; rw [← e, h]; rfl
  · left
    have : gI (s.set k v) i = z := by rw [gI_set _ _ _ _ hk, if_neg h]; exact e
    rw [← this]
    exact getD_mem (by simpa using hi)
theorem mem_set_self' {s : List Int} {k : Nat} (hk : k < s.length) (v : Int) : v ∈ s.set k v := by
  have h := getD_mem (l := s.set k v) (k := k) (by simpa using hk)
  have e : gI (s.set k v) k = v := by rw [gI_set _ _ _ _ hk, if_pos rfl]
  rw [← e]
  unfold gI at *
  rw [e]
  rw [e] at h
  exact h
/-- What is known where there is a cell at all. -/
theorem along_facts {r : Nat} {x : Ar} (h : chkA r x = 0) {k L : Nat} (hk : k < x.shape.length) (hs : sizeE (x.shape.set k (L : Int)) = 0) (hD : 0 < L → 0 < gI x.shape k) (hN : 0 < sizeV (x.shape.set k (L : Int))) :
    ∃ A D w : Nat, gI x.shape k = (D : Int) ∧ sizeV (x.shape.drop (k + 1)) = (w : Int) ∧ 0 < w ∧ 0 < L ∧ sizeV (x.shape.set k (L : Int)) = ((A * (L * w) : Nat) : Int) ∧ x.cells.length = A * (D * w) ∧ w ≤ 16384 ∧ L ≤ 16384 ∧ D ≤ 16384 := by
  obtain ⟨l8, -, hc⟩ := fine_cases hs
  rcases hc with ⟨-, h0⟩ | ⟨hpos, hle, hv⟩
  · omega
  have hL : 0 < L := by
    have := hpos (L : Int) (mem_set_self' hk _)
    omega
  have hD0 := hD hL
  have hpx : ∀ z ∈ x.shape, 0 < z := fun z hz => by
    rcases mem_set_other (v := (L : Int)) hz hk with h1 | h1
    · exact hpos z h1
    · rw [h1]; exact hD0
  obtain ⟨h1, h2, h3, -⟩ := (chkA_iff r x).1 h
  have hsx := sizeV_prod h1
  have e1 := prodL_set x.shape k hk (L : Int)
  have e2 := prodL_set x.shape k hk (gI x.shape k)
  rw [set_gI _ _ hk] at e2
  have pa := prodL_pos (l := x.shape.take k) fun z hz => hpx z (List.mem_of_mem_take hz)
  have pw := prodL_pos (l := x.shape.drop (k + 1)) fun z hz => hpx z (List.mem_of_mem_drop hz)
  obtain ⟨A, hA⟩ : ∃ A : Nat, prodL (x.shape.take k) = (A : Int) := ⟨(prodL (x.shape.take k)).toNat, by omega⟩
  obtain ⟨w, hw⟩ : ∃ w : Nat, prodL (x.shape.drop (k + 1)) = (w : Int) := ⟨(prodL (x.shape.drop (k + 1))).toNat, by omega⟩
  obtain ⟨D, hDn⟩ : ∃ D : Nat, gI x.shape k = (D : Int) := ⟨(gI x.shape k).toNat, by omega⟩
  rw [hA, hw] at e1 e2
  rw [hDn] at e2
  have hx16 : prodL x.shape ≤ 16384 := by
    obtain ⟨-, -, hc⟩ := fine_cases h1
    rcases hc with ⟨⟨z, hz, hz0⟩, -⟩ | ⟨-, h5, -⟩
    · have := hpx z hz; omega
    · exact h5
  have hwle : (w : Int) ≤ prodL x.shape := by
    rw [e2]
    have a1 : 1 ≤ (A : Int) * (D : Int) := Int.le_trans (by omega) (Int.mul_le_mul (show (1 : Int) ≤ A by omega) (show (1 : Int) ≤ D by omega) (by omega) (by omega))
    have := Int.mul_le_mul_of_nonneg_right a1 (show (0 : Int) ≤ w by omega)
    rw [Int.one_mul, Int.mul_assoc] at this
    exact this
  have hfd := fine_mk (l := x.shape.drop (k + 1)) (by rw [List.length_drop]; have := (fine_cases h1).1; omega) (fun z hz => by have := hpx z (List.mem_of_mem_drop hz); omega) (Or.inr (by rw [hw]; omega))
  have hDle : (D : Int) ≤ 16384 := by
    rcases Int.lt_or_le 16384 (D : Int) with h' | h'
    · exact absurd ⟨gI x.shape k, getD_mem hk, by rw [hDn]; exact h'⟩ h3
    · exact h'
  have hLle : (L : Int) ≤ prodL (x.shape.set k (L : Int)) := prod_of_mem hpos (mem_set_self' hk _)
  refine ⟨A, D, w, hDn, by rw [hfd.2, hw], by omega, hL, ?_, ?_, by omega, by omega, by omega⟩
  · rw [hv, e1]; simp
  · have : (x.cells.length : Int) = ((A * (D * w) : Nat) : Int) := by rw [← h2, hsx, e2]; simp
    omega
theorem rowT_congr {T U : Nat → Value × Value × Value} {m : Nat} (h : ∀ q, q < m → T q = U q) : rowT T m = rowT U m := by
  unfold rowT
  have : ∀ l : List Nat, (∀ q ∈ l, q < m) → l.flatMap (fun i => [(T i).1, (T i).2.1, (T i).2.2]) = l.flatMap (fun i => [(U i).1, (U i).2.1, (U i).2.2]) := by
    intro l hl
    induction l with
    | nil => rfl
    | cons q l ih =>
      simp only [List.flatMap_cons]
      rw [h q (hl q (by simp)), ih (fun q' hq => hl q' (by simp [hq]))]
  exact this _ (fun q hq => List.mem_range.1 hq)
/-- A part of an array's cells as values that lie one behind the other. -/
theorem lies_part {w : World} {cs : List Ce} {ab : Nat → Option Addr} {cb : Nat → Nat} {b off : Nat} (hb : b < w.heap.size) (hc : ∀ i, i < cs.length → w.cell? ⟨b, off + i * 3, none⟩ = some (cellT cs ab cb i).1 ∧ w.cell? ⟨b, off + i * 3 + 1, none⟩ = some (cellT cs ab cb i).2.1 ∧ w.cell? ⟨b, off + i * 3 + 2, none⟩ = some (cellT cs ab cb i).2.2)
    (fr m c : Nat) (hm : fr + m ≤ cs.length) (hcap : cs.length ≤ c) (h0 : 0 < m) : Lies w (subA (some ⟨b, off, none⟩) fr c 3) (rowT (fun q => cellT cs ab cb (fr + q)) m) := by
  refine ⟨Or.inr ⟨⟨b, off + fr * 3, none⟩, ?_, hb, fun j u hj => ?_⟩, rowT_one _ _ fun i _ => ⟨rfl, rfl, rfl⟩⟩
  · unfold subA; rw [if_neg (by omega)]; simp [Addr.add]
  · have hjl : j < m * 3 := by
      rcases Nat.lt_or_ge j (m * 3) with h | h
      · exact h
      · rw [List.getElem?_eq_none (by rw [rowT_len]; exact h)] at hj; cases hj
    obtain ⟨t0, t1, t2⟩ := rowT_at (fun q => cellT cs ab cb (fr + q)) m (j / 3) (by omega)
    obtain ⟨g0, g1, g2⟩ := hc (fr + j / 3) (by omega)
    rw [add_off]
    have hm : j = j / 3 * 3 ∨ j = j / 3 * 3 + 1 ∨ j = j / 3 * 3 + 2 := by omega
    rcases hm with e | e | e
    · rw [← e] at t0; rw [t0] at hj; cases hj
      rw [show off + fr * 3 + j = off + (fr + j / 3) * 3 by omega]; exact g0
    · rw [← e] at t1; rw [t1] at hj; cases hj
      rw [show off + fr * 3 + j = off + (fr + j / 3) * 3 + 1 by omega]; exact g1
    · rw [← e] at t2; rw [t2] at hj; cases hj
      rw [show off + fr * 3 + j = off + (fr + j / 3) * 3 + 2 by omega]; exact g2
set_option maxHeartbeats 8000000 in
theorem along_row {n lo lo' lo2 k : Nat} {x : Ar} {a1 a2 : Option Addr} {c1 c2 : Nat} {w0 w : World} (R : Row lo2 w a1 x.shape) (hc : CellsIn n lo w0 x.cells a2) (hb0 : Below w0.heap.size w0 w) (hcap : Caps (.agg #[.slice a1 x.shape.length c1, .slice a2 x.cells.length c2])) (hchk : chkA 8 x = 0) (hk : k < x.shape.length) (l : List Int) (aT : Option Addr) (cT : Nat) (RT : Row lo' w aT l)
    (hin : ∀ i, i < l.length → 0 ≤ gI l i ∧ gI l i < gI x.shape k) (hs : sizeE (x.shape.set k (l.length : Int)) = 0) (hl16 : l.length ≤ 16384) :
    Calls Try.prog 98 #[.agg #[.slice a1 x.shape.length c1, .slice a2 x.cells.length c2], .int .i64 (k : Int), .slice aT l.length cT] w fun e w' => GivesK (n + 1) w0 (alongA x k l) w e w' := by
  obtain ⟨hc1, hc2⟩ := caps_form hcap
  obtain ⟨l8, c16⟩ := chk_len hchk
  have HAF := hide (fun h => along_facts hchk hk hs (fun h0 => by have := hin 0 h0; omega) h)
  obtain ⟨N, hN⟩ : ∃ N : Nat, sizeV (x.shape.set k (l.length : Int)) = (N : Int) := ⟨(sizeV (x.shape.set k (l.length : Int))).toNat, by have := (sizeV_le hs).1; omega⟩
  have hN16 : N ≤ 16384 := by have := (sizeV_le hs).2; omega
  obtain ⟨ab, cb, hcf⟩ := cells_fn hc
  have I := in2_new w (.slice a1 x.shape.length c1) (.slice a2 x.cells.length c2)
  obtain ⟨W2, e2⟩ : ∃ W2, (w.alloc (.cells #[.slice a1 x.shape.length c1, .slice a2 x.cells.length c2] 25)).alloc (.cells #[.slice none 0 0, .slice none 0 0] 25) = W2 := ⟨_, rfl⟩
  rw [e2] at I
  have z2 : W2.heap.size = w.heap.size + 2 := by rw [← e2]; simp
  have q0 := I.q0
  have C1 := reshaped_any x.shape a1 c1 k (l.length : Int) W2 (R.next I.bel) l8 hk
  rw [hN, hs] at C1
  have hp1 : ∀ W, (Instr.sliceAt 22 (.slice a1 x.shape.length c1) (some (.int .i64 ((k : Int) + 1))) none none).run Try.prog W = .ok (.slice (subA a1 (k + 1) c1 1) (x.shape.length - (k + 1)) (c1 - (k + 1))) W := fun W => part_l (P := Try.prog) Try.underlying22 size3 a1 x.shape.length c1 (k + 1) ((k : Int) + 1) (by simp) (by omega) W
  have ht : ((x.shape.drop (k + 1)).take (x.shape.length - (k + 1))) = x.shape.drop (k + 1) := by rw [List.take_of_length_le (by rw [List.length_drop]; omega)]
  have RD : Row lo2 w (subA a1 (k + 1) c1 1) (x.shape.drop (k + 1)) := by have := R.part (k + 1) c1 (x.shape.length - (k + 1)) (by omega) hc1; rw [ht] at this; exact this
  have HB0 := hide hb0
  have HZ2 := hide z2
  have HI := hide I
  have HRD := hide RD
  have HRT := hide RT
  have HRX := hide R
  have HIN := hide hin
  have HCF := hide hcf
  have HN := hide hN
  have HCAP := hide hc2
  have HDL : Hid ((x.shape.drop (k + 1)).length = x.shape.length - (k + 1)) := by unfold Hid; rw [List.length_drop]
  obtain ⟨SA, hSA⟩ : ∃ SA, x.shape.length = SA := ⟨_, rfl⟩
  obtain ⟨CA, hCA⟩ : ∃ CA, x.cells.length = CA := ⟨_, rfl⟩
  obtain ⟨L, hL⟩ : ∃ L, l.length = L := ⟨_, rfl⟩
  have HSC := hide (And.intro hSA (And.intro hCA hL))
  simp only [hSA, hCA, hL] at C1 e2 q0 HI HCF HAF HIN HDL HN HCAP hp1 hc1 hl16 l8 c16 hk ⊢
  obtain ⟨aD, haD⟩ : ∃ aD, subA a1 (k + 1) c1 1 = aD := ⟨_, rfl⟩
  obtain ⟨cD, hcD⟩ : ∃ cD, c1 - (k + 1) = cD := ⟨_, rfl⟩
  obtain ⟨SD, hSD⟩ : ∃ SD, SA - (k + 1) = SD := ⟨_, rfl⟩
  simp only [haD, hcD, hSD] at hp1 HRD HDL
  clear R hc I hSA hCA hL hcf hcap hchk RT hin hs hN hb0 hc2 RD ht haD hcD hSD
  go_enter Try.func98, Try.ntmps98
  go_wp2_with fail
  clear e2 q0
  refine C1.mono ?_
  clear C1
  rintro e w3 ⟨⟨as', cs', rfl, ho⟩, hb3⟩
  have I3 := HI.out.next hb3
  have q0 := I3.q0
  have mk := make_cells N (by omega) w3
  obtain ⟨W4, e4⟩ : ∃ W4, w3.alloc (.cells (madeCells #[.int .i64 0, .int .i64 0, .slice none 0 0] (N * 3)) 36) = W4 := ⟨_, rfl⟩
  rw [e4] at mk
  have B4 : Below w3.heap.size w3 W4 := by rw [← e4]; exact one_alloc _ _
  have z4 : W4.heap.size = w3.heap.size + 1 := by rw [← e4]; simp
  have RM : W4.rowIs w3.heap.size 36 (N * 3) zero3 := by rw [← e4]; exact rowIs_made3 w3 (N * 3)
  have I4 := I3.next B4
  have q04 := I4.q0
  have C2 := size_any (x.shape.drop (k + 1)) aD cD W4 (HRD.out.next I4.bel)
  rw [HDL.out] at C2
  obtain ⟨WD, hWD⟩ : ∃ z, sizeV (x.shape.drop (k + 1)) = z := ⟨_, rfl⟩
  rw [hWD] at C2 HAF
  have HWD := hide hWD
  have HO := hide (And.intro ho hb3)
  have HB34 := hide B4
  have HI4 := hide I4
  have HRM := hide RM
  have HZ4 := hide z4
  generalize sizeE (x.shape.drop (k + 1)) = ED at C2
  clear ho hb3 I3 B4 z4 RM I4 hWD
  go_wp2_with fail
  clear mk q0 q04 hp1
  refine C2.mono ?_
  clear C2
  rintro e w4 ⟨rfl, rfl⟩
  clear e4
  obtain ⟨QF, hQF⟩ : ∃ Q : Nat → Nat, Q = alongQ (gI x.shape k).toNat (sizeV (x.shape.drop (k + 1))).toNat l.length (fun i => (gI l i).toNat) := ⟨_, rfl⟩
  obtain ⟨QF, hQF⟩ : ∃ Q : Nat → Nat, Q = alongQ (gI x.shape k).toNat (sizeV (x.shape.drop (k + 1))).toNat l.length (fun i => (gI l i).toNat) := ⟨_, rfl⟩
  obtain ⟨QF, hQF⟩ : ∃ Q : Nat → Nat, Q = alongQ (gI x.shape k).toNat (sizeV (x.shape.drop (k + 1))).toNat l.length (fun i => (gI l i).toNat) := ⟨_, rfl⟩
  obtain ⟨QF, hQF⟩ : ∃ Q : Nat → Nat, Q = alongQ (gI x.shape k).toNat (sizeV (x.shape.drop (k + 1))).toNat l.length (fun i => (gI l i).toNat) := ⟨_, rfl⟩
  obtain ⟨QF, hQF⟩ : ∃ Q : Nat → Nat, Q = alongQ (gI x.shape k).toNat (sizeV (x.shape.drop (k + 1))).toNat l.length (fun i => (gI l i).toNat) := ⟨_, rfl⟩
  obtain ⟨QF, hQF⟩ : ∃ Q : Nat → Nat, Q = alongQ (gI x.shape k).toNat (sizeV (x.shape.drop (k + 1))).toNat l.length (fun i => (gI l i).toNat) := ⟨_, rfl⟩
  obtain ⟨QF, hQF⟩ : ∃ Q : Nat → Nat, Q = alongQ (gI x.shape k).toNat (sizeV (x.shape.drop (k + 1))).toNat l.length (fun i => (gI l i).toNat) := ⟨_, rfl⟩
  obtain ⟨T, hT⟩ : ∃ T : Nat → Value × Value × Value, T = fun p => cellT x.cells ab cb (QF p) := ⟨_, rfl⟩
  have HTT := hide hT
  have HQF := hide hQF
  have HR0 : Hid (w4.rowIs w3.heap.size 36 (N * 3) (gF T 0)) := HRM.out.congr fun i hi => by rw [gF_zero]
  clear hT hQF
  by_cases hN0 : N = 0
  · have hNn : ¬ (0 : Int) < (N : Int) := by omega
    have HQB : Hid (∀ i, i < N → QF i < CA) := fun i hi => by omega
    clear hN0
    go_wp2
    go_loopg [13, 14] 0 (fun g tv sv wr => tv = .int .i64 0 ∧ sv = .int .i64 0 ∧ wr = w4)
    case atStart => exact ⟨rfl, rfl, rfl⟩
    case round =>
      obtain ⟨rfl, rfl, hw⟩ := hrel
      have hw' := hw.symm
      subst hw'
      have hTw : Two w4 w3.heap.size w3.heap.size w4 := Two.refl _ _ _
      have e0 : gF T N = gF T 0 := by rw [show N = 0 by omega]
      have hrow := HR0.out
      rw [← e0] at hrow
      have hz4 := HZ4.out
      obtain ⟨i4, hi4⟩ : ∃ B, w3.heap.size = B := ⟨_, rfl⟩
      have BX : Below (w.heap.size + 2) w4 w4 := hTw.belowB (by have := HI4.out.size; have := HO.out.2.size; omega) (by have := HI4.out.size; have := HO.out.2.size; omega)
      have I8 : In2 w (.slice a1 SA c1) (.slice a2 CA c2) w4 := HI4.out.belowS BX (Nat.le_refl _)
      have p0 := I8.p0
      have p1 := I8.p1
      have f0 := I8.f0
      have f1 := I8.f1
      have HT := hide (I8.put (.slice as' SA cs') (.slice (some ⟨w3.heap.size, 0, none⟩) N N))
      have HFIN : Hid (∀ u v, GivesK (n + 1) w0 (alongA x k l) w (.returned (.agg #[.slice as' SA cs', .slice (some ⟨w3.heap.size, 0, none⟩) N N])) ((w4.setCell ⟨w.heap.size + 1, 0, none⟩ u).setCell ⟨w.heap.size + 1, 1, none⟩ v)) := by
        intro u v
        have hsl : (x.shape.set k (l.length : Int)).length = SA := by rw [List.length_set]; exact HSC.out.1
        refine ⟨⟨_, rfl, ⟨_, _, _, _, _, _, rfl, by have := HO.out.1.1; rw [List.length_set, HSC.out.1] at this; exact this, Nat.le_refl _⟩, fun W hW hK => ?_⟩, I8.fin u v⟩
        have K2 := (keeps_two w4 w.heap.size u v).trans (hK.mono (show w.heap.size ≤ w.heap.size + 2 by omega))
        have hsz := HI4.out.size
        have hsO := HO.out.2.size
        have hzz := HZ2.out
        have RS : Row 0 W as' (x.shape.set k (l.length : Int)) := by
          have r1 := HO.out.1.2.2
          rw [← HSC.out.2.2] at r1
          have k1 : Keeps W2.heap.size w3 w4 := ⟨by rw [hTw.size]; omega, fun b h1 h2 => (hTw.keep b (by omega) (by omega)).trans ((HB34.out.block b h2))⟩
          exact ((r1.keeps (k1.trans (K2.mono (by omega)))).low (Nat.zero_le _))
        have hcl : (alongA x k l).cells.length = N := by show (mkCs _ _).length = N; rw [mkCs_len, HSC.out.2.2, HN.out]; simp
        refine arIn_mk (x := alongA x k l) RS (by rw [hcl]; omega) ?_ hsl hcl
        by_cases hN0' : N = 0
        · exact Or.inl (List.eq_nil_of_length_eq_zero (by rw [hcl]; exact hN0'))
        refine Or.inr ⟨w3.heap.size, 0, rfl, Nat.zero_le _, Nat.lt_of_lt_of_le (show w3.heap.size < w4.heap.size by rw [hTw.size]; omega) K2.1, fun i hi => ?_⟩
        rw [hcl] at hi
        rw [Nat.zero_add]
        have ap : ∀ (o : Nat) (q : Value), w4.cell? ⟨w3.heap.size, o, none⟩ = some q → W.cell? ⟨w3.heap.size, o, none⟩ = some q := fun o q h => (K2.cell (p := ⟨w3.heap.size, o, none⟩) (by show _ ≤ w3.heap.size; omega) (by show w3.heap.size < _; rw [hTw.size]; omega)).trans h
        obtain ⟨s0, s1, s2⟩ := gF_at T N i hi
        have m0 := hrow.cell (i := i * 3) (by omega)
        have m1 := hrow.cell (i := i * 3 + 1) (by omega)
        have m2 := hrow.cell (i := i * 3 + 2) (by omega)
        rw [s0] at m0
        rw [s1] at m1
        rw [s2] at m2
        refine ⟨_, _, _, ap _ _ m0, ap _ _ m1, ap _ _ m2, ?_⟩
        have hQ := HQB.out i hi
        obtain ⟨b, off, -, -, hb, hcl2⟩ := HCF.out (by omega)
        obtain ⟨-, -, -, hce⟩ := hcl2 _ hQ
        have ec : cAt (alongA x k l).cells i = cAt x.cells (QF i) := by show cAt (mkCs _ _) i = _; rw [mkCs_at _ _ _ (by rw [HSC.out.2.2, HN.out]; simpa using hi), HQF.out]
        rw [ec, HTT.out]
        exact hce.mono (Nat.zero_le _) hW fun x v h => h.mono (Nat.zero_le _) hW
      clear I8 BX hTw hrow hz4 hi4
      go_wp2
      exact bodyPost_ret (v := .agg #[.slice as' SA cs', .slice (some ⟨w3.heap.size, 0, none⟩) N N]) (by simp [results, Try.results98, go_sem, HT.out.1, HT.out.2]) rfl (HFIN.out _ _)
  · obtain ⟨A, D, wd, hD, hwd, hw0, hL0, hNA, hCAA, hw16, hL16, hD16⟩ := HAF.out (by rw [HN.out]; omega)
    subst hwd
    have hNA' : N = A * (L * wd) := by rw [HN.out] at hNA; omega
    obtain ⟨M, hM⟩ : ∃ M, L * wd = M := ⟨_, rfl⟩
    obtain ⟨DW, hDW⟩ : ∃ DW, D * wd = DW := ⟨_, rfl⟩
    rw [hM] at hNA'
    rw [hDW] at hCAA
    have hM0 : 0 < M := by rw [← hM]; exact Nat.mul_pos hL0 hw0
    have HQ : Hid (∀ r j q, j < L → q < wd → QF (r * M + j * wd + q) = r * DW + (gI l j).toNat * wd + q) := by
      intro r j q hj hq
      rw [HQF.out, hD, HWD.out, HSC.out.2.2]
      have := alongQ_at D wd L (fun i => (gI l i).toNat) r j q hj hq
      rw [Nat.add_mul, Nat.mul_assoc, hM, hDW] at this
      simpa using this
    have HBD : Hid (∀ r j, r < A → j < L → (gI l j).toNat * wd + wd ≤ DW ∧ r * DW + DW ≤ CA ∧ r * M + M ≤ N ∧ j * wd + wd ≤ M) := by
      intro r j hr hj
      have h1 := HIN.out j hj
      rw [hD] at h1
      have a1 : ((gI l j).toNat + 1) * wd ≤ D * wd := Nat.mul_le_mul_right _ (by omega)
      have a2 : (r + 1) * DW ≤ A * DW := Nat.mul_le_mul_right _ hr
      have a3 : (r + 1) * M ≤ A * M := Nat.mul_le_mul_right _ hr
      have a4 : (j + 1) * wd ≤ L * wd := Nat.mul_le_mul_right _ hj
      rw [Nat.add_mul, Nat.one_mul] at a1 a2 a3 a4
      omega
    have HQB : Hid (∀ i, i < N → QF i < CA) := by
      intro i hi
      have e1 : i = (i / M) * M + (i % M / wd) * wd + i % M % wd := by
        have h1 := Nat.div_add_mod i M
        have h2 := Nat.div_add_mod (i % M) wd
        rw [Nat.mul_comm] at h1 h2
        omega
      have hr : i / M < A := by rw [Nat.div_lt_iff_lt_mul hM0]; omega
      have hj : i % M / wd < L := by
        rw [Nat.div_lt_iff_lt_mul hw0, hM]; exact Nat.mod_lt _ hM0
      have hq : i % M % wd < wd := Nat.mod_lt _ hw0
      obtain ⟨b1, b2, -, -⟩ := HBD.out _ _ hr hj
      rw [e1, HQ.out _ _ _ hj hq]
      omega
    have HAM := hide (And.intro hNA' (And.intro hCAA (And.intro hD (And.intro hM hDW))))
    clear hNA hNA' hCAA hD hM hDW hN0
    go_wp2
    go_loopg [13, 14] A (fun g tv sv wr => ∃ r : Nat, g + r = A ∧ tv = .int .i64 ((r * M : Nat) : Int) ∧ sv = .int .i64 ((r * DW : Nat) : Int) ∧ Two w4 w3.heap.size w3.heap.size wr ∧ wr.rowIs w3.heap.size 36 (N * 3) (gF T (r * M)))
    case atStart => exact ⟨0, rfl, by simp, by simp, Two.refl _ _ _, by rw [Nat.zero_mul]; exact HR0.out⟩
    case round =>
      clear HR0 HRM
      obtain ⟨r, hgr, rfl, rfl, hTw, hrow⟩ := hrel
      obtain ⟨wo, hwo⟩ : ∃ wo, wo = wr := ⟨_, rfl⟩
      subst hwo
      by_cases hlt : r < A
      · obtain ⟨tz, hto⟩ : ∃ tz, r * M = tz := ⟨_, rfl⟩
        obtain ⟨st, hst⟩ : ∃ st, r * DW = st := ⟨_, rfl⟩
        have hb1 := HBD.out r 0 hlt hL0
        have HTS := hide (And.intro hto hst)
        rw [hto, hst] at hb1
        rw [hto] at hrow
        rw [hto, hst]
        have htN : (tz : Int) < (N : Int) := by omega
        have HST := hide (And.intro hTw hrow)
        clear hto hst hTw hrow
        go_wp2
        go_loopg [13, 53] L (fun g tv iv wq => ∃ j : Nat, g + j = L ∧ iv = .int .i64 (j : Int) ∧ tv = .int .i64 ((tz + j * wd : Nat) : Int) ∧ Two w4 w3.heap.size w3.heap.size wq ∧ wq.rowIs w3.heap.size 36 (N * 3) (gF T (tz + j * wd)))
        case atStart => exact ⟨0, rfl, rfl, by simp, HST.out.1, by rw [Nat.zero_mul]; exact HST.out.2⟩
        case round =>
          clear HST
          obtain ⟨j, hgj, rfl, rfl, hTw, hrow⟩ := hrel
          have BX : Below (w.heap.size + 2) w4 wr := hTw.belowB (by have := HI4.out.size; have := HO.out.2.size; have := HZ4.out; have := HZ2.out; omega) (by have := HI4.out.size; have := HO.out.2.size; have := HZ2.out; omega)
          have I6 : In2 w (.slice a1 SA c1) (.slice a2 CA c2) wr := HI4.out.belowS BX (Nat.le_refl _)
          by_cases hlj : j < L
          · obtain ⟨b1, b2, b3, b4⟩ := HBD.out r j hlt hlj
            rw [HTS.out.1] at b3
            rw [HTS.out.2] at b2
            obtain ⟨bt, ot, rfl, hbt, hct⟩ := row_at HRT.out (j := j) (by rw [HSC.out.2.2]; exact hlj)
            have u0 := (I6.bel.cell (p := ⟨bt, ot + j, none⟩) hbt).trans hct
            obtain ⟨aj, haj⟩ : ∃ aj : Nat, gI l j = (aj : Int) := ⟨(gI l j).toNat, by have := HIN.out j hlj; omega⟩
            have eg : l[j]?.getD 0 = (aj : Int) := haj
            rw [eg] at u0
            rw [haj, Int.toNat_natCast] at b1
            obtain ⟨jw, hjw⟩ : ∃ jw, j * wd = jw := ⟨_, rfl⟩
            obtain ⟨pw, hpw⟩ : ∃ pw, aj * wd = pw := ⟨_, rfl⟩
            have HQ2 : Hid (∀ q, q < wd → QF (tz + jw + q) = st + pw + q) := by
              intro q hq
              have := HQ.out r j q hlj hq
              rw [haj, Int.toNat_natCast, HTS.out.1, HTS.out.2, hjw, hpw] at this
              exact this
            have hmul : (aj : Int) * (wd : Int) = (pw : Int) := by rw [← Int.natCast_mul, hpw]
            rw [hpw] at b1
            rw [hjw] at b4 hrow ⊢
            obtain ⟨t2, ht2⟩ : ∃ t2, tz + jw = t2 := ⟨_, rfl⟩
            obtain ⟨fr, hfr⟩ : ∃ fr, st + pw = fr := ⟨_, rfl⟩
            obtain ⟨fw, hfw⟩ : ∃ fw, fr + wd = fw := ⟨_, rfl⟩
            rw [ht2] at hrow ⊢
            have ha1 : (st : Int) + (pw : Int) = (fr : Int) := by omega
            have hwr : IntKind.i64.wrap ((fr : Int) + (wd : Int)) = (fw : Int) := by rw [show (fr : Int) + (wd : Int) = (fw : Int) by omega]; exact IntWalk.i64_in _ ⟨by omega, by omega⟩
            have hwr2 : IntKind.i64.wrap ((t2 : Int) + (wd : Int)) = ((t2 + wd : Nat) : Int) := by rw [show (t2 : Int) + (wd : Int) = ((t2 + wd : Nat) : Int) by omega]; exact IntWalk.i64_in _ ⟨by omega, by omega⟩
            have hp1 : ∀ W, (Instr.sliceAt 23 (.slice (some ⟨w3.heap.size, 0, none⟩) N N) (some (.int .i64 (t2 : Int))) none none).run Try.prog W = .ok (.slice (some ⟨w3.heap.size, t2 * 3, none⟩) (N - t2) (N - t2)) W := fun W => by
              rw [part_l (P := Try.prog) Try.underlying23 size36 (some ⟨w3.heap.size, 0, none⟩) N N t2 (t2 : Int) rfl (by omega) W]
              unfold subA; rw [if_neg (by omega), Option.map_some, add_off, Nat.zero_add]
            have hp2 : ∀ W, (Instr.sliceAt 23 (.slice a2 CA c2) (some (.int .i64 (fr : Int))) (some (.int .i64 (fw : Int))) none).run Try.prog W = .ok (.slice (subA a2 fr c2 3) wd (c2 - fr)) W := fun W => by
              rw [part_lh (P := Try.prog) Try.underlying23 size36 a2 CA c2 fr fw (fr : Int) (fw : Int) rfl rfl (by omega) (by have := HCAP.out; omega) W, show fw - fr = wd by omega]
            have HLI : Hid (Lies wr.drew (subA a2 fr c2 3) (rowT (fun q => T (t2 + q)) wd)) := by
              obtain ⟨b, off, rfl, -, hb, hcells⟩ := HCF.out (by omega)
              have hNB := HB0.out.trans (I6.bel.mono HB0.out.size)
              have hL1 := lies_part (w := wr) (cs := x.cells) (ab := ab) (cb := cb) (b := b) (off := off) (Nat.lt_of_lt_of_le hb hNB.size) (fun i hi => by
                rw [HSC.out.2.1] at hi
                obtain ⟨g0, g1, g2, -⟩ := hcells i hi
                exact ⟨(hNB.cell (p := ⟨b, off + i * 3, none⟩) hb).trans g0, (hNB.cell (p := ⟨b, off + i * 3 + 1, none⟩) hb).trans g1, (hNB.cell (p := ⟨b, off + i * 3 + 2, none⟩) hb).trans g2⟩) fr wd c2 (by rw [HSC.out.2.1]; omega) (by rw [HSC.out.2.1]; exact HCAP.out) hw0
              have e : rowT (fun q => T (t2 + q)) wd = rowT (fun q => cellT x.cells ab cb (fr + q)) wd := rowT_congr fun q hq => by
                show T (t2 + q) = _
                rw [HTT.out]
                show cellT x.cells ab cb (QF (t2 + q)) = _
                rw [← ht2, HQ2.out q hq, hfr]
              rw [e]; exact hL1.drew
            have HROW : Hid (wr.drew.rowIs w3.heap.size 36 (N * 3) (gF T t2)) := hrow
            have HMM : Hid (wd = Nat.min wd (N - t2) ∧ (rowT (fun q => T (t2 + q)) wd).length = wd * 3 ∧ t2 * 3 + (rowT (fun q => T (t2 + q)) wd).length ≤ N * 3) := by
              refine ⟨(Nat.min_eq_left (by omega)).symm, rowT_len _ _, ?_⟩
              rw [rowT_len]; omega
            have HTW2 := hide hTw.drew
            have HNX : Hid (tz + (j + 1) * wd = t2 + wd) := by unfold Hid; rw [Nat.add_mul, Nat.one_mul, hjw]; omega
            have t1 := I6.q1
            obtain ⟨RW, hRW⟩ : ∃ RW, rowT (fun q => T (t2 + q)) wd = RW := ⟨_, rfl⟩
            have HRW := hide hRW
            rw [hRW] at HLI HMM
            have hpw16 : pw ≤ 16384 := by omega
            have hst16 : st ≤ 16384 := by omega
            clear hrow hTw I6 BX hct hbt b1 b2 haj eg hjw hpw ht2 hfr HQ2 hRW
            go_wp2
            go_region_law (refine step_copy_rowIs rfl (.tmp 65) (.tmp 72) 23 23 rfl 36 3 Try.underlying23 size36 (some ⟨w3.heap.size, t2 * 3, none⟩) (subA a2 fr c2 3) (N - t2) (N - t2) wd (c2 - fr) wd rfl rfl w3.heap.size (t2 * 3) (N * 3) 36 (gF T t2) HROW.out RW HMM.out.1 HMM.out.2.1 (fun _ => rfl) HLI.out (by decide) HMM.out.2.2 ?_; intro w9 hrow9 hTw9)
            all_goals
              have HN9 : Hid (Two w4 w3.heap.size w3.heap.size w9 ∧ w9.rowIs w3.heap.size 36 (N * 3) (gF T (tz + (j + 1) * wd))) := by
                refine ⟨⟨HTW2.out.io.trans hTw9.io, hTw9.size.trans HTW2.out.size, fun b h1 h2 => (hTw9.keep b h1 h2).trans (HTW2.out.keep b h1 h2)⟩, ?_⟩
                rw [HNX.out]
                refine hrow9.congr fun i hi => ?_
                rw [← HRW.out]
                exact spF_gF T t2 wd N i hi
              clear hrow9 hTw9 HROW HLI HMM HTW2 hp1 hp2 u0 t1
              go_wp2
              go_roundg (L - (j + 1))
              case rel => exact ⟨j + 1, by omega, by go_num, by rw [HNX.out]; first | rfl | simp, HN9.out⟩
              case measure => omega
          · have hje : j = L := by omega
            subst hje
            obtain ⟨hNA, hCAA, hD, hM, hDW⟩ := HAM.out
            rw [hM] at hrow
            obtain ⟨bx, ox, rfl, hbx, hcx⟩ := row_at HRX.out (j := k) (by rw [HSC.out.1]; exact hk)
            have u0 := (I6.bel.cell (p := ⟨bx, ox + k, none⟩) hbx).trans hcx
            have eg : x.shape[k]?.getD 0 = (D : Int) := hD
            rw [eg] at u0
            have t0 := I6.q0
            have hmul : (D : Int) * (wd : Int) = (DW : Int) := by rw [← Int.natCast_mul, hDW]
            have hDWN : DW ≤ 16384 := by have := (HBD.out r 0 hlt hL0).2.1; omega
            have HN9 : Hid (Two w4 w3.heap.size w3.heap.size wr ∧ wr.rowIs w3.heap.size 36 (N * 3) (gF T ((r + 1) * M))) := by
              refine ⟨hTw, ?_⟩
              rw [Nat.add_mul, Nat.one_mul, HTS.out.1]
              exact hrow
            have HEQ : Hid (((tz + j * wd : Nat) : Int) = (((r + 1) * M : Nat) : Int) ∧ (st : Int) + (DW : Int) = (((r + 1) * DW : Nat) : Int)) := by
              refine ⟨?_, ?_⟩
              · rw [hM, Nat.add_mul, Nat.one_mul, HTS.out.1]
              · rw [Nat.add_mul, Nat.one_mul, HTS.out.2]; simp
            have hst16 : st ≤ 16384 := by omega
            clear hrow hTw I6 BX hcx hbx eg hNA hCAA hD hM hDW
            go_wp2
            go_roundg (A - (r + 1))
            case rel => exact ⟨r + 1, by omega, by rw [HEQ.out.1], by rw [← HEQ.out.2], HN9.out⟩
            case measure => omega
      · have hrA : r = A := by omega
        subst hrA
        obtain ⟨hNA, -⟩ := HAM.out
        rw [← hNA] at hrow ⊢
        clear hNA
        have hz4 := HZ4.out
        obtain ⟨i4, hi4⟩ : ∃ B, w3.heap.size = B := ⟨_, rfl⟩
        have BX : Below (w.heap.size + 2) w4 wo := hTw.belowB (by have := HI4.out.size; have := HO.out.2.size; omega) (by have := HI4.out.size; have := HO.out.2.size; omega)
        have I8 : In2 w (.slice a1 SA c1) (.slice a2 CA c2) wo := HI4.out.belowS BX (Nat.le_refl _)
        have p0 := I8.p0
        have p1 := I8.p1
        have f0 := I8.f0
        have f1 := I8.f1
        have HT := hide (I8.put (.slice as' SA cs') (.slice (some ⟨w3.heap.size, 0, none⟩) N N))
        have HFIN : Hid (∀ u v, GivesK (n + 1) w0 (alongA x k l) w (.returned (.agg #[.slice as' SA cs', .slice (some ⟨w3.heap.size, 0, none⟩) N N])) ((wo.setCell ⟨w.heap.size + 1, 0, none⟩ u).setCell ⟨w.heap.size + 1, 1, none⟩ v)) := by
          intro u v
          have hsl : (x.shape.set k (l.length : Int)).length = SA := by rw [List.length_set]; exact HSC.out.1
          refine ⟨⟨_, rfl, ⟨_, _, _, _, _, _, rfl, by have := HO.out.1.1; rw [List.length_set, HSC.out.1] at this; exact this, Nat.le_refl _⟩, fun W hW hK => ?_⟩, I8.fin u v⟩
          have K2 := (keeps_two wo w.heap.size u v).trans (hK.mono (show w.heap.size ≤ w.heap.size + 2 by omega))
          have hsz := HI4.out.size
          have hsO := HO.out.2.size
          have hzz := HZ2.out
          have RS : Row 0 W as' (x.shape.set k (l.length : Int)) := by
            have r1 := HO.out.1.2.2
            rw [← HSC.out.2.2] at r1
            have k1 : Keeps W2.heap.size w3 wo := ⟨by rw [hTw.size]; omega, fun b h1 h2 => (hTw.keep b (by omega) (by omega)).trans ((HB34.out.block b h2))⟩
            exact ((r1.keeps (k1.trans (K2.mono (by omega)))).low (Nat.zero_le _))
          have hcl : (alongA x k l).cells.length = N := by show (mkCs _ _).length = N; rw [mkCs_len, HSC.out.2.2, HN.out]; simp
          refine arIn_mk (x := alongA x k l) RS (by rw [hcl]; omega) ?_ hsl hcl
          by_cases hN0' : N = 0
          · exact Or.inl (List.eq_nil_of_length_eq_zero (by rw [hcl]; exact hN0'))
          refine Or.inr ⟨w3.heap.size, 0, rfl, Nat.zero_le _, Nat.lt_of_lt_of_le (show w3.heap.size < wo.heap.size by rw [hTw.size]; omega) K2.1, fun i hi => ?_⟩
          rw [hcl] at hi
          rw [Nat.zero_add]
          have ap : ∀ (o : Nat) (q : Value), wo.cell? ⟨w3.heap.size, o, none⟩ = some q → W.cell? ⟨w3.heap.size, o, none⟩ = some q := fun o q h => (K2.cell (p := ⟨w3.heap.size, o, none⟩) (by show _ ≤ w3.heap.size; omega) (by show w3.heap.size < _; rw [hTw.size]; omega)).trans h
          obtain ⟨s0, s1, s2⟩ := gF_at T N i hi
          have m0 := hrow.cell (i := i * 3) (by omega)
          have m1 := hrow.cell (i := i * 3 + 1) (by omega)
          have m2 := hrow.cell (i := i * 3 + 2) (by omega)
          rw [s0] at m0
          rw [s1] at m1
          rw [s2] at m2
          refine ⟨_, _, _, ap _ _ m0, ap _ _ m1, ap _ _ m2, ?_⟩
          have hQ := HQB.out i hi
          obtain ⟨b, off, -, -, hb, hcl2⟩ := HCF.out (by omega)
          obtain ⟨-, -, -, hce⟩ := hcl2 _ hQ
          have ec : cAt (alongA x k l).cells i = cAt x.cells (QF i) := by show cAt (mkCs _ _) i = _; rw [mkCs_at _ _ _ (by rw [HSC.out.2.2, HN.out]; simpa using hi), HQF.out]
          rw [ec, HTT.out]
          exact hce.mono (Nat.zero_le _) hW fun x v h => h.mono (Nat.zero_le _) hW
        clear I8 BX hTw hrow hz4 hi4
        go_wp2
        exact bodyPost_ret (v := .agg #[.slice as' SA cs', .slice (some ⟨w3.heap.size, 0, none⟩) N N]) (by simp [results, Try.results98, go_sem, HT.out.1, HT.out.2]) rfl (HFIN.out _ _)
theorem along_any {n lo lo' k : Nat} {x : Ar} {va : Value} {w0 w : World} (hx : ArIn (n + 1) lo w0 x va) (hb0 : Below w0.heap.size w0 w) (hcap : Caps va) (hchk : chkA 8 x = 0) (hk : k < x.shape.length) (l : List Int) (aT : Option Addr) (cT : Nat) (RT : Row lo' w aT l)
    (hin : ∀ i, i < l.length → 0 ≤ gI l i ∧ gI l i < gI x.shape k) (hs : sizeE (x.shape.set k (l.length : Int)) = 0) (hl16 : l.length ≤ 16384) :
    Calls Try.prog 98 #[va, .int .i64 (k : Int), .slice aT l.length cT] w fun e w' => GivesK (n + 1) w0 (alongA x k l) w e w' := by
  obtain ⟨a1, c1, a2, c2, rfl, R, hc⟩ := hx.form
  exact along_row (R.next hb0) hc hb0 hcap hchk hk l aT cT RT hin hs hl16
end Go.Proofs.Ytmjncdhahdpplaa
namespace Go.Proofs.Ytmjncdhahdpplaa
open Go.ChangeShapes Go.WideShapes Go.ChangeAt Go.RowKit
set_option linter.unusedVariables false
set_option maxRecDepth 100000
def Gives2K (n : Nat) (w0 : World) (x : Ar) (E : Int) (w : World) (e : Ending) (w' : World) : Prop := (∃ v, e = .returned (.tuple #[v, .int .i64 E]) ∧ Caps v ∧ ∀ W, Below w0.heap.size w0 W → Keeps w.heap.size w' W → ArIn n 0 W x v) ∧ Below w.heap.size w w'
theorem gives2k_of {n : Nat} {x : Ar} {E : Int} {w0 w w' : World} {v : Value} {R : Ar × Int} (hR : R = (x, E)) (hc : Caps v) (hx : ∀ W, Below w0.heap.size w0 W → Keeps w.heap.size w' W → ArIn n 0 W x v) (hb : Below w.heap.size w w') : Gives2K n w0 R.1 R.2 w (.returned (.tuple #[v, .int .i64 E])) w' := by
  subst hR
  exact ⟨⟨_, rfl, hc, hx⟩, hb⟩
theorem caps_nil : Caps (.agg #[.slice none 0 0, .slice none 0 0]) := ⟨_, _, _, _, _, _, rfl, Nat.le_refl _, Nat.le_refl _⟩
theorem keeps_three (W : World) (s : Nat) (u v : Value) : Keeps (s + 3) W ((W.setCell ⟨s + 2, 0, none⟩ u).setCell ⟨s + 2, 1, none⟩ v) := ((Keeps.refl _ _).setCell (p := ⟨s + 2, 0, none⟩) (by show s + 2 < _; omega) u).setCell (p := ⟨s + 2, 1, none⟩) (by show s + 2 < _; omega) v
def rotL (m : Int) (D : Nat) : List Int := (List.range D).map fun i : Nat => ((i : Int) + m) % (D : Int)
theorem rotL_len (m : Int) (D : Nat) : (rotL m D).length = D := by simp [rotL]
theorem rotL_at (m : Int) (D i : Nat) (hi : i < D) : gI (rotL m D) i = ((i : Int) + m) % (D : Int) := by simp [gI, rotL, hi]
theorem rot_rem (m : Int) (D i : Nat) (hi : i < D) : -(D : Int) < m.tmod (D : Int) ∧ m.tmod (D : Int) < D ∧ ((i : Int) + m.tmod (D : Int) + (D : Int)).tmod (D : Int) = ((i : Int) + m) % (D : Int) ∧ 0 ≤ ((i : Int) + m) % (D : Int) ∧ ((i : Int) + m) % (D : Int) < D := by
  have h1 := Int.tmod_lt_of_pos m (show (0 : Int) < D by omega)
  have h2 : -(D : Int) < m.tmod (D : Int) := by
    have := Int.tmod_lt_of_pos (-m) (show (0 : Int) < D by omega)
    rw [Int.neg_tmod] at this
    omega
  refine ⟨h2, h1, ?_, Int.emod_nonneg _ (by omega), Int.emod_lt_of_pos _ (by omega)⟩
  rw [Int.tmod_eq_emod_of_nonneg (by omega), Int.add_emod_right]
  have e : m = (D : Int) * m.tdiv D + m.tmod D := (Int.mul_tdiv_add_tmod m D).symm
  have e2 : (i : Int) + m = (i : Int) + m.tmod D + (D : Int) * m.tdiv D := by omega
  rw [e2, Int.add_mul_emod_self_left]
theorem row_toF3 {w : World} {b lo : Nat} {l : List Int} (h : w.rowIs b 3 l.length (toF l l.length)) (hlo : lo ≤ b) (hl : l.length ≤ 140737488355328) : Row lo w (some ⟨b, 0, none⟩) l := by
  refine row_made h rfl hlo hl fun i hi => ?_
  unfold toF
  rw [if_pos hi]; rfl
def rotR (x y : Ar) (k : Nat) : Ar × Int := if ¬ (numR x).2 = 0 then (zeroA, (numR x).2) else if y.shape.length = 0 then (y, 0) else (alongA y k (rotL (numR x).1 (gI y.shape k).toNat), 0)
set_option maxHeartbeats 8000000 in
theorem rotated_any {n m lo lo' : Nat} {x y : Ar} {va vb : Value} {w0 w : World} (hx : ArIn (m + 1) lo w0 x va) (hy : ArIn (n + 1) lo' w0 y vb) (hb0 : Below w0.heap.size w0 w) (hcx : chkA 8 x = 0) (hcy : chkA 8 y = 0) (hcap : Caps vb) (k : Nat) (kv : Int) (hk : 0 < y.shape.length → k < y.shape.length ∧ kv = (k : Int)) :
    Calls Try.prog 78 #[va, vb, .int .i64 kv] w fun e w' => Gives2K (n + 1) w0 (rotR x y k).1 (rotR x y k).2 w e w' := by
  obtain ⟨a1, c1, a2, c2, rfl, R, hc⟩ := hx.form
  obtain ⟨b1, d1, b2, d2, rfl, R', hc'⟩ := hy.form
  have I := in3_new w (.slice a1 x.shape.length c1) (.slice a2 x.cells.length c2) (.slice b1 y.shape.length d1) (.slice b2 y.cells.length d2)
  obtain ⟨W3, e3⟩ : ∃ W3, ((w.alloc (.cells #[.slice a1 x.shape.length c1, .slice a2 x.cells.length c2] 25)).alloc (.cells #[.slice b1 y.shape.length d1, .slice b2 y.cells.length d2] 25)).alloc (.cells #[.slice none 0 0, .slice none 0 0] 25) = W3 := ⟨_, rfl⟩
  rw [e3] at I
  have q0 := I.q0
  have q1 := I.q1
  have CN := number_any (hx.next (hb0.trans (I.bel.mono hb0.size))) hcx
  have HI := hide I
  have HB0 := hide hb0
  have HY := hide (And.intro hy (And.intro hcy hcap))
  have HRY := hide R'
  have HK := hide hk
  obtain ⟨l8, cy16⟩ := chk_len hcy
  have HE : Hid (rotR x y k = if ¬ (numR x).2 = 0 then (zeroA, (numR x).2) else if y.shape.length = 0 then (y, 0) else (alongA y k (rotL (numR x).1 (gI y.shape k).toNat), 0)) := rfl
  obtain ⟨⟨Nn, NE⟩, hNR⟩ : ∃ p, numR x = p := ⟨_, rfl⟩
  rw [hNR] at HE CN
  simp only at CN HE
  obtain ⟨SX, hSX⟩ : ∃ SX, x.shape.length = SX := ⟨_, rfl⟩
  obtain ⟨CX, hCX⟩ : ∃ CX, x.cells.length = CX := ⟨_, rfl⟩
  obtain ⟨SY, hSY⟩ : ∃ SY, y.shape.length = SY := ⟨_, rfl⟩
  obtain ⟨CY, hCY⟩ : ∃ CY, y.cells.length = CY := ⟨_, rfl⟩
  have HSC := hide (And.intro hSY hCY)
  simp only [hSX, hCX, hSY, hCY] at CN e3 q0 q1 HI HY HE HK l8 cy16 ⊢
  clear R hc I hx hy R' hc' hSX hCX hSY hCY hb0 hcx hcy hcap hk hNR
  go_enter Try.func78, Try.ntmps78
  go_wp2_with fail
  clear e3 q0 q1
  refine CN.mono ?_
  clear CN
  rintro e w1 ⟨rfl, hb1⟩
  have I1 := HI.out.next hb1
  have r0 := I1.r0
  have r1 := I1.r1
  have p0 := I1.p0
  have p1 := I1.p1
  have f0 := I1.f0
  have f1 := I1.f1
  have HI1 := hide I1
  by_cases hNE : NE = 0
  case neg =>
    have HE5 : Hid (rotR x y k = (zeroA, NE)) := by unfold Hid; rw [HE.out, if_pos hNE]
    have HT := hide (I1.put (.slice none 0 0) (.slice none 0 0))
    have hne : (NE == 0) = false := beq_eq_false_iff_ne.2 hNE
    clear I1 HE HY HRY HK hb1 HI r0 r1
    go_wp2
    exact bodyPost_ret (v := .tuple #[.agg #[.slice none 0 0, .slice none 0 0], .int .i64 NE]) (by simp [results, Try.results78, go_sem, HT.out.1, HT.out.2]) rfl (gives2k_of HE5.out caps_nil (fun _ _ _ => zeroA_in _ _ _) (HI1.out.fin _ _))
  subst hNE
  by_cases hS0 : SY = 0
  · have HE5 : Hid (rotR x y k = (y, 0)) := by unfold Hid; rw [HE.out, if_neg (by simp), if_pos hS0]
    have HT := hide (I1.put (.slice b1 SY d1) (.slice b2 CY d2))
    have hSb : ((SY : Int) == 0) = true := by simp [hS0]
    clear I1 HE HRY HK hb1 HI hS0
    go_wp2
    exact bodyPost_ret (v := .tuple #[.agg #[.slice b1 SY d1, .slice b2 CY d2], .int .i64 0]) (by simp [results, Try.results78, go_sem, HT.out.1, HT.out.2]) rfl (gives2k_of HE5.out HY.out.2.2 (fun _ hW _ => HY.out.1.mono (Nat.zero_le _) hW) (HI1.out.fin _ _))
  obtain ⟨hkS, rfl⟩ := HK.out (by omega)
  have hSb : ((SY : Int) == 0) = false := by simp; omega
  obtain ⟨by', oy, rfl, hby, hcy⟩ := row_at HRY.out (j := k) (by rw [HSC.out.1]; exact hkS)
  have hDb := (chk_axes HY.out.2.1).1 (gI y.shape k) (getD_mem (by rw [HSC.out.1]; exact hkS))
  obtain ⟨D, hD⟩ : ∃ D : Nat, gI y.shape k = (D : Int) := ⟨(gI y.shape k).toNat, by omega⟩
  have u0 := ((HB0.out.trans (I1.bel.mono HB0.out.size)).cell (p := ⟨by', oy + k, none⟩) hby).trans hcy
  have eg : y.shape[k]?.getD 0 = (D : Int) := hD
  rw [eg] at u0
  have hD16 : D ≤ 16384 := by omega
  have HE5 : Hid (rotR x y k = (alongA y k (rotL Nn D), 0)) := by unfold Hid; rw [HE.out, if_neg (by simp), if_neg hS0, hD, Int.toNat_natCast]
  have mk := run_make_row' (P := Try.prog) 22 3 (.int .i64 0) 8 Try.underlying22 int3 rfl .i64 .i64 D (by omega) (by omega) w1
  obtain ⟨W4, e4⟩ : ∃ W4, w1.alloc (.cells (madeCells #[.int .i64 0] D) 3) = W4 := ⟨_, rfl⟩
  rw [e4] at mk
  have B4 : Below w1.heap.size w1 W4 := by rw [← e4]; exact one_alloc _ _
  have z4 : W4.heap.size = w1.heap.size + 1 := by rw [← e4]; simp
  have RM : W4.rowIs w1.heap.size 3 D (toF (rotL Nn D) 0) := by
    rw [← e4]
    exact (World.rowIs_made w1 (.int .i64 0) D 3).congr fun i hi => by unfold toF; rw [if_neg (by omega)]
  have I4 := I1.next B4
  have HI4 := hide I4
  have HZ4 := hide (And.intro z4 I1.size)
  have HRM := hide RM
  have HD := hide hD
  clear I1 HE HK hb1 HI hS0 p0 p1 f0 f1 B4 z4 RM I4 hcy hby eg hDb hD
  go_wp2
  clear mk e4 u0 r0 r1
  go_loopg [36] D (fun g i wr => ∃ j : Nat, g + j = D ∧ i = .int .i64 (j : Int) ∧ Two W4 w1.heap.size w1.heap.size wr ∧ wr.rowIs w1.heap.size 3 D (toF (rotL Nn D) j))
  case atStart => exact ⟨0, rfl, rfl, Two.refl _ _ _, HRM.out⟩
  case round =>
    clear HRM
    obtain ⟨j, hgj, rfl, hTw, hrow⟩ := hrel
    by_cases hlt : j < D
    · obtain ⟨h1, h2, h3, h4, h5⟩ := rot_rem Nn D j hlt
      have z0 := hrow.cell (i := j) hlt
      have y0 := hrow.frozen j
      have HS : Hid (Two W4 w1.heap.size w1.heap.size (wr.setCell ⟨w1.heap.size, j, none⟩ (.int .i64 (((j : Int) + Nn) % (D : Int)))) ∧ (wr.setCell ⟨w1.heap.size, j, none⟩ (.int .i64 (((j : Int) + Nn) % (D : Int)))).rowIs w1.heap.size 3 D (toF (rotL Nn D) (j + 1))) := ⟨hTw.set1 _ _, (hrow.set j (.int .i64 (((j : Int) + Nn) % (D : Int)))).congr (fun i _ => by rw [toF_step, rotL_at Nn D j hlt])⟩
      obtain ⟨rm, hrm⟩ : ∃ rm, Nn.tmod (D : Int) = rm := ⟨_, rfl⟩
      obtain ⟨rv, hrv⟩ : ∃ rv, ((j : Int) + Nn) % (D : Int) = rv := ⟨_, rfl⟩
      rw [hrm] at h1 h2 h3
      rw [hrv] at h3 h4 h5 HS
      have hD0 : ¬ D = 0 := by omega
      have hD1 : ¬ (D : Int) = 0 := by omega
      have hw1 : IntKind.i64.wrap rm = rm := IntWalk.i64_in _ ⟨by omega, by omega⟩
      have hw2 : IntKind.i64.wrap rv = rv := IntWalk.i64_in _ ⟨by omega, by omega⟩
      generalize toF (rotL Nn D) j j = yv at *
      clear hrow hTw hrv
      go_wp2
      go_roundg (D - (j + 1))
      case rel => exact ⟨j + 1, by omega, by go_num, HS.out⟩
      case measure => omega
    · have hje : j = D := by omega
      subst hje
      have hz := HZ4.out
      have RR : Row 0 wr (some ⟨w1.heap.size, 0, none⟩) (rotL Nn j) := row_toF3 (by rw [rotL_len]; exact hrow) (Nat.zero_le _) (by rw [rotL_len]; omega)
      have I5 : In3 w (.slice a1 SX c1) (.slice a2 CX c2) (.slice (some ⟨by', oy, none⟩) SY d1) (.slice b2 CY d2) wr := HI4.out.belowS (hTw.belowB (B := w.heap.size + 3) (by omega) (by omega)) (Nat.le_refl _)
      have hs0 := HY.out.2.1
      have hset : y.shape.set k ((rotL Nn j).length : Int) = y.shape := by rw [rotL_len, ← HD.out]; exact set_gI _ _ (by rw [HSC.out.1]; exact hkS)
      have C := along_any HY.out.1 (HB0.out.trans (I5.bel.mono HB0.out.size)) HY.out.2.2 hs0 (by rw [HSC.out.1]; exact hkS) (rotL Nn j) (some ⟨w1.heap.size, 0, none⟩) j RR (fun i hi => by
        rw [rotL_len] at hi
        rw [rotL_at Nn j i hi, HD.out]
        exact (rot_rem Nn j i hi).2.2.2) (by rw [hset]; exact ((chkA_iff 8 y).1 hs0).1) (by rw [rotL_len]; exact hD16)
      rw [rotL_len] at C
      have r0 := I5.r0
      have r1 := I5.r1
      have HI5 := hide I5
      obtain ⟨Y, hYY⟩ : ∃ Y, alongA y k (rotL Nn j) = Y := ⟨_, rfl⟩
      rw [hYY] at C HE5
      clear RR I5 hs0 hset hrow hTw hz hYY
      go_wp2_with fail
      refine C.mono ?_
      clear C
      rintro e w5 ⟨⟨v, rfl, hcv, hv⟩, hb5⟩
      have NB : Below w0.heap.size w0 w5 := HB0.out.trans ((HI5.out.bel.trans (hb5.mono HI5.out.bel.size)).mono HB0.out.size)
      obtain ⟨z1, m1, z2, m2, rfl, -, -⟩ := (hv w5 NB (Keeps.refl _ _)).form
      have I6 := HI5.out.next hb5
      have p0 := I6.p0
      have p1 := I6.p1
      have f0 := I6.f0
      have f1 := I6.f1
      have HT := hide (I6.put (.slice z1 Y.shape.length m1) (.slice z2 Y.cells.length m2))
      have HCV := hide hcv
      have HF : Hid (∀ u v W, Below w0.heap.size w0 W → Keeps w.heap.size ((w5.setCell ⟨w.heap.size + 2, 0, none⟩ u).setCell ⟨w.heap.size + 2, 1, none⟩ v) W → ArIn (n + 1) 0 W Y (.agg #[.slice z1 Y.shape.length m1, .slice z2 Y.cells.length m2])) := by
        intro u v W hW hK
        exact hv W hW (((keeps_three w5 w.heap.size u v).trans (hK.mono (show w.heap.size ≤ w.heap.size + 3 by omega))).mono HI5.out.size)
      have HFI := hide I6.fin
      clear I6 hv hcv hb5 NB r0 r1
      generalize Y.shape.length = YS at *
      generalize Y.cells.length = YC at *
      go_wp2
      exact bodyPost_ret (v := .tuple #[.agg #[.slice z1 YS m1, .slice z2 YC m2], .int .i64 0]) (by simp [results, Try.results78, go_sem, HT.out.1, HT.out.2]) rfl (gives2k_of HE5.out HCV.out (HF.out _ _) (HFI.out _ _))
end Go.Proofs.Ytmjncdhahdpplaa
namespace Go.Proofs.Ytmjncdhahdpplaa
open Go.ChangeShapes Go.WideShapes Go.ChangeAt Go.RowKit
set_option linter.unusedVariables false
set_option maxRecDepth 100000
theorem maskN (a : Nat) (ha : a < 18446744073709551616) : bits .and .u64 (a : Int) 4294967295 = ((a % 4294967296 : Nat) : Int) := by
  have h := bits_and_u64_nat a 4294967295 ha (by omega)
  have e : a &&& 4294967295 = a % 4294967296 := Nat.and_two_pow_sub_one_eq_mod a 32
  rw [e] at h
  exact h
theorem divN (a : Nat) : (a : Int) / 4294967296 = ((a / 4294967296 : Nat) : Int) := by omega
theorem mulN (a b : Nat) : (a : Int) * (b : Int) = ((a * b : Nat) : Int) := (Int.natCast_mul a b).symm
theorem addN (a b : Nat) : (a : Int) + (b : Int) = ((a + b : Nat) : Int) := (Int.natCast_add a b).symm
theorem wrapN (a : Nat) (ha : a < 18446744073709551616) : IntKind.u64.wrap (a : Int) = (a : Int) := by rw [IntKind.wrap_u64]; omega
theorem wrapM (a : Nat) : IntKind.u64.wrap (a : Int) = ((a % 18446744073709551616 : Nat) : Int) := by rw [IntKind.wrap_u64]; omega
set_option maxHeartbeats 1000000 in
theorem mul64_any (x y : Nat) (hx : x < 18446744073709551616) (hy : y < 18446744073709551616) (w : World) :
    Calls Try.prog 112 #[.int .u64 x, .int .u64 y] w fun e w' => e = .returned (.tuple #[.int .u64 ((x * y / 18446744073709551616 : Nat) : Int), .int .u64 ((x * y % 18446744073709551616 : Nat) : Int)]) ∧ w' = w := by
  obtain ⟨bd, bt, bw, hhi⟩ := Lib.mul64_hi x y hx hy
  have ba := Lib.half_mul_le (a := x / 4294967296) (b := y / 4294967296) (by omega) (by omega)
  have bb := Lib.half_mul_le (a := x / 4294967296) (b := y % 4294967296) (by omega) (by omega)
  have bc := Lib.half_mul_le (a := x % 4294967296) (b := y / 4294967296) (by omega) (by omega)
  have ba' : x / 4294967296 * (y / 4294967296) < 18446744073709551616 := by omega
  have bb' : x / 4294967296 * (y % 4294967296) < 18446744073709551616 := by omega
  have bc' : x % 4294967296 * (y / 4294967296) < 18446744073709551616 := by omega
  have bh1 : x / 4294967296 * (y / 4294967296) + (x / 4294967296 * (y % 4294967296) + x % 4294967296 * (y % 4294967296) / 4294967296) / 4294967296 < 18446744073709551616 := by omega
  have bh : x / 4294967296 * (y / 4294967296) + (x / 4294967296 * (y % 4294967296) + x % 4294967296 * (y % 4294967296) / 4294967296) / 4294967296 + ((x / 4294967296 * (y % 4294967296) + x % 4294967296 * (y % 4294967296) / 4294967296) % 4294967296 + x % 4294967296 * (y / 4294967296)) / 4294967296 < 18446744073709551616 := by omega
  go_enter Try.func112, Try.ntmps112
  go_wp2
  simp only [maskN x hx, maskN y hy, divN, mulN, addN, wrapN _ bd, wrapN _ bb', wrapN _ bt, maskN _ bt, wrapN _ bc', wrapN _ bw, wrapN _ ba', wrapN _ bh1, wrapN _ bh, wrapM (x * y)]
  rw [hhi]
  go_ret2
  exact ⟨rfl, rfl⟩
set_option maxHeartbeats 2000000 in
theorem mul_any (N : Nat) (hN : N ≤ 16384) (w : World) : Calls Try.prog 107 #[.int .u64 1, .int .u64 (N : Int)] w fun e w' => e = .returned (.tuple #[.int .u64 0, .int .u64 (N : Int)]) ∧ w' = w := by
  have C := mul64_any 1 N (by omega) (by omega) w
  have e1 : 1 * N / 18446744073709551616 = 0 := by omega
  have e2 : 1 * N % 18446744073709551616 = N := by omega
  rw [e1, e2] at C
  go_enter Try.func107, Try.ntmps107
  go_wp2_with fail
  refine C.mono ?_
  rintro e w1 ⟨rfl, rfl⟩
  clear C e1 e2
  go_wp2
  go_ret2
  exact ⟨rfl, rfl⟩
theorem const_lies {w : World} {B N t m : Nat} {T0 : Value × Value × Value} (h1 : T0.1.oneCell' = true ∧ T0.2.1.oneCell' = true ∧ T0.2.2.oneCell' = true) (hr : w.rowIs B 36 (N * 3) (gF (fun _ => T0) t)) (hB : B < w.heap.size) (hm : m ≤ t) (ht : t ≤ N) : Lies w (some ⟨B, 0, none⟩) (rowT (fun _ => T0) m) := by
  refine ⟨?_, rowT_one _ _ fun i _ => h1⟩
  refine Or.inr ⟨_, rfl, hB, fun j u hj => ?_⟩
  have hjl : j < m * 3 := by
    rcases Nat.lt_or_ge j (m * 3) with h | h
    · exact h
    · rw [List.getElem?_eq_none (by rw [rowT_len]; exact h)] at hj; cases hj
  rw [add_off, Nat.zero_add]
  have hc := hr.cell (i := j) (by omega)
  rw [hc]
  obtain ⟨t0, t1, t2⟩ := rowT_at (fun _ => T0) m (j / 3) (by omega)
  obtain ⟨s0, s1, s2⟩ := gF_at (fun _ => T0) t (j / 3) (by omega)
  have hmm : j = j / 3 * 3 ∨ j = j / 3 * 3 + 1 ∨ j = j / 3 * 3 + 2 := by omega
  rcases hmm with e | e | e
  · rw [← e] at t0 s0; rw [t0] at hj; rw [s0]; exact hj
  · rw [← e] at t1 s1; rw [t1] at hj; rw [s1]; exact hj
  · rw [← e] at t2 s2; rw [t2] at hj; rw [s2]; exact hj
set_option maxHeartbeats 4000000 in
theorem repeat_any (a : Option Addr) (c N : Nat) (kk NN : Int) (ab : Option Addr) (nb cb : Nat) (w : World) (hl : Lies w a [.int .i64 kk, .int .i64 NN, .slice ab nb cb]) (hN : N ≤ 16384) :
    Calls Try.prog 97 #[.slice a 1 c, .int .i64 (N : Int)] w fun e w' => (∃ g, e = .returned (.slice (some ⟨g, 0, none⟩) N N) ∧ w.heap.size ≤ g ∧ g < w'.heap.size ∧ w'.rowIs g 36 (N * 3) (gF (fun _ => (.int .i64 kk, .int .i64 NN, .slice ab nb cb)) N)) ∧ Below w.heap.size w w' := by
  have C := mul_any N hN w
  obtain ⟨T0, hT0⟩ : ∃ T0 : Value × Value × Value, T0 = (.int .i64 kk, .int .i64 NN, .slice ab nb cb) := ⟨_, rfl⟩
  have H1 : Hid (T0.1.oneCell' = true ∧ T0.2.1.oneCell' = true ∧ T0.2.2.oneCell' = true) := by rw [hT0]; exact ⟨rfl, rfl, rfl⟩
  have hrow1 : [Value.int .i64 kk, .int .i64 NN, .slice ab nb cb] = rowT (fun _ => T0) 1 := by rw [hT0]; rfl
  rw [hrow1] at hl
  rw [← hT0]
  have mk := make_cells N (by omega) w
  obtain ⟨W4, e4⟩ : ∃ W4, w.alloc (.cells (madeCells #[.int .i64 0, .int .i64 0, .slice none 0 0] (N * 3)) 36) = W4 := ⟨_, rfl⟩
  rw [e4] at mk
  have B4 : Below w.heap.size w W4 := by rw [← e4]; exact one_alloc _ _
  have z4 : W4.heap.size = w.heap.size + 1 := by rw [← e4]; simp
  have RM : Hid (W4.rowIs w.heap.size 36 (N * 3) (gF (fun _ => T0) 0)) := by
    rw [← e4]
    exact (rowIs_made3 w (N * 3)).congr fun i hi => by rw [gF_zero]
  obtain ⟨m0, hm0⟩ : ∃ m0, Nat.min 1 N = m0 := ⟨_, rfl⟩
  have HM0 : Hid (m0 = Nat.min 1 N ∧ m0 ≤ N ∧ (0 < N → 0 < m0) ∧ m0 ≤ 1) := by
    refine ⟨hm0.symm, ?_, fun h => ?_, ?_⟩ <;> rw [← hm0]
    · exact Nat.min_le_right _ _
    · exact Nat.lt_min.2 ⟨by decide, h⟩
    · exact Nat.min_le_left _ _
  have HLI : Hid (Lies W4 a (rowT (fun _ => T0) m0)) := by
    have h1 := hl.next B4
    have hle := HM0.out.2.2.2
    have hc : m0 = 0 ∨ m0 = 1 := by omega
    rcases hc with h0 | h0
    · rw [h0]; exact ⟨Or.inl rfl, fun u hu => by simp [rowT] at hu⟩
    · rw [h0]; exact h1
  have HLN : Hid ((rowT (fun _ => T0) m0).length = m0 * 3 ∧ 0 + (rowT (fun _ => T0) m0).length ≤ N * 3) := by
    have := HM0.out.2.1
    exact ⟨rowT_len _ _, by rw [rowT_len]; omega⟩
  obtain ⟨R0, hR0⟩ : ∃ R0, rowT (fun _ => T0) m0 = R0 := ⟨_, rfl⟩
  have HR0 := hide hR0
  rw [hR0] at HLI HLN
  have HB4 := hide (And.intro B4 z4)
  have hu1 : IntKind.u64.wrap (N : Int) = (N : Int) := wrapN N (by omega)
  have hi1 : IntKind.i64.wrap (N : Int) = (N : Int) := IntWalk.i64_in _ ⟨by omega, by omega⟩
  have hb1 : ¬ (9223372036854775807 : Int) < (N : Int) := by omega
  have hb2 : ¬ (N : Int) < 0 := by omega
  clear hl B4 z4 hrow1 hT0 hR0 hm0
  go_enter Try.func97, Try.ntmps97
  go_wp2_with fail
  refine C.mono ?_
  clear C
  rintro e w1 ⟨rfl, rfl⟩
  go_wp2_with (refine wpList_copy_rowIs rfl _ _ 23 23 rfl 36 3 Try.underlying23 size36 (some ⟨w1.heap.size, 0, none⟩) a N N 1 c m0 rfl rfl w1.heap.size 0 (N * 3) 36 (gF (fun _ => T0) 0) RM.out R0 HM0.out.1 HLN.out.1 (fun _ => rfl) HLI.out (by decide) HLN.out.2 ?_)
  intro w5 hrow5 hTw5
  have HST : Hid (Two W4 w1.heap.size w1.heap.size w5 ∧ w5.rowIs w1.heap.size 36 (N * 3) (gF (fun _ => T0) m0)) := by
    refine ⟨hTw5, hrow5.congr fun i hi => ?_⟩
    rw [← HR0.out]
    have := spF_gF (fun _ => T0) 0 m0 N i hi
    rw [Nat.zero_add] at this
    exact this
  clear hrow5 hTw5 HLI HLN HR0 RM mk hu1 hi1
  go_wp2
  clear e4
  go_loopg [8] (N + 1 - m0) (fun g i wr => ∃ t : Nat, g + t = N + 1 ∧ i = .int .i64 (t : Int) ∧ t ≤ N ∧ (0 < N → 0 < t) ∧ Two W4 w1.heap.size w1.heap.size wr ∧ wr.rowIs w1.heap.size 36 (N * 3) (gF (fun _ => T0) t))
  case atStart => exact ⟨m0, by have := HM0.out; omega, rfl, HM0.out.2.1, HM0.out.2.2.1, HST.out⟩
  case round =>
    clear HST
    obtain ⟨t, hg, rfl, htN, ht0, hTw, hrow⟩ := hrel
    by_cases hlt : t < N
    · have ht1 := ht0 (by omega)
      obtain ⟨m, hm⟩ : ∃ m, Nat.min t (N - t) = m := ⟨_, rfl⟩
      have hm1 : m ≤ t := by rw [← hm]; exact Nat.min_le_left _ _
      have hm2 : m ≤ N - t := by rw [← hm]; exact Nat.min_le_right _ _
      have hm3 : 0 < m := by rw [← hm]; exact Nat.lt_min.2 ⟨ht1, by omega⟩
      have hp1 : ∀ W, (Instr.sliceAt 23 (.slice (some ⟨w1.heap.size, 0, none⟩) N N) (some (.int .i64 (t : Int))) none none).run Try.prog W = .ok (.slice (some ⟨w1.heap.size, t * 3, none⟩) (N - t) (N - t)) W := fun W => by
        rw [part_l (P := Try.prog) Try.underlying23 size36 (some ⟨w1.heap.size, 0, none⟩) N N t (t : Int) rfl (by omega) W]
        unfold subA; rw [if_neg (by omega), Option.map_some, add_off, Nat.zero_add]
      have hp2 : ∀ W, (Instr.sliceAt 23 (.slice (some ⟨w1.heap.size, 0, none⟩) N N) none (some (.int .i64 (t : Int))) none).run Try.prog W = .ok (.slice (some ⟨w1.heap.size, 0, none⟩) t N) W := fun W => part_h (P := Try.prog) Try.underlying23 size36 (some ⟨w1.heap.size, 0, none⟩) N N t (t : Int) rfl (by omega) W
      have hBl : w1.heap.size < wr.heap.size := by rw [hTw.size]; have := HB4.out.2; omega
      have HLI : Hid (Lies wr.drew (some ⟨w1.heap.size, 0, none⟩) (rowT (fun _ => T0) m)) := (const_lies H1.out hrow hBl hm1 htN).drew
      have HROW : Hid (wr.drew.rowIs w1.heap.size 36 (N * 3) (gF (fun _ => T0) t)) := hrow
      have HMM : Hid (m = Nat.min t (N - t) ∧ (rowT (fun _ => T0) m).length = m * 3 ∧ t * 3 + (rowT (fun _ => T0) m).length ≤ N * 3) := ⟨hm.symm, rowT_len _ _, by rw [rowT_len]; omega⟩
      obtain ⟨RW, hRW⟩ : ∃ RW, rowT (fun _ => T0) m = RW := ⟨_, rfl⟩
      have HRW := hide hRW
      rw [hRW] at HLI HMM
      have HTW := hide hTw.drew
      have hw2 : IntKind.i64.wrap ((t : Int) + (m : Int)) = ((t + m : Nat) : Int) := by rw [show (t : Int) + (m : Int) = ((t + m : Nat) : Int) by omega]; exact IntWalk.i64_in _ ⟨by omega, by omega⟩
      clear hrow hTw hRW hm hBl ht0
      go_wp2
      go_region_law (refine step_copy_rowIs rfl (.tmp 41) (.tmp 44) 23 23 rfl 36 3 Try.underlying23 size36 (some ⟨w1.heap.size, t * 3, none⟩) (some ⟨w1.heap.size, 0, none⟩) (N - t) (N - t) t N m (by go_simp) (by go_simp) w1.heap.size (t * 3) (N * 3) 36 (gF (fun _ => T0) t) HROW.out RW HMM.out.1 HMM.out.2.1 (fun _ => rfl) HLI.out (by decide) HMM.out.2.2 ?_; intro w9 hrow9 hTw9)
      all_goals
        have HN9 : Hid (Two W4 w1.heap.size w1.heap.size w9 ∧ w9.rowIs w1.heap.size 36 (N * 3) (gF (fun _ => T0) (t + m))) := by
          refine ⟨⟨HTW.out.io.trans hTw9.io, hTw9.size.trans HTW.out.size, fun b h1 h2 => (hTw9.keep b h1 h2).trans (HTW.out.keep b h1 h2)⟩, ?_⟩
          refine hrow9.congr fun i hi => ?_
          rw [← HRW.out]
          exact spF_gF (fun _ => T0) t m N i hi
        clear hrow9 hTw9 HROW HLI HMM HTW hp1 hp2
        go_wp2
        go_roundg (N + 1 - (t + m))
        case rel => exact ⟨t + m, by omega, by first | rfl | simp, by omega, fun _ => by omega, HN9.out⟩
        case measure => omega
    · have hte : t = N := by omega
      subst hte
      have HF := hide (And.intro hTw hrow)
      clear hTw hrow
      go_wp2
      go_ret
      have hz := HB4.out.2
      exact ⟨⟨w1.heap.size, rfl, Nat.le_refl _, by rw [HF.out.1.size]; omega, HF.out.2⟩, HF.out.1.below HB4.out.1 (Nat.le_refl _) (Nat.le_refl _)⟩
set_option maxHeartbeats 4000000 in
theorem filling_any {n lo : Nat} {x : Ar} {va : Value} {w : World} (hx : ArIn (n + 1) lo w x va) : Calls Try.prog 96 #[va] w fun e w' => e = .returned (.tuple #[.agg #[.int .i64 (fillR x).1, .int .i64 (fillR x).2.1, .slice none 0 0], .int .i64 (fillR x).2.2]) ∧ Below w.heap.size w w' := by
  obtain ⟨a1, c1, a2, c2, rfl, R, hc⟩ := hx.form
  obtain ⟨W2, e2⟩ : ∃ W2, (w.alloc (.cells #[.slice a1 x.shape.length c1, .slice a2 x.cells.length c2] 25)).alloc (.cells #[.int .i64 0, .int .i64 0, .slice none 0 0] 36) = W2 := ⟨_, rfl⟩
  have b0 : Below w.heap.size w W2 := by rw [← e2]; exact two_allocs _ _ _
  have z2 : W2.heap.size = w.heap.size + 2 := by rw [← e2]; simp
  have q1 : W2.cell? ⟨w.heap.size, 1, none⟩ = some (.slice a2 x.cells.length c2) := by rw [← e2]; exact cell_new1 w _ 25 (0, 0) _ 1 _ rfl
  have g0 : W2.cell? ⟨w.heap.size + 1, 0, none⟩ = some (.int .i64 0) := by rw [← e2]; exact cell_new2 w _ 36 (0, 0) _ 0 _ rfl
  have g1 : W2.cell? ⟨w.heap.size + 1, 1, none⟩ = some (.int .i64 0) := by rw [← e2]; exact cell_new2 w _ 36 (0, 0) _ 1 _ rfl
  have g2 : W2.cell? ⟨w.heap.size + 1, 2, none⟩ = some (.slice none 0 0) := by rw [← e2]; exact cell_new2 w _ 36 (0, 0) _ 2 _ rfl
  have h0 : W2.frozen? ⟨w.heap.size + 1, 0, none⟩ = false := by rw [← e2]; exact frozen_new1 _ _ _ _ _
  have h1 : W2.frozen? ⟨w.heap.size + 1, 1, none⟩ = false := by rw [← e2]; exact frozen_new1 _ _ _ _ _
  have h2 : W2.frozen? ⟨w.heap.size + 1, 2, none⟩ = false := by rw [← e2]; exact frozen_new1 _ _ _ _ _
  have HST : Hid (∀ u0 u1 u2, (((W2.setCell ⟨w.heap.size + 1, 0, none⟩ u0).setCell ⟨w.heap.size + 1, 1, none⟩ u1).setCell ⟨w.heap.size + 1, 2, none⟩ u2).cell? ⟨w.heap.size + 1, 0, none⟩ = some u0 ∧ (((W2.setCell ⟨w.heap.size + 1, 0, none⟩ u0).setCell ⟨w.heap.size + 1, 1, none⟩ u1).setCell ⟨w.heap.size + 1, 2, none⟩ u2).cell? ⟨w.heap.size + 1, 1, none⟩ = some u1 ∧ (((W2.setCell ⟨w.heap.size + 1, 0, none⟩ u0).setCell ⟨w.heap.size + 1, 1, none⟩ u1).setCell ⟨w.heap.size + 1, 2, none⟩ u2).cell? ⟨w.heap.size + 1, 2, none⟩ = some u2 ∧ Below w.heap.size w (((W2.setCell ⟨w.heap.size + 1, 0, none⟩ u0).setCell ⟨w.heap.size + 1, 1, none⟩ u1).setCell ⟨w.heap.size + 1, 2, none⟩ u2)) := by
    intro u0 u1 u2
    refine ⟨?_, ?_, ?_, ((b0.setCell (p := ⟨w.heap.size + 1, 0, none⟩) (by show _ ≤ w.heap.size + 1; omega) _).setCell (p := ⟨w.heap.size + 1, 1, none⟩) (by show _ ≤ w.heap.size + 1; omega) _).setCell (p := ⟨w.heap.size + 1, 2, none⟩) (by show _ ≤ w.heap.size + 1; omega) _⟩
    · rw [World.cell?_setCell_other _ _ _ _ (by simp), World.cell?_setCell_other _ _ _ _ (by simp)]; exact World.cell?_setCell_same' _ _ _ (by rw [g0]; rfl)
    · rw [World.cell?_setCell_other _ _ _ _ (by simp)]; exact World.cell?_setCell_same' _ _ _ (by rw [World.cell?_setCell_other _ _ _ _ (by simp), g1]; rfl)
    · exact World.cell?_setCell_same' _ _ _ (by rw [World.cell?_setCell_other _ _ _ _ (by simp), World.cell?_setCell_other _ _ _ _ (by simp), g2]; rfl)
  have HB := hide b0
  by_cases hC : 0 < x.cells.length
  · obtain ⟨ab, cb, hcf⟩ := cells_fn hc
    obtain ⟨b, off, rfl, -, hb, hcells⟩ := hcf hC
    obtain ⟨k0, k1, k2, -⟩ := hcells 0 hC
    simp only [Nat.zero_mul, Nat.add_zero] at k0 k1 k2
    have r0 := (b0.cell (p := ⟨b, off, none⟩) hb).trans k0
    have HE : Hid (fillR x = if (cAt x.cells 0).1 = 1 then (1, 32, 0) else if (cAt x.cells 0).1 = 2 then (0, 0, 5) else (0, 0, 0)) := by unfold Hid fillR; rw [if_pos hC]
    have hC1 : (0 : Int) < (x.cells.length : Int) := by omega
    clear hcells hcf hc R hx k0 k1 k2 b0
    generalize (cAt x.cells 0).1 = ck at *
    generalize x.shape.length = SA at *
    generalize x.cells.length = CA at *
    by_cases hk1 : ck = 1
    · have HE5 : Hid (fillR x = (1, 32, 0)) := by unfold Hid; rw [HE.out, if_pos hk1]
      subst hk1
      clear HE
      go_enter Try.func96, Try.ntmps96
      go_wp2
      exact bodyPost_ret (v := .tuple #[.agg #[.int .i64 1, .int .i64 32, .slice none 0 0], .int .i64 0]) (by obtain ⟨x0, x1, x2, -⟩ := HST.out (.int .i64 1) (.int .i64 32) (.slice none 0 0); simp [results, Try.results96, go_sem, x0, x1, x2]) rfl ⟨by rw [HE5.out], (HST.out _ _ _).2.2.2⟩
    have hb1 : (ck == 1) = false := beq_eq_false_iff_ne.2 hk1
    by_cases hk2 : ck = 2
    · have HE5 : Hid (fillR x = (0, 0, 5)) := by unfold Hid; rw [HE.out, if_neg hk1, if_pos hk2]
      subst hk2
      clear HE
      go_enter Try.func96, Try.ntmps96
      go_wp2
      exact bodyPost_ret (v := .tuple #[.agg #[.int .i64 0, .int .i64 0, .slice none 0 0], .int .i64 5]) (by obtain ⟨x0, x1, x2, -⟩ := HST.out (.int .i64 0) (.int .i64 0) (.slice none 0 0); simp [results, Try.results96, go_sem, x0, x1, x2]) rfl ⟨by rw [HE5.out], (HST.out _ _ _).2.2.2⟩
    have hb2 : (ck == 2) = false := beq_eq_false_iff_ne.2 hk2
    have HE5 : Hid (fillR x = (0, 0, 0)) := by unfold Hid; rw [HE.out, if_neg hk1, if_neg hk2]
    clear HE
    go_enter Try.func96, Try.ntmps96
    go_wp2
    exact bodyPost_ret (v := .tuple #[.agg #[.int .i64 0, .int .i64 0, .slice none 0 0], .int .i64 0]) (by obtain ⟨x0, x1, x2, -⟩ := HST.out (.int .i64 0) (.int .i64 0) (.slice none 0 0); simp [results, Try.results96, go_sem, x0, x1, x2]) rfl ⟨by rw [HE5.out], (HST.out _ _ _).2.2.2⟩
  · have HE5 : Hid (fillR x = (0, 0, 0)) := by unfold Hid fillR; rw [if_neg hC]
    have hC1 : ¬ (0 : Int) < (x.cells.length : Int) := by omega
    clear hc R hx b0
    generalize x.shape.length = SA at *
    generalize x.cells.length = CA at *
    go_enter Try.func96, Try.ntmps96
    go_wp2
    exact bodyPost_ret (v := .tuple #[.agg #[.int .i64 0, .int .i64 0, .slice none 0 0], .int .i64 0]) (by obtain ⟨x0, x1, x2, -⟩ := HST.out (.int .i64 0) (.int .i64 0) (.slice none 0 0); simp [results, Try.results96, go_sem, x0, x1, x2]) rfl ⟨by rw [HE5.out], (HST.out _ _ _).2.2.2⟩
end Go.Proofs.Ytmjncdhahdpplaa
namespace Go.Proofs.Ytmjncdhahdpplaa
open Go.ChangeShapes Go.WideShapes Go.ChangeAt Go.RowKit
set_option linter.unusedVariables false
set_option maxRecDepth 100000
/-- Cells of an array, m of them from place d on, laid over a row of one cell from place s on. -/
def layC (cs : List Ce) (f0 f1 : Int) (s d m p : Nat) : Ce := if s ≤ p ∧ p < s + m then cAt cs (d + (p - s)) else (f0, f1, [])
def layT (cs : List Ce) (ab : Nat → Option Addr) (cb : Nat → Nat) (f0 f1 : Int) (s d m p : Nat) : Value × Value × Value := if s ≤ p ∧ p < s + m then cellT cs ab cb (d + (p - s)) else (.int .i64 f0, .int .i64 f1, .slice none 0 0)
theorem lay_row (cs : List Ce) (ab : Nat → Option Addr) (cb : Nat → Nat) (f0 f1 : Int) (s d m N p : Nat) (hp : p < N) (hm : s + m ≤ N) : ∀ j, j < 3 → spF (gF (fun _ => ((.int .i64 f0, .int .i64 f1, .slice none 0 0) : Value × Value × Value)) N) (s * 3) (rowT (fun q => cellT cs ab cb (d + q)) m) (p * 3 + j) = (if j = 0 then (layT cs ab cb f0 f1 s d m p).1 else if j = 1 then (layT cs ab cb f0 f1 s d m p).2.1 else (layT cs ab cb f0 f1 s d m p).2.2) := by
  intro j hj
  unfold spF layT
  rw [rowT_len]
  by_cases h : s ≤ p ∧ p < s + m
  · rw [if_pos (by omega), if_pos h]
    obtain ⟨t0, t1, t2⟩ := rowT_at (fun q => cellT cs ab cb (d + q)) m (p - s) (by omega)
    have hj3 : j = 0 ∨ j = 1 ∨ j = 2 := by omega
    rcases hj3 with rfl | rfl | rfl
    · rw [show p * 3 + 0 - s * 3 = (p - s) * 3 by omega, t0]; rfl
    · rw [show p * 3 + 1 - s * 3 = (p - s) * 3 + 1 by omega, t1]; rfl
    · rw [show p * 3 + 2 - s * 3 = (p - s) * 3 + 2 by omega, t2]; rfl
  · rw [if_neg (by omega), if_neg h]
    obtain ⟨s0, s1, s2⟩ := gF_at (fun _ => ((.int .i64 f0, .int .i64 f1, .slice none 0 0) : Value × Value × Value)) N p hp
    have hj3 : j = 0 ∨ j = 1 ∨ j = 2 := by omega
    rcases hj3 with rfl | rfl | rfl
    · rw [Nat.add_zero, s0]; rfl
    · rw [s1]; rfl
    · rw [s2]; rfl
theorem lay_cells {n lo : Nat} {w0 w W : World} {cs : List Ce} {ab : Nat → Option Addr} {cb : Nat → Nat} (hce : ∀ i, i < cs.length → CeIn (ArIn n lo w0) lo w0 (cAt cs i) (cellT cs ab cb i).1 (cellT cs ab cb i).2.1 (cellT cs ab cb i).2.2) (hW : Below w0.heap.size w0 W) {g N s d m : Nat} {f0 f1 : Int} (hg : g < W.heap.size)
    (hr : W.rowIs g 36 (N * 3) (spF (gF (fun _ => ((.int .i64 f0, .int .i64 f1, .slice none 0 0) : Value × Value × Value)) N) (s * 3) (rowT (fun q => cellT cs ab cb (d + q)) m))) (hm : s + m ≤ N) (hd : d + m ≤ cs.length) : CellsIn n 0 W (mkCs N (layC cs f0 f1 s d m)) (some ⟨g, 0, none⟩) := by
  by_cases hN : N = 0
  · left; subst hN; rfl
  refine Or.inr ⟨g, 0, rfl, Nat.zero_le _, hg, fun i hi => ?_⟩
  rw [mkCs_len] at hi
  have c0 := hr.cell (i := i * 3 + 0) (by omega)
  have c1 := hr.cell (i := i * 3 + 1) (by omega)
  have c2 := hr.cell (i := i * 3 + 2) (by omega)
  rw [lay_row cs ab cb f0 f1 s d m N i hi hm 0 (by omega)] at c0
  rw [lay_row cs ab cb f0 f1 s d m N i hi hm 1 (by omega)] at c1
  rw [lay_row cs ab cb f0 f1 s d m N i hi hm 2 (by omega)] at c2
  rw [Nat.zero_add, mkCs_at _ _ _ hi]
  refine ⟨_, _, _, c0, c1, c2, ?_⟩
  simp only [if_true, if_false, show ¬ (1 : Nat) = 0 by omega, show ¬ (2 : Nat) = 0 by omega, show ¬ (2 : Nat) = 1 by omega]
  unfold layC layT
  by_cases h : s ≤ i ∧ i < s + m
  · simp only [if_pos h]
    exact (hce (d + (i - s)) (by omega)).mono (Nat.zero_le _) hW fun x v h => h.mono (Nat.zero_le _) hW
  · simp only [if_neg h]
    exact ⟨rfl, rfl, none, 0, rfl, by simp, Or.inl rfl⟩
theorem subA_zero (a : Option Addr) (c sz : Nat) : subA a 0 c sz = a := by
  unfold subA
  split
  · rfl
  · cases a with
    | none => rfl
    | some p => cases p with | mk b o f => simp [Addr.add]
theorem spF_all {f g : Nat → Value} {cs : List Value} {i : Nat} (h : i < cs.length) : spF f 0 cs i = spF g 0 cs i := by
  unfold spF
  rw [if_pos ⟨Nat.zero_le _, by omega⟩, if_pos ⟨Nat.zero_le _, by omega⟩]
def takR (x y : Ar) : Ar × Int :=
  if ¬ (numR x).2 = 0 then (zeroA, (numR x).2) else if 16384 < (numR x).1 ∨ (numR x).1 < -16384 then (zeroA, 12) else
  if ¬ sizeE (y.shape.set 0 ((numR x).1.natAbs : Int)) = 0 then (zeroA, sizeE (y.shape.set 0 ((numR x).1.natAbs : Int))) else
  if y.cells.length < (sizeV (y.shape.set 0 ((numR x).1.natAbs : Int))).toNat ∧ ¬ (fillR y).2.2 = 0 then (zeroA, (fillR y).2.2) else
  (.mk (y.shape.set 0 ((numR x).1.natAbs : Int)) (mkCs (sizeV (y.shape.set 0 ((numR x).1.natAbs : Int))).toNat (layC y.cells (fillR y).1 (fillR y).2.1 (if (numR x).1 < 0 then (sizeV (y.shape.set 0 ((numR x).1.natAbs : Int))).toNat - y.cells.length else 0) (if (numR x).1 < 0 then y.cells.length - (sizeV (y.shape.set 0 ((numR x).1.natAbs : Int))).toNat else 0) (Nat.min y.cells.length (sizeV (y.shape.set 0 ((numR x).1.natAbs : Int))).toNat))), 0)
set_option maxHeartbeats 8000000 in
theorem taken_row {n m lo lo' lo2 : Nat} {x y : Ar} {va : Value} {b1 b2 : Option Addr} {d1 d2 : Nat} {w0 w : World} (hx : ArIn (m + 1) lo w0 x va) (R' : Row lo2 w b1 y.shape) (hc' : CellsIn n lo' w0 y.cells b2) (hb0 : Below w0.heap.size w0 w) (hcx : chkA 8 x = 0) (hcy : chkA 8 y = 0) (hcap : Caps (.agg #[.slice b1 y.shape.length d1, .slice b2 y.cells.length d2])) (hS : 0 < y.shape.length) :
    Calls Try.prog 75 #[va, .agg #[.slice b1 y.shape.length d1, .slice b2 y.cells.length d2]] w fun e w' => Gives2K (n + 1) w0 (takR x y).1 (takR x y).2 w e w' := by
  obtain ⟨a1, c1, a2, c2, rfl, R, hc⟩ := hx.form
  have hy : ∀ W, Below w.heap.size w W → ArIn (n + 1) 0 W y (.agg #[.slice b1 y.shape.length d1, .slice b2 y.cells.length d2]) := fun W h => arIn_mk ((R'.next h).low (Nat.zero_le _)) (by have := (chk_len hcy).2; omega) (hc'.mono (Nat.zero_le _) (hb0.trans (h.mono hb0.size))) rfl rfl
  have I := in3_new w (.slice a1 x.shape.length c1) (.slice a2 x.cells.length c2) (.slice b1 y.shape.length d1) (.slice b2 y.cells.length d2)
  obtain ⟨W3, e3⟩ : ∃ W3, ((w.alloc (.cells #[.slice a1 x.shape.length c1, .slice a2 x.cells.length c2] 25)).alloc (.cells #[.slice b1 y.shape.length d1, .slice b2 y.cells.length d2] 25)).alloc (.cells #[.slice none 0 0, .slice none 0 0] 25) = W3 := ⟨_, rfl⟩
  rw [e3] at I
  have q0 := I.q0
  have q1 := I.q1
  have CN := number_any (hx.next (hb0.trans (I.bel.mono hb0.size))) hcx
  have HI := hide I
  have HB0 := hide hb0
  have HY := hide (And.intro hy (And.intro hcy hcap))
  have HRY := hide (And.intro R' hc')
  obtain ⟨l8, cy16⟩ := chk_len hcy
  unfold takR
  obtain ⟨⟨Nn, NE⟩, hNR⟩ : ∃ p, numR x = p := ⟨_, rfl⟩
  rw [hNR] at CN ⊢
  simp only at CN ⊢
  obtain ⟨sh, hsh⟩ : ∃ sh, y.shape.set 0 (Nn.natAbs : Int) = sh := ⟨_, rfl⟩
  have HSH := hide hsh
  rw [hsh]
  obtain ⟨⟨F0, F1, FE⟩, hF⟩ : ∃ p, fillR y = p := ⟨_, rfl⟩
  have HF := hide hF
  rw [hF]
  simp only
  obtain ⟨SX, hSX⟩ : ∃ SX, x.shape.length = SX := ⟨_, rfl⟩
  obtain ⟨CX, hCX⟩ : ∃ CX, x.cells.length = CX := ⟨_, rfl⟩
  obtain ⟨SY, hSY⟩ : ∃ SY, y.shape.length = SY := ⟨_, rfl⟩
  obtain ⟨CY, hCY⟩ : ∃ CY, y.cells.length = CY := ⟨_, rfl⟩
  have HSC := hide (And.intro hSY hCY)
  simp only [hSX, hCX, hSY, hCY] at CN e3 q0 q1 HI HY l8 cy16 hS ⊢
  obtain ⟨RES, hRES⟩ : ∃ RES, RES = (if ¬ NE = 0 then (zeroA, NE) else if 16384 < Nn ∨ Nn < -16384 then (zeroA, 12) else if ¬ sizeE sh = 0 then (zeroA, sizeE sh) else if CY < (sizeV sh).toNat ∧ ¬ FE = 0 then (zeroA, FE) else (.mk sh (mkCs (sizeV sh).toNat (layC y.cells F0 F1 (if Nn < 0 then (sizeV sh).toNat - CY else 0) (if Nn < 0 then CY - (sizeV sh).toNat else 0) (Nat.min CY (sizeV sh).toNat))), (0 : Int))) := ⟨_, rfl⟩
  have HRES := hide hRES
  rw [← hRES]
  clear R hc I hx hy R' hc' hSX hCX hSY hCY hb0 hcx hcy hcap hNR hsh hF hRES
  go_enter Try.func75, Try.ntmps75
  go_wp2_with fail
  clear e3 q0 q1
  refine CN.mono ?_
  clear CN
  rintro e w1 ⟨rfl, hb1⟩
  have I1 := HI.out.next hb1
  have r0 := I1.r0
  have r1 := I1.r1
  have p0 := I1.p0
  have p1 := I1.p1
  have f0 := I1.f0
  have f1 := I1.f1
  have HI1 := hide I1
  have HT0 := hide (I1.put (.slice none 0 0) (.slice none 0 0))
  by_cases hNE : NE = 0
  case neg =>
    have HE5 : Hid (RES = (zeroA, NE)) := by unfold Hid; rw [HRES.out, if_pos hNE]
    have hne : (NE == 0) = false := beq_eq_false_iff_ne.2 hNE
    clear I1 HY HRY hb1 HI r0 r1 HRES
    go_wp2
    exact bodyPost_ret (v := .tuple #[.agg #[.slice none 0 0, .slice none 0 0], .int .i64 NE]) (by simp [results, Try.results75, go_sem, HT0.out.1, HT0.out.2]) rfl (gives2k_of HE5.out caps_nil (fun _ _ _ => zeroA_in _ _ _) (HI1.out.fin _ _))
  subst hNE
  by_cases hbig : 16384 < Nn
  · have HE5 : Hid (RES = (zeroA, 12)) := by unfold Hid; rw [HRES.out, if_neg (by simp), if_pos (Or.inl hbig)]
    clear I1 HY HRY hb1 HI r0 r1 HRES
    go_wp2
    exact bodyPost_ret (v := .tuple #[.agg #[.slice none 0 0, .slice none 0 0], .int .i64 12]) (by simp [results, Try.results75, go_sem, HT0.out.1, HT0.out.2]) rfl (gives2k_of HE5.out caps_nil (fun _ _ _ => zeroA_in _ _ _) (HI1.out.fin _ _))
  by_cases hsml : Nn < -16384
  · have HE5 : Hid (RES = (zeroA, 12)) := by unfold Hid; rw [HRES.out, if_neg (by simp), if_pos (Or.inr hsml)]
    clear I1 HY HRY hb1 HI r0 r1 HRES
    go_wp2
    exact bodyPost_ret (v := .tuple #[.agg #[.slice none 0 0, .slice none 0 0], .int .i64 12]) (by simp [results, Try.results75, go_sem, HT0.out.1, HT0.out.2]) rfl (gives2k_of HE5.out caps_nil (fun _ _ _ => zeroA_in _ _ _) (HI1.out.fin _ _))
  have HRES2 : Hid (RES = if ¬ sizeE sh = 0 then (zeroA, sizeE sh) else if CY < (sizeV sh).toNat ∧ ¬ FE = 0 then (zeroA, FE) else (.mk sh (mkCs (sizeV sh).toNat (layC y.cells F0 F1 (if Nn < 0 then (sizeV sh).toNat - CY else 0) (if Nn < 0 then CY - (sizeV sh).toNat else 0) (Nat.min CY (sizeV sh).toNat))), (0 : Int))) := by unfold Hid; rw [HRES.out, if_neg (by simp), if_neg (by omega)]
  obtain ⟨L, hL⟩ : ∃ L, Nn.natAbs = L := ⟨_, rfl⟩
  have hL16 : L ≤ 16384 := by omega
  rw [hL] at HSH
  by_cases hneg : Nn < 0
  · obtain rfl : Nn = -(L : Int) := by omega
    have hL0 : 0 < L := by omega
    rw [if_pos hneg, if_pos hneg] at HRES2
    clear hL hbig hsml hneg
    have C1 := reshaped_any y.shape b1 d1 0 (L : Int) w1 (HRY.out.1.next I1.bel) (by rw [HSC.out.1]; exact l8) (by rw [HSC.out.1]; exact hS)
    rw [HSH.out, HSC.out.1] at C1
    obtain ⟨SE, hSE⟩ : ∃ z, sizeE sh = z := ⟨_, rfl⟩
    obtain ⟨SV, hSV⟩ : ∃ z, sizeV sh = z := ⟨_, rfl⟩
    have HSS := hide (And.intro hSE hSV)
    rw [hSE, hSV] at C1 HRES2
    clear I1 hb1 HI HRES hSE hSV
    go_wp2_with fail
    clear r0 r1 p0 p1 f0 f1
    refine C1.mono ?_
    clear C1
    rintro e w2 ⟨⟨as', cs', rfl, ho⟩, hb2⟩
    have I2 := HI1.out.next hb2
    have HI2 := hide I2
    have r0 := I2.r0
    have r1 := I2.r1
    have p0 := I2.p0
    have p1 := I2.p1
    have f0 := I2.f0
    have f1 := I2.f1
    have HT2 := hide (I2.put (.slice none 0 0) (.slice none 0 0))
    have HO := hide (And.intro ho hb2)
    by_cases hSE0 : SE = 0
    case neg =>
      have HE5 : Hid (RES = (zeroA, SE)) := by unfold Hid; rw [HRES2.out, if_pos hSE0]
      have hne : (SE == 0) = false := beq_eq_false_iff_ne.2 hSE0
      clear I2 HY HRY hb2 r0 r1 HRES2 ho HO
      go_wp2
      exact bodyPost_ret (v := .tuple #[.agg #[.slice none 0 0, .slice none 0 0], .int .i64 SE]) (by simp [results, Try.results75, go_sem, HT2.out.1, HT2.out.2]) rfl (gives2k_of HE5.out caps_nil (fun _ _ _ => zeroA_in _ _ _) (HI2.out.fin _ _))
    subst hSE0
    obtain ⟨N, hN⟩ : ∃ N : Nat, SV = (N : Int) := ⟨SV.toNat, by have := (sizeV_le HSS.out.1).1; rw [HSS.out.2] at this; omega⟩
    have hN16 : N ≤ 16384 := by have := (sizeV_le HSS.out.1).2; rw [HSS.out.2] at this; omega
    subst hN
    rw [Int.toNat_natCast] at HRES2
    have mk := make_cells N (by omega) w2
    obtain ⟨W4, e4⟩ : ∃ W4, w2.alloc (.cells (madeCells #[.int .i64 0, .int .i64 0, .slice none 0 0] (N * 3)) 36) = W4 := ⟨_, rfl⟩
    rw [e4] at mk
    have B4 : Below w2.heap.size w2 W4 := by rw [← e4]; exact one_alloc _ _
    have z4 : W4.heap.size = w2.heap.size + 1 := by rw [← e4]; simp
    have I4 := I2.next B4
    have r04 := I4.r0
    have r14 := I4.r1
    have HI4 := hide I4
    by_cases hmore : CY < N
    · obtain ⟨sx, hsx⟩ : ∃ sx : Nat, N - CY = sx := ⟨_, rfl⟩
      have hsx1 : (N : Int) - (CY : Int) = (sx : Int) := by omega
      have hsx0 : 0 < sx := by omega
      have HSX := hide hsx
      clear hsx
      have CF := filling_any (HY.out.1 _ I4.bel)
      rw [HF.out] at CF
      simp only at CF
      have HB24 := hide B4
      clear I2 hb2 ho I4 B4 p0 p1 f0 f1 r0 r1 HT2
      go_wp2_with fail
      clear mk e4 r04 r14
      refine CF.mono ?_
      clear CF
      rintro e w5 ⟨rfl, hb5⟩
      have I5 := HI4.out.next hb5
      have I6 := I5.next (one_alloc w5 (.cells #[.int .i64 F0, .int .i64 F1, .slice none 0 0] 36))
      have HI6 := hide I6
      by_cases hFE : FE = 0
      case neg =>
        have HE5 : Hid (RES = (zeroA, FE)) := by unfold Hid; rw [HRES2.out, if_neg (by simp), if_pos ⟨hmore, hFE⟩]
        have hne : (FE == 0) = false := beq_eq_false_iff_ne.2 hFE
        have p0 := I6.p0
        have p1 := I6.p1
        have f0 := I6.f0
        have f1 := I6.f1
        have HT6 := hide (I6.put (.slice none 0 0) (.slice none 0 0))
        clear I5 I6 hb5 HY HRY HRES2
        go_wp2
        exact bodyPost_ret (v := .tuple #[.agg #[.slice none 0 0, .slice none 0 0], .int .i64 FE]) (by simp [results, Try.results75, go_sem, HT6.out.1, HT6.out.2]) rfl (gives2k_of HE5.out caps_nil (fun _ _ _ => zeroA_in _ _ _) (HI6.out.fin _ _))
      subst hFE
      have HE5 : Hid (RES = (.mk sh (mkCs N (layC y.cells F0 F1 (N - CY) (CY - N) (Nat.min CY N))), 0)) := by unfold Hid; rw [HRES2.out, if_neg (by simp), if_neg (by simp)]
      have zA : (w5.alloc (.cells #[.int .i64 F0, .int .i64 F1, .slice none 0 0] 36)).heap.size = w5.heap.size + 1 := by simp
      have CR := repeat_any (some ⟨w5.heap.size + 1, 0, none⟩) 1 N F0 F1 none 0 0 ((w5.alloc (.cells #[.int .i64 F0, .int .i64 F1, .slice none 0 0] 36)).alloc (.cells #[.int .i64 F0, .int .i64 F1, .slice none 0 0] 36)) (by
        refine ⟨Or.inr ⟨_, rfl, by show w5.heap.size + 1 < _; simp, fun j u hj => ?_⟩, fun u hu => ?_⟩
        · rw [add_off, Nat.zero_add, ← zA]
          exact cell_new0 _ _ 36 j u (by simpa using hj)
        · simp at hu; rcases hu with rfl | rfl | rfl <;> rfl) hN16
      have BA := two_allocs w5 (.cells #[.int .i64 F0, .int .i64 F1, .slice none 0 0] 36) (.cells #[.int .i64 F0, .int .i64 F1, .slice none 0 0] 36)
      have HI7 := hide (I5.next BA)
      have HBA := hide BA
      have HB45 := hide hb5
      clear I5 I6 hb5 zA BA
      go_wp2_with fail
      refine CR.mono ?_
      clear CR
      rintro e w8 ⟨⟨g, rfl, hg1, hg2, hrow⟩, hb8⟩
      have HB28 : Hid (Below w2.heap.size w2 w8) := (HB24.out.trans (HB45.out.mono HB24.out.size)).trans ((HBA.out.trans (hb8.mono HBA.out.size)).mono (Nat.le_trans HB24.out.size HB45.out.size))
      have HGB : Hid (w2.heap.size ≤ g) := by have h1 := HB24.out.size; have h2 := HB45.out.size; have h3 := HBA.out.size; unfold Hid; omega
      have HGL := hide hg2
      have I8 := HI7.out.next hb8
      have r18 := I8.r1
      have HI8 := hide I8
      have HG := hide (And.intro hg1 (And.intro hg2 hrow))
      clear I8 hg1 hg2 hrow hb8
      obtain ⟨ab, cb, hcf⟩ := cells_fn HRY.out.2
      have HCF := hide hcf
      rw [HSC.out.2] at HCF
      clear hcf
      have hmin : Nat.min CY N = CY := Nat.min_eq_left (by omega)
      have HLI : Hid (Lies w8.drew (subA b2 0 d2 3) (rowT (fun q => cellT y.cells ab cb ((CY - N) + q)) (Nat.min CY N))) := by
        rw [hmin, show CY - N = 0 by omega]
        by_cases h0 : CY = 0
        · rw [h0]; exact ⟨Or.inl rfl, fun u hu => by simp [rowT] at hu⟩
        · obtain ⟨b, off, rfl, -, hb, hcells⟩ := HCF.out (by omega)
          have hNB := HB0.out.trans (HI8.out.bel.mono HB0.out.size)
          exact (lies_part (w := w8) (cs := y.cells) (ab := ab) (cb := cb) (b := b) (off := off) (Nat.lt_of_lt_of_le hb hNB.size) (fun i hi => by
            rw [HSC.out.2] at hi
            obtain ⟨g0, g1, g2, -⟩ := hcells i hi
            exact ⟨(hNB.cell (p := ⟨b, off + i * 3, none⟩) hb).trans g0, (hNB.cell (p := ⟨b, off + i * 3 + 1, none⟩) hb).trans g1, (hNB.cell (p := ⟨b, off + i * 3 + 2, none⟩) hb).trans g2⟩) 0 CY d2 (by rw [HSC.out.2]; omega) (by rw [HSC.out.2]; exact (caps_form HY.out.2.2).2) (by omega)).drew
      obtain ⟨RW, hRW⟩ : ∃ RW, rowT (fun q => cellT y.cells ab cb ((CY - N) + q)) (Nat.min CY N) = RW := ⟨_, rfl⟩
      have HRW := hide hRW
      have HMM : Hid (Nat.min CY N = Nat.min CY (N - sx) ∧ RW.length = Nat.min CY N * 3 ∧ (N - CY) * 3 + RW.length ≤ N * 3) := by
        have hs' := HSX.out
        refine ⟨by rw [show N - sx = CY by omega, hmin]; exact (Nat.min_eq_left (Nat.le_refl _)).symm, by rw [← hRW, rowT_len], ?_⟩
        rw [← hRW, rowT_len, hmin]; omega
      rw [hRW] at HLI
      have HPOS : Hid (0 < Nat.min CY N → subA (some ⟨g, 0, none⟩) sx N 3 = some ⟨g, (N - CY) * 3, none⟩) := fun h => by
        have hs' := HSX.out
        rw [hmin] at h
        unfold subA
        rw [if_neg (by omega), Option.map_some, add_off, Nat.zero_add, hs']
      have hp1 : ∀ W, (Instr.sliceAt 23 (.slice (some ⟨g, 0, none⟩) N N) (some (.int .i64 (sx : Int))) none none).run Try.prog W = .ok (.slice (subA (some ⟨g, 0, none⟩) sx N 3) (N - sx) (N - sx)) W := fun W => part_l (P := Try.prog) Try.underlying23 size36 (some ⟨g, 0, none⟩) N N sx (sx : Int) rfl (by have := HSX.out; omega) W
      have hp2 : ∀ W, (Instr.sliceAt 23 (.slice b2 CY d2) (some (.int .i64 0)) none none).run Try.prog W = .ok (.slice (subA b2 0 d2 3) CY d2) W := fun W => part_l (P := Try.prog) Try.underlying23 size36 b2 CY d2 0 0 rfl (Nat.zero_le _) W
      have hif1 : (if (sx : Int) < 0 then (0 : Int) else (sx : Int)) = (sx : Int) := if_neg (by omega)
      have hif2 : (if -(sx : Int) < 0 then (0 : Int) else -(sx : Int)) = 0 := if_pos (by omega)
      have hif3 : (if 0 < sx then (0 : Int) else -(sx : Int)) = 0 := if_pos hsx0
      have hng : IntKind.i64.wrap (-(sx : Int)) = -(sx : Int) := IntWalk.i64_in _ ⟨by have := HSX.out; omega, by omega⟩
      have HROW : Hid (w8.drew.rowIs g 36 (N * 3) (gF (fun _ => ((.int .i64 F0, .int .i64 F1, .slice none 0 0) : Value × Value × Value)) N)) := HG.out.2.2
      obtain ⟨DP, hDP⟩ : ∃ DP, subA (some ⟨g, 0, none⟩) sx N 3 = DP := ⟨_, rfl⟩
      obtain ⟨SP, hSP⟩ : ∃ SP, subA b2 0 d2 3 = SP := ⟨_, rfl⟩
      rw [hDP] at HPOS
      simp only [hDP] at hp1
      rw [hSP] at HLI
      simp only [hSP] at hp2
      obtain ⟨mm, hmm⟩ : ∃ mm, Nat.min CY N = mm := ⟨_, rfl⟩
      have HMN := hide hmm
      rw [hmm] at HMM HPOS
      clear hRW hDP hSP hmin hmm
      go_wp2
      go_region_law (refine step_copy_rowIs rfl (.tmp 72) (.tmp 78) 23 23 rfl 36 3 Try.underlying23 size36 DP SP (N - sx) (N - sx) CY d2 mm (by go_simp) (by go_simp) g ((N - CY) * 3) (N * 3) 36 _ HROW.out RW HMM.out.1 HMM.out.2.1 HPOS.out HLI.out (by decide) HMM.out.2.2 ?_; intro w9 hrow9 hTw9)
      all_goals
        have hTw : Two w8 g g w9 := ⟨(Below.refl _ _).drew.trans hTw9.io, hTw9.size, hTw9.keep⟩
        rw [← HRW.out] at hrow9
        have I9 : In3 w (.slice a1 SX c1) (.slice a2 CX c2) (.slice b1 SY d1) (.slice b2 CY d2) w9 := HI8.out.belowS (hTw.belowB (B := w.heap.size + 3) (by have := HGB.out; have := HI2.out.size; omega) (by have := HGB.out; have := HI2.out.size; omega)) (Nat.le_refl _)
        clear hp1 hp2 HROW HLI HMM HPOS hTw9
        have HFIN : Hid (∀ u v, Gives2K (n + 1) w0 RES.1 RES.2 w (.returned (.tuple #[.agg #[.slice as' SY cs', .slice (some ⟨g, 0, none⟩) N N], .int .i64 0])) ((w9.setCell ⟨w.heap.size + 2, 0, none⟩ u).setCell ⟨w.heap.size + 2, 1, none⟩ v)) := by
          intro u v
          have hshl : sh.length = SY := by rw [← HSH.out, List.length_set, HSC.out.1]
          refine gives2k_of HE5.out ⟨_, _, _, _, _, _, rfl, by have := HO.out.1.1; rw [hshl] at this; exact this, Nat.le_refl _⟩ (fun W hW hK => ?_) (I9.fin u v)
          have K2 := (keeps_three w9 w.heap.size u v).trans (hK.mono (show w.heap.size ≤ w.heap.size + 3 by omega))
          have RS : Row 0 W as' sh := by
            have k1 : Keeps w1.heap.size w2 w9 := ⟨by rw [hTw.size]; exact HB28.out.size, fun b h1 h2 => (hTw.keep b (by have := HGB.out; omega) (by have := HGB.out; omega)).trans (HB28.out.block b h2)⟩
            exact ((HO.out.1.2.2.keeps (k1.trans (K2.mono (by have := HI1.out.size; omega)))).low (Nat.zero_le _))
          have hgl : g < w9.heap.size := by rw [hTw.size]; exact HGL.out
          have hrW : W.rowIs g 36 (N * 3) (spF (gF (fun _ => ((.int .i64 F0, .int .i64 F1, .slice none 0 0) : Value × Value × Value)) N) ((N - CY) * 3) (rowT (fun q => cellT y.cells ab cb ((CY - N) + q)) (Nat.min CY N))) := by
            obtain ⟨cc, k1, k2, k3⟩ := hrow9
            exact ⟨cc, (K2.2 g (by have := HGB.out; have := HI1.out.size; have := HO.out.2.size; omega) hgl).trans k1, k2, k3⟩
          have hce : ∀ i, i < y.cells.length → CeIn (ArIn n lo' w0) lo' w0 (cAt y.cells i) (cellT y.cells ab cb i).1 (cellT y.cells ab cb i).2.1 (cellT y.cells ab cb i).2.2 := fun i hi => by
            rw [HSC.out.2] at hi
            obtain ⟨b, off, -, -, -, hcl⟩ := HCF.out (by omega)
            exact (hcl i hi).2.2.2
          have hmin1 : Nat.min CY N ≤ CY := Nat.min_le_left _ _
          have hmin2 : Nat.min CY N ≤ N := Nat.min_le_right _ _
          have hmn : CY ≤ N ∧ Nat.min CY N = CY ∨ N ≤ CY ∧ Nat.min CY N = N := by
            rcases Nat.le_total CY N with h | h
            · exact Or.inl ⟨h, Nat.min_eq_left h⟩
            · exact Or.inr ⟨h, Nat.min_eq_right h⟩
          have HC := lay_cells (n := n) (lo := lo') (w := w9) hce hW (Nat.lt_of_lt_of_le hgl K2.1) hrW (by omega) (by rw [HSC.out.2]; omega)
          exact arIn_mk (x := .mk sh (mkCs N (layC y.cells F0 F1 (N - CY) (CY - N) (Nat.min CY N)))) RS (by show (mkCs _ _).length ≤ _; rw [mkCs_len]; omega) HC hshl (mkCs_len _ _)
        have p0 := I9.p0
        have p1 := I9.p1
        have f0 := I9.f0
        have f1 := I9.f1
        have HT9 := hide (I9.put (.slice as' SY cs') (.slice (some ⟨g, 0, none⟩) N N))
        clear I9 hTw hrow9
        go_wp2
        exact bodyPost_ret (v := .tuple #[.agg #[.slice as' SY cs', .slice (some ⟨g, 0, none⟩) N N], .int .i64 0]) (by simp [results, Try.results75, go_sem, HT9.out.1, HT9.out.2]) rfl (HFIN.out _ _)
    · obtain ⟨dx, hdx⟩ : ∃ dx : Nat, CY - N = dx := ⟨_, rfl⟩
      have hdx1 : (N : Int) - (CY : Int) = -(dx : Int) := by omega
      have HDX := hide hdx
      have HE5 : Hid (RES = (.mk sh (mkCs N (layC y.cells F0 F1 (N - CY) (CY - N) (Nat.min CY N))), 0)) := by unfold Hid; rw [HRES2.out, if_neg (by simp), if_neg (fun h => hmore h.1)]
      have RM : W4.rowIs w2.heap.size 36 (N * 3) zero3 := by rw [← e4]; exact rowIs_made3 w2 (N * 3)
      have HB28 := hide B4
      have HGB : Hid (w2.heap.size ≤ w2.heap.size) := Nat.le_refl _
      have HGL : Hid (w2.heap.size < W4.heap.size) := by unfold Hid; omega
      obtain ⟨ab, cb, hcf⟩ := cells_fn HRY.out.2
      have HCF := hide hcf
      rw [HSC.out.2] at HCF
      clear hcf
      have hmin : Nat.min CY N = N := Nat.min_eq_right (by omega)
      have HLI : Hid (Lies W4.drew (subA b2 dx d2 3) (rowT (fun q => cellT y.cells ab cb ((CY - N) + q)) (Nat.min CY N))) := by
        rw [hmin, hdx]
        by_cases h0 : N = 0
        · rw [h0]; exact ⟨Or.inl rfl, fun u hu => by simp [rowT] at hu⟩
        · obtain ⟨b, off, rfl, -, hb, hcells⟩ := HCF.out (by omega)
          have hNB := HB0.out.trans (HI4.out.bel.mono HB0.out.size)
          exact (lies_part (w := W4) (cs := y.cells) (ab := ab) (cb := cb) (b := b) (off := off) (Nat.lt_of_lt_of_le hb hNB.size) (fun i hi => by
            rw [HSC.out.2] at hi
            obtain ⟨g0, g1, g2, -⟩ := hcells i hi
            exact ⟨(hNB.cell (p := ⟨b, off + i * 3, none⟩) hb).trans g0, (hNB.cell (p := ⟨b, off + i * 3 + 1, none⟩) hb).trans g1, (hNB.cell (p := ⟨b, off + i * 3 + 2, none⟩) hb).trans g2⟩) dx N d2 (by rw [HSC.out.2]; omega) (by rw [HSC.out.2]; exact (caps_form HY.out.2.2).2) (by omega)).drew
      obtain ⟨RW, hRW⟩ : ∃ RW, rowT (fun q => cellT y.cells ab cb ((CY - N) + q)) (Nat.min CY N) = RW := ⟨_, rfl⟩
      have HRW := hide hRW
      have HMM : Hid (Nat.min CY N = Nat.min (CY - dx) N ∧ RW.length = Nat.min CY N * 3 ∧ (N - CY) * 3 + RW.length ≤ N * 3 ∧ RW.length = N * 3 ∧ (N - CY) * 3 = 0) := by
        refine ⟨by rw [show CY - dx = N by omega, hmin]; exact (Nat.min_eq_left (Nat.le_refl _)).symm, by rw [← hRW, rowT_len], ?_, ?_, by omega⟩
        · rw [← hRW, rowT_len, hmin]; omega
        · rw [← hRW, rowT_len, hmin]
      rw [hRW] at HLI
      have HPOS : Hid (0 < Nat.min CY N → subA (some ⟨w2.heap.size, 0, none⟩) 0 N 3 = some ⟨w2.heap.size, (N - CY) * 3, none⟩) := fun h => by
        rw [subA_zero, show (N - CY) * 3 = 0 by omega]
      have hp1 : ∀ W, (Instr.sliceAt 23 (.slice (some ⟨w2.heap.size, 0, none⟩) N N) (some (.int .i64 0)) none none).run Try.prog W = .ok (.slice (subA (some ⟨w2.heap.size, 0, none⟩) 0 N 3) N N) W := fun W => part_l (P := Try.prog) Try.underlying23 size36 (some ⟨w2.heap.size, 0, none⟩) N N 0 0 rfl (Nat.zero_le _) W
      have hp2 : ∀ W, (Instr.sliceAt 23 (.slice b2 CY d2) (some (.int .i64 (dx : Int))) none none).run Try.prog W = .ok (.slice (subA b2 dx d2 3) (CY - dx) (d2 - dx)) W := fun W => part_l (P := Try.prog) Try.underlying23 size36 b2 CY d2 dx (dx : Int) rfl (by omega) W
      have hng : IntKind.i64.wrap (dx : Int) = (dx : Int) := IntWalk.i64_in _ ⟨by omega, by omega⟩
      have hng2 : IntKind.i64.wrap (- -(dx : Int)) = (dx : Int) := by rw [Int.neg_neg]; exact hng
      have hif1 : (if (dx : Int) < 0 then (0 : Int) else (dx : Int)) = (dx : Int) := if_neg (by omega)
      have hif2 : (if -(dx : Int) < 0 then (0 : Int) else -(dx : Int)) = 0 := by split <;> omega
      have hif3 : (if 0 < dx then (0 : Int) else -(dx : Int)) = 0 := by split <;> omega
      have hif4 : (if 0 < (dx : Int) then (0 : Int) else -(dx : Int)) = 0 := by split <;> omega
      have hdn : ¬ (0 : Int) < -(dx : Int) := by omega
      have HROW : Hid (W4.drew.rowIs w2.heap.size 36 (N * 3) zero3) := RM
      obtain ⟨DP, hDP⟩ : ∃ DP, subA (some ⟨w2.heap.size, 0, none⟩) 0 N 3 = DP := ⟨_, rfl⟩
      obtain ⟨SP, hSP⟩ : ∃ SP, subA b2 dx d2 3 = SP := ⟨_, rfl⟩
      rw [hDP] at HPOS
      simp only [hDP] at hp1
      rw [hSP] at HLI
      simp only [hSP] at hp2
      obtain ⟨mm, hmm⟩ : ∃ mm, Nat.min CY N = mm := ⟨_, rfl⟩
      rw [hmm] at HMM HPOS
      have HB4 := hide B4
      have hdx16 : dx ≤ 16384 := by omega
      clear hRW hDP hSP hmin hmm hdx RM I2 hb2 ho I4 B4 p0 p1 f0 f1 r0 r1 HT2 hmore
      go_wp2
      go_region_law (refine step_copy_rowIs rfl (.tmp 72) (.tmp 78) 23 23 rfl 36 3 Try.underlying23 size36 DP SP N N (CY - dx) (d2 - dx) mm (by go_simp) (by go_simp) w2.heap.size ((N - CY) * 3) (N * 3) 36 _ HROW.out RW HMM.out.1 HMM.out.2.1 HPOS.out HLI.out (by decide) HMM.out.2.2.1 ?_; intro w9 hrow9' hTw9)
      all_goals
        have hTw : Two W4 w2.heap.size w2.heap.size w9 := ⟨(Below.refl _ _).drew.trans hTw9.io, hTw9.size, hTw9.keep⟩
        have hrow9 : w9.rowIs w2.heap.size 36 (N * 3) (spF (gF (fun _ => ((.int .i64 F0, .int .i64 F1, .slice none 0 0) : Value × Value × Value)) N) ((N - CY) * 3) RW) := hrow9'.congr fun i hi => by rw [HMM.out.2.2.2.2]; exact spF_all (by rw [HMM.out.2.2.2.1]; exact hi)
        rw [← HRW.out] at hrow9
        have I9 : In3 w (.slice a1 SX c1) (.slice a2 CX c2) (.slice b1 SY d1) (.slice b2 CY d2) w9 := HI4.out.belowS (hTw.belowB (B := w.heap.size + 3) (by have := HI2.out.size; omega) (by have := HI2.out.size; omega)) (Nat.le_refl _)
        clear hp1 hp2 HROW HLI HPOS hTw9 hrow9' mk e4 r04 r14
        have HFIN : Hid (∀ u v, Gives2K (n + 1) w0 RES.1 RES.2 w (.returned (.tuple #[.agg #[.slice as' SY cs', .slice (some ⟨w2.heap.size, 0, none⟩) N N], .int .i64 0])) ((w9.setCell ⟨w.heap.size + 2, 0, none⟩ u).setCell ⟨w.heap.size + 2, 1, none⟩ v)) := by
          intro u v
          have hshl : sh.length = SY := by rw [← HSH.out, List.length_set, HSC.out.1]
          refine gives2k_of HE5.out ⟨_, _, _, _, _, _, rfl, by have := HO.out.1.1; rw [hshl] at this; exact this, Nat.le_refl _⟩ (fun W hW hK => ?_) (I9.fin u v)
          have K2 := (keeps_three w9 w.heap.size u v).trans (hK.mono (show w.heap.size ≤ w.heap.size + 3 by omega))
          have RS : Row 0 W as' sh := by
            have k1 : Keeps w1.heap.size w2 w9 := ⟨by rw [hTw.size]; exact HB28.out.size, fun b h1 h2 => (hTw.keep b (by have := HGB.out; omega) (by have := HGB.out; omega)).trans (HB28.out.block b h2)⟩
            exact ((HO.out.1.2.2.keeps (k1.trans (K2.mono (by have := HI1.out.size; omega)))).low (Nat.zero_le _))
          have hgl : w2.heap.size < w9.heap.size := by rw [hTw.size]; exact HGL.out
          have hrW : W.rowIs w2.heap.size 36 (N * 3) (spF (gF (fun _ => ((.int .i64 F0, .int .i64 F1, .slice none 0 0) : Value × Value × Value)) N) ((N - CY) * 3) (rowT (fun q => cellT y.cells ab cb ((CY - N) + q)) (Nat.min CY N))) := by
            obtain ⟨cc, k1, k2, k3⟩ := hrow9
            exact ⟨cc, (K2.2 w2.heap.size (by have := HGB.out; have := HI1.out.size; have := HO.out.2.size; omega) hgl).trans k1, k2, k3⟩
          have hce : ∀ i, i < y.cells.length → CeIn (ArIn n lo' w0) lo' w0 (cAt y.cells i) (cellT y.cells ab cb i).1 (cellT y.cells ab cb i).2.1 (cellT y.cells ab cb i).2.2 := fun i hi => by
            rw [HSC.out.2] at hi
            obtain ⟨b, off, -, -, -, hcl⟩ := HCF.out (by omega)
            exact (hcl i hi).2.2.2
          have hmin1 : Nat.min CY N ≤ CY := Nat.min_le_left _ _
          have hmin2 : Nat.min CY N ≤ N := Nat.min_le_right _ _
          have hmn : CY ≤ N ∧ Nat.min CY N = CY ∨ N ≤ CY ∧ Nat.min CY N = N := by
            rcases Nat.le_total CY N with h | h
            · exact Or.inl ⟨h, Nat.min_eq_left h⟩
            · exact Or.inr ⟨h, Nat.min_eq_right h⟩
          have HC := lay_cells (n := n) (lo := lo') (w := w9) hce hW (Nat.lt_of_lt_of_le hgl K2.1) hrW (by omega) (by rw [HSC.out.2]; omega)
          exact arIn_mk (x := .mk sh (mkCs N (layC y.cells F0 F1 (N - CY) (CY - N) (Nat.min CY N)))) RS (by show (mkCs _ _).length ≤ _; rw [mkCs_len]; omega) HC hshl (mkCs_len _ _)
        have p0 := I9.p0
        have p1 := I9.p1
        have f0 := I9.f0
        have f1 := I9.f1
        have HT9 := hide (I9.put (.slice as' SY cs') (.slice (some ⟨w2.heap.size, 0, none⟩) N N))
        clear I9 hTw hrow9
        go_wp2
        exact bodyPost_ret (v := .tuple #[.agg #[.slice as' SY cs', .slice (some ⟨w2.heap.size, 0, none⟩) N N], .int .i64 0]) (by simp [results, Try.results75, go_sem, HT9.out.1, HT9.out.2]) rfl (HFIN.out _ _)
  · obtain rfl : Nn = (L : Int) := by omega
    rw [if_neg hneg, if_neg hneg] at HRES2
    have hLn : ¬ (L : Int) < 0 := hneg
    clear hL hbig hsml hneg
    have C1 := reshaped_any y.shape b1 d1 0 (L : Int) w1 (HRY.out.1.next I1.bel) (by rw [HSC.out.1]; exact l8) (by rw [HSC.out.1]; exact hS)
    rw [HSH.out, HSC.out.1] at C1
    obtain ⟨SE, hSE⟩ : ∃ z, sizeE sh = z := ⟨_, rfl⟩
    obtain ⟨SV, hSV⟩ : ∃ z, sizeV sh = z := ⟨_, rfl⟩
    have HSS := hide (And.intro hSE hSV)
    rw [hSE, hSV] at C1 HRES2
    clear I1 hb1 HI HRES hSE hSV
    go_wp2_with fail
    clear r0 r1 p0 p1 f0 f1
    refine C1.mono ?_
    clear C1
    rintro e w2 ⟨⟨as', cs', rfl, ho⟩, hb2⟩
    have I2 := HI1.out.next hb2
    have HI2 := hide I2
    have r0 := I2.r0
    have r1 := I2.r1
    have p0 := I2.p0
    have p1 := I2.p1
    have f0 := I2.f0
    have f1 := I2.f1
    have HT2 := hide (I2.put (.slice none 0 0) (.slice none 0 0))
    have HO := hide (And.intro ho hb2)
    by_cases hSE0 : SE = 0
    case neg =>
      have HE5 : Hid (RES = (zeroA, SE)) := by unfold Hid; rw [HRES2.out, if_pos hSE0]
      have hne : (SE == 0) = false := beq_eq_false_iff_ne.2 hSE0
      clear I2 HY HRY hb2 r0 r1 HRES2 ho HO
      go_wp2
      exact bodyPost_ret (v := .tuple #[.agg #[.slice none 0 0, .slice none 0 0], .int .i64 SE]) (by simp [results, Try.results75, go_sem, HT2.out.1, HT2.out.2]) rfl (gives2k_of HE5.out caps_nil (fun _ _ _ => zeroA_in _ _ _) (HI2.out.fin _ _))
    subst hSE0
    obtain ⟨N, hN⟩ : ∃ N : Nat, SV = (N : Int) := ⟨SV.toNat, by have := (sizeV_le HSS.out.1).1; rw [HSS.out.2] at this; omega⟩
    have hN16 : N ≤ 16384 := by have := (sizeV_le HSS.out.1).2; rw [HSS.out.2] at this; omega
    subst hN
    rw [Int.toNat_natCast] at HRES2
    have mk := make_cells N (by omega) w2
    obtain ⟨W4, e4⟩ : ∃ W4, w2.alloc (.cells (madeCells #[.int .i64 0, .int .i64 0, .slice none 0 0] (N * 3)) 36) = W4 := ⟨_, rfl⟩
    rw [e4] at mk
    have B4 : Below w2.heap.size w2 W4 := by rw [← e4]; exact one_alloc _ _
    have z4 : W4.heap.size = w2.heap.size + 1 := by rw [← e4]; simp
    have I4 := I2.next B4
    have r04 := I4.r0
    have r14 := I4.r1
    have HI4 := hide I4
    by_cases hmore : CY < N
    · obtain ⟨sx, hsx⟩ : ∃ sx : Nat, N - CY = sx := ⟨_, rfl⟩
      have hsx1 : (N : Int) - (CY : Int) = (sx : Int) := by omega
      have hsx0 : 0 < sx := by omega
      have HSX := hide hsx
      clear hsx
      have CF := filling_any (HY.out.1 _ I4.bel)
      rw [HF.out] at CF
      simp only at CF
      have HB24 := hide B4
      clear I2 hb2 ho I4 B4 p0 p1 f0 f1 r0 r1 HT2
      go_wp2_with fail
      clear mk e4 r04 r14
      refine CF.mono ?_
      clear CF
      rintro e w5 ⟨rfl, hb5⟩
      have I5 := HI4.out.next hb5
      have I6 := I5.next (one_alloc w5 (.cells #[.int .i64 F0, .int .i64 F1, .slice none 0 0] 36))
      have HI6 := hide I6
      by_cases hFE : FE = 0
      case neg =>
        have HE5 : Hid (RES = (zeroA, FE)) := by unfold Hid; rw [HRES2.out, if_neg (by simp), if_pos ⟨hmore, hFE⟩]
        have hne : (FE == 0) = false := beq_eq_false_iff_ne.2 hFE
        have p0 := I6.p0
        have p1 := I6.p1
        have f0 := I6.f0
        have f1 := I6.f1
        have HT6 := hide (I6.put (.slice none 0 0) (.slice none 0 0))
        clear I5 I6 hb5 HY HRY HRES2
        go_wp2
        exact bodyPost_ret (v := .tuple #[.agg #[.slice none 0 0, .slice none 0 0], .int .i64 FE]) (by simp [results, Try.results75, go_sem, HT6.out.1, HT6.out.2]) rfl (gives2k_of HE5.out caps_nil (fun _ _ _ => zeroA_in _ _ _) (HI6.out.fin _ _))
      subst hFE
      have HE5 : Hid (RES = (.mk sh (mkCs N (layC y.cells F0 F1 0 0 (Nat.min CY N))), 0)) := by unfold Hid; rw [HRES2.out, if_neg (by simp), if_neg (by simp)]
      have zA : (w5.alloc (.cells #[.int .i64 F0, .int .i64 F1, .slice none 0 0] 36)).heap.size = w5.heap.size + 1 := by simp
      have CR := repeat_any (some ⟨w5.heap.size + 1, 0, none⟩) 1 N F0 F1 none 0 0 ((w5.alloc (.cells #[.int .i64 F0, .int .i64 F1, .slice none 0 0] 36)).alloc (.cells #[.int .i64 F0, .int .i64 F1, .slice none 0 0] 36)) (by
        refine ⟨Or.inr ⟨_, rfl, by show w5.heap.size + 1 < _; simp, fun j u hj => ?_⟩, fun u hu => ?_⟩
        · rw [add_off, Nat.zero_add, ← zA]
          exact cell_new0 _ _ 36 j u (by simpa using hj)
        · simp at hu; rcases hu with rfl | rfl | rfl <;> rfl) hN16
      have BA := two_allocs w5 (.cells #[.int .i64 F0, .int .i64 F1, .slice none 0 0] 36) (.cells #[.int .i64 F0, .int .i64 F1, .slice none 0 0] 36)
      have HI7 := hide (I5.next BA)
      have HBA := hide BA
      have HB45 := hide hb5
      clear I5 I6 hb5 zA BA
      go_wp2_with fail
      refine CR.mono ?_
      clear CR
      rintro e w8 ⟨⟨g, rfl, hg1, hg2, hrow⟩, hb8⟩
      have HB28 : Hid (Below w2.heap.size w2 w8) := (HB24.out.trans (HB45.out.mono HB24.out.size)).trans ((HBA.out.trans (hb8.mono HBA.out.size)).mono (Nat.le_trans HB24.out.size HB45.out.size))
      have HGB : Hid (w2.heap.size ≤ g) := by have h1 := HB24.out.size; have h2 := HB45.out.size; have h3 := HBA.out.size; unfold Hid; omega
      have HGL := hide hg2
      have I8 := HI7.out.next hb8
      have r18 := I8.r1
      have HI8 := hide I8
      have HG := hide (And.intro hg1 (And.intro hg2 hrow))
      clear I8 hg1 hg2 hrow hb8
      obtain ⟨ab, cb, hcf⟩ := cells_fn HRY.out.2
      have HCF := hide hcf
      rw [HSC.out.2] at HCF
      clear hcf
      have HLI : Hid (Lies w8 b2 (rowT (fun q => cellT y.cells ab cb (0 + q)) (Nat.min CY N))) := by
        have hmin1 : Nat.min CY N ≤ CY := Nat.min_le_left _ _
        by_cases h0 : Nat.min CY N = 0
        · rw [h0]; exact ⟨Or.inl rfl, fun u hu => by simp [rowT] at hu⟩
        · obtain ⟨b, off, rfl, -, hb, hcells⟩ := HCF.out (by omega)
          have hNB := HB0.out.trans (HI8.out.bel.mono HB0.out.size)
          have := lies_part (w := w8) (cs := y.cells) (ab := ab) (cb := cb) (b := b) (off := off) (Nat.lt_of_lt_of_le hb hNB.size) (fun i hi => by
            rw [HSC.out.2] at hi
            obtain ⟨g0, g1, g2, -⟩ := hcells i hi
            exact ⟨(hNB.cell (p := ⟨b, off + i * 3, none⟩) hb).trans g0, (hNB.cell (p := ⟨b, off + i * 3 + 1, none⟩) hb).trans g1, (hNB.cell (p := ⟨b, off + i * 3 + 2, none⟩) hb).trans g2⟩) 0 (Nat.min CY N) d2 (by rw [HSC.out.2]; omega) (by rw [HSC.out.2]; exact (caps_form HY.out.2.2).2) (by omega)
          rw [subA_zero] at this
          exact this
      obtain ⟨RW, hRW⟩ : ∃ RW, rowT (fun q => cellT y.cells ab cb (0 + q)) (Nat.min CY N) = RW := ⟨_, rfl⟩
      have HRW := hide hRW
      have HMM : Hid (Nat.min CY N = Nat.min CY N ∧ RW.length = Nat.min CY N * 3 ∧ 0 * 3 + RW.length ≤ N * 3 ∧ (N ≤ CY → RW.length = N * 3)) := by
        have hmin2 : Nat.min CY N ≤ N := Nat.min_le_right _ _
        refine ⟨rfl, by rw [← hRW, rowT_len], by rw [← hRW, rowT_len]; omega, fun h => ?_⟩
        rw [← hRW, rowT_len, show Nat.min CY N = N from Nat.min_eq_right h]
      rw [hRW] at HLI
      obtain ⟨mm, hmm⟩ : ∃ mm, Nat.min CY N = mm := ⟨_, rfl⟩
      have HMN : Hid (mm = Nat.min CY N ∧ RW.length = mm * 3) := ⟨hmm.symm, by rw [← hmm]; exact HMM.out.2.1⟩
      clear hRW hmm
      go_wp2_with (refine wpList_copy_rowIs rfl _ _ 23 23 rfl 36 3 Try.underlying23 size36 (some ⟨g, 0, none⟩) b2 N N CY d2 mm (by go_simp) (by go_simp) g (0 * 3) (N * 3) 36 _ HG.out.2.2 RW HMN.out.1 HMN.out.2 (fun _ => rfl) HLI.out (by decide) HMM.out.2.2.1 ?_)
      intro w9 hrow9' hTw
      have hrow9 := hrow9'
      rw [← HRW.out] at hrow9
      have I9 : In3 w (.slice a1 SX c1) (.slice a2 CX c2) (.slice b1 SY d1) (.slice b2 CY d2) w9 := HI8.out.belowS (hTw.belowB (B := w.heap.size + 3) (by have := HGB.out; have := HI2.out.size; omega) (by have := HGB.out; have := HI2.out.size; omega)) (Nat.le_refl _)
      clear HLI hrow9' 
      have HFIN : Hid (∀ u v, Gives2K (n + 1) w0 RES.1 RES.2 w (.returned (.tuple #[.agg #[.slice as' SY cs', .slice (some ⟨g, 0, none⟩) N N], .int .i64 0])) ((w9.setCell ⟨w.heap.size + 2, 0, none⟩ u).setCell ⟨w.heap.size + 2, 1, none⟩ v)) := by
        intro u v
        have hshl : sh.length = SY := by rw [← HSH.out, List.length_set, HSC.out.1]
        refine gives2k_of HE5.out ⟨_, _, _, _, _, _, rfl, by have := HO.out.1.1; rw [hshl] at this; exact this, Nat.le_refl _⟩ (fun W hW hK => ?_) (I9.fin u v)
        have K2 := (keeps_three w9 w.heap.size u v).trans (hK.mono (show w.heap.size ≤ w.heap.size + 3 by omega))
        have RS : Row 0 W as' sh := by
          have k1 : Keeps w1.heap.size w2 w9 := ⟨by rw [hTw.size]; exact HB28.out.size, fun b h1 h2 => (hTw.keep b (by have := HGB.out; omega) (by have := HGB.out; omega)).trans (HB28.out.block b h2)⟩
          exact ((HO.out.1.2.2.keeps (k1.trans (K2.mono (by have := HI1.out.size; omega)))).low (Nat.zero_le _))
        have hgl : g < w9.heap.size := by rw [hTw.size]; exact HGL.out
        have hrW : W.rowIs g 36 (N * 3) (spF (gF (fun _ => ((.int .i64 F0, .int .i64 F1, .slice none 0 0) : Value × Value × Value)) N) (0 * 3) (rowT (fun q => cellT y.cells ab cb (0 + q)) (Nat.min CY N))) := by
          obtain ⟨cc, k1, k2, k3⟩ := hrow9
          exact ⟨cc, (K2.2 g (by have := HGB.out; have := HI1.out.size; have := HO.out.2.size; omega) hgl).trans k1, k2, k3⟩
        have hce : ∀ i, i < y.cells.length → CeIn (ArIn n lo' w0) lo' w0 (cAt y.cells i) (cellT y.cells ab cb i).1 (cellT y.cells ab cb i).2.1 (cellT y.cells ab cb i).2.2 := fun i hi => by
          rw [HSC.out.2] at hi
          obtain ⟨b, off, -, -, -, hcl⟩ := HCF.out (by omega)
          exact (hcl i hi).2.2.2
        have hmin1 : Nat.min CY N ≤ CY := Nat.min_le_left _ _
        have hmin2 : Nat.min CY N ≤ N := Nat.min_le_right _ _
        have hmn : CY ≤ N ∧ Nat.min CY N = CY ∨ N ≤ CY ∧ Nat.min CY N = N := by
          rcases Nat.le_total CY N with h | h
          · exact Or.inl ⟨h, Nat.min_eq_left h⟩
          · exact Or.inr ⟨h, Nat.min_eq_right h⟩
        have HC := lay_cells (n := n) (lo := lo') (w := w9) hce hW (Nat.lt_of_lt_of_le hgl K2.1) hrW (by omega) (by rw [HSC.out.2]; omega)
        exact arIn_mk (x := .mk sh (mkCs N (layC y.cells F0 F1 0 0 (Nat.min CY N)))) RS (by show (mkCs _ _).length ≤ _; rw [mkCs_len]; omega) HC hshl (mkCs_len _ _)
      have p0 := I9.p0
      have p1 := I9.p1
      have f0 := I9.f0
      have f1 := I9.f1
      have HT9 := hide (I9.put (.slice as' SY cs') (.slice (some ⟨g, 0, none⟩) N N))
      clear I9 hTw hrow9
      go_wp2
      exact bodyPost_ret (v := .tuple #[.agg #[.slice as' SY cs', .slice (some ⟨g, 0, none⟩) N N], .int .i64 0]) (by simp [results, Try.results75, go_sem, HT9.out.1, HT9.out.2]) rfl (HFIN.out _ _)
    · obtain ⟨dx, hdx⟩ : ∃ dx : Nat, CY - N = dx := ⟨_, rfl⟩
      have hdx1 : (N : Int) - (CY : Int) = -(dx : Int) := by omega
      have HE5 : Hid (RES = (.mk sh (mkCs N (layC y.cells F0 F1 0 0 (Nat.min CY N))), 0)) := by unfold Hid; rw [HRES2.out, if_neg (by simp), if_neg (fun h => hmore h.1)]
      have HRM : Hid (W4.rowIs w2.heap.size 36 (N * 3) zero3) := by rw [← e4]; exact rowIs_made3 w2 (N * 3)
      have HB28 := hide B4
      have HGB : Hid (w2.heap.size ≤ w2.heap.size) := Nat.le_refl _
      have HGL : Hid (w2.heap.size < W4.heap.size) := by unfold Hid; omega
      have hdn : ¬ (0 : Int) < -(dx : Int) := by omega
      have hdx16 : dx ≤ 16384 := by omega
      have HMO := hide hmore
      obtain ⟨ab, cb, hcf⟩ := cells_fn HRY.out.2
      have HCF := hide hcf
      rw [HSC.out.2] at HCF
      clear hcf
      have HLI : Hid (Lies W4 b2 (rowT (fun q => cellT y.cells ab cb (0 + q)) (Nat.min CY N))) := by
        have hmin1 : Nat.min CY N ≤ CY := Nat.min_le_left _ _
        by_cases h0 : Nat.min CY N = 0
        · rw [h0]; exact ⟨Or.inl rfl, fun u hu => by simp [rowT] at hu⟩
        · obtain ⟨b, off, rfl, -, hb, hcells⟩ := HCF.out (by omega)
          have hNB := HB0.out.trans (HI4.out.bel.mono HB0.out.size)
          have := lies_part (w := W4) (cs := y.cells) (ab := ab) (cb := cb) (b := b) (off := off) (Nat.lt_of_lt_of_le hb hNB.size) (fun i hi => by
            rw [HSC.out.2] at hi
            obtain ⟨g0, g1, g2, -⟩ := hcells i hi
            exact ⟨(hNB.cell (p := ⟨b, off + i * 3, none⟩) hb).trans g0, (hNB.cell (p := ⟨b, off + i * 3 + 1, none⟩) hb).trans g1, (hNB.cell (p := ⟨b, off + i * 3 + 2, none⟩) hb).trans g2⟩) 0 (Nat.min CY N) d2 (by rw [HSC.out.2]; omega) (by rw [HSC.out.2]; exact (caps_form HY.out.2.2).2) (by omega)
          rw [subA_zero] at this
          exact this
      obtain ⟨RW, hRW⟩ : ∃ RW, rowT (fun q => cellT y.cells ab cb (0 + q)) (Nat.min CY N) = RW := ⟨_, rfl⟩
      have HRW := hide hRW
      have HMM : Hid (Nat.min CY N = Nat.min CY N ∧ RW.length = Nat.min CY N * 3 ∧ 0 * 3 + RW.length ≤ N * 3 ∧ (N ≤ CY → RW.length = N * 3)) := by
        have hmin2 : Nat.min CY N ≤ N := Nat.min_le_right _ _
        refine ⟨rfl, by rw [← hRW, rowT_len], by rw [← hRW, rowT_len]; omega, fun h => ?_⟩
        rw [← hRW, rowT_len, show Nat.min CY N = N from Nat.min_eq_right h]
      rw [hRW] at HLI
      obtain ⟨mm, hmm⟩ : ∃ mm, Nat.min CY N = mm := ⟨_, rfl⟩
      have HMN : Hid (mm = Nat.min CY N ∧ RW.length = mm * 3) := ⟨hmm.symm, by rw [← hmm]; exact HMM.out.2.1⟩
      clear hRW hmm hdx I2 hb2 ho I4 B4 p0 p1 f0 f1 r0 r1 HT2 hmore
      go_wp2_with (refine wpList_copy_rowIs rfl _ _ 23 23 rfl 36 3 Try.underlying23 size36 (some ⟨w2.heap.size, 0, none⟩) b2 N N CY d2 mm (by go_simp) (by go_simp) w2.heap.size (0 * 3) (N * 3) 36 _ HRM.out RW HMN.out.1 HMN.out.2 (fun _ => rfl) HLI.out (by decide) HMM.out.2.2.1 ?_)
      intro w9 hrow9' hTw
      have hrow9 : w9.rowIs w2.heap.size 36 (N * 3) (spF (gF (fun _ => ((.int .i64 F0, .int .i64 F1, .slice none 0 0) : Value × Value × Value)) N) (0 * 3) RW) := hrow9'.congr fun i hi => by rw [Nat.zero_mul]; exact spF_all (by rw [HMM.out.2.2.2 (by have := HMO.out; omega)]; exact hi)
      rw [← HRW.out] at hrow9
      have I9 : In3 w (.slice a1 SX c1) (.slice a2 CX c2) (.slice b1 SY d1) (.slice b2 CY d2) w9 := HI4.out.belowS (hTw.belowB (B := w.heap.size + 3) (by have := HGB.out; have := HI2.out.size; omega) (by have := HGB.out; have := HI2.out.size; omega)) (Nat.le_refl _)
      clear HLI hrow9' mk e4 r04 r14
      have HFIN : Hid (∀ u v, Gives2K (n + 1) w0 RES.1 RES.2 w (.returned (.tuple #[.agg #[.slice as' SY cs', .slice (some ⟨w2.heap.size, 0, none⟩) N N], .int .i64 0])) ((w9.setCell ⟨w.heap.size + 2, 0, none⟩ u).setCell ⟨w.heap.size + 2, 1, none⟩ v)) := by
        intro u v
        have hshl : sh.length = SY := by rw [← HSH.out, List.length_set, HSC.out.1]
        refine gives2k_of HE5.out ⟨_, _, _, _, _, _, rfl, by have := HO.out.1.1; rw [hshl] at this; exact this, Nat.le_refl _⟩ (fun W hW hK => ?_) (I9.fin u v)
        have K2 := (keeps_three w9 w.heap.size u v).trans (hK.mono (show w.heap.size ≤ w.heap.size + 3 by omega))
        have RS : Row 0 W as' sh := by
          have k1 : Keeps w1.heap.size w2 w9 := ⟨by rw [hTw.size]; exact HB28.out.size, fun b h1 h2 => (hTw.keep b (by have := HGB.out; omega) (by have := HGB.out; omega)).trans (HB28.out.block b h2)⟩
          exact ((HO.out.1.2.2.keeps (k1.trans (K2.mono (by have := HI1.out.size; omega)))).low (Nat.zero_le _))
        have hgl : w2.heap.size < w9.heap.size := by rw [hTw.size]; exact HGL.out
        have hrW : W.rowIs w2.heap.size 36 (N * 3) (spF (gF (fun _ => ((.int .i64 F0, .int .i64 F1, .slice none 0 0) : Value × Value × Value)) N) (0 * 3) (rowT (fun q => cellT y.cells ab cb (0 + q)) (Nat.min CY N))) := by
          obtain ⟨cc, k1, k2, k3⟩ := hrow9
          exact ⟨cc, (K2.2 w2.heap.size (by have := HGB.out; have := HI1.out.size; have := HO.out.2.size; omega) hgl).trans k1, k2, k3⟩
        have hce : ∀ i, i < y.cells.length → CeIn (ArIn n lo' w0) lo' w0 (cAt y.cells i) (cellT y.cells ab cb i).1 (cellT y.cells ab cb i).2.1 (cellT y.cells ab cb i).2.2 := fun i hi => by
          rw [HSC.out.2] at hi
          obtain ⟨b, off, -, -, -, hcl⟩ := HCF.out (by omega)
          exact (hcl i hi).2.2.2
        have hmin1 : Nat.min CY N ≤ CY := Nat.min_le_left _ _
        have hmin2 : Nat.min CY N ≤ N := Nat.min_le_right _ _
        have hmn : CY ≤ N ∧ Nat.min CY N = CY ∨ N ≤ CY ∧ Nat.min CY N = N := by
          rcases Nat.le_total CY N with h | h
          · exact Or.inl ⟨h, Nat.min_eq_left h⟩
          · exact Or.inr ⟨h, Nat.min_eq_right h⟩
        have HC := lay_cells (n := n) (lo := lo') (w := w9) hce hW (Nat.lt_of_lt_of_le hgl K2.1) hrW (by omega) (by rw [HSC.out.2]; omega)
        exact arIn_mk (x := .mk sh (mkCs N (layC y.cells F0 F1 0 0 (Nat.min CY N)))) RS (by show (mkCs _ _).length ≤ _; rw [mkCs_len]; omega) HC hshl (mkCs_len _ _)
      have p0 := I9.p0
      have p1 := I9.p1
      have f0 := I9.f0
      have f1 := I9.f1
      have HT9 := hide (I9.put (.slice as' SY cs') (.slice (some ⟨w2.heap.size, 0, none⟩) N N))
      clear I9 hTw hrow9
      go_wp2
      exact bodyPost_ret (v := .tuple #[.agg #[.slice as' SY cs', .slice (some ⟨w2.heap.size, 0, none⟩) N N], .int .i64 0]) (by simp [results, Try.results75, go_sem, HT9.out.1, HT9.out.2]) rfl (HFIN.out _ _)
theorem taken_any {n m lo lo' : Nat} {x y : Ar} {va vb : Value} {w0 w : World} (hx : ArIn (m + 1) lo w0 x va) (hy : ArIn (n + 1) lo' w0 y vb) (hb0 : Below w0.heap.size w0 w) (hcx : chkA 8 x = 0) (hcy : chkA 8 y = 0) (hcap : Caps vb) (hS : 0 < y.shape.length) :
    Calls Try.prog 75 #[va, vb] w fun e w' => Gives2K (n + 1) w0 (takR x y).1 (takR x y).2 w e w' := by
  obtain ⟨b1, d1, b2, d2, rfl, R', hc'⟩ := hy.form
  exact taken_row hx (R'.next hb0) hc' hb0 hcx hcy hcap hS
end Go.Proofs.Ytmjncdhahdpplaa
