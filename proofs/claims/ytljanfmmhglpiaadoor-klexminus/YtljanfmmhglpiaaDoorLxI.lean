/-
  The contract of readSame: the word that is always the same at a place.
-/
import Derived.Test.YtljanfmmhglpiaaDoorLxH
import Derived.Test.YtljanfmmhglpiaaDoorOwnX
namespace Go.Proofs.YtljanfmmhglpiaaDoor
open Go.ChangeShapes Go.WideShapes Go.ChangeAt Go.RowKit
open Rn (Byte)
set_option maxRecDepth 100000
set_option linter.unusedVariables false
set_option linter.unusedSimpArgs false
/-- What a reader tells. -/
def GivesT (r : Rd) (a : Nat) (w : World) (e : Ending) (w' : World) : Prop :=
  (∃ z1 m1 z2 m2 ta en fa, e = .returned (.tuple #[.agg #[.int .i64 r.kind, .string (strOfNums r.text), .slice z1 r.lit.shape.length m1, .slice z2 r.lit.cells.length m2, .int .i64 ta], .int .i64 en, .agg #[.int .i64 r.err, .int .i64 fa, .int .i64 0]]) ∧
    ArIn 1 w.heap.size w' r.lit (.agg #[.slice z1 r.lit.shape.length m1, .slice z2 r.lit.cells.length m2]) ∧ (r.err = 0 → ta = (a : Int) ∧ en = ((a + r.stop : Nat) : Int) ∧ fa = 0) ∧ (¬ r.err = 0 → fa = ((a + r.ea : Nat) : Int))) ∧ Below w.heap.size w w'
theorem givesT_of {r : Rd} {a n1 n2 m1 m2 : Nat} {w w' : World} {z1 z2 : Option Addr} {ta en fa kd er : Int} {S : ByteArray} (hk : r.kind = kd) (hS : strOfNums r.text = S) (h1 : r.lit.shape.length = n1) (h2 : r.lit.cells.length = n2) (he : r.err = er)
    (hin : ArIn 1 w.heap.size w' r.lit (.agg #[.slice z1 n1 m1, .slice z2 n2 m2])) (h0 : er = 0 → ta = (a : Int) ∧ en = ((a + r.stop : Nat) : Int) ∧ fa = 0) (h3 : ¬ er = 0 → fa = ((a + r.ea : Nat) : Int)) (hb : Below w.heap.size w w') :
    GivesT r a w (.returned (.tuple #[.agg #[.int .i64 kd, .string S, .slice z1 n1 m1, .slice z2 n2 m2, .int .i64 ta], .int .i64 en, .agg #[.int .i64 er, .int .i64 fa, .int .i64 0]])) w' := by
  subst hk hS h1 h2 he
  exact ⟨⟨z1, m1, z2, m2, ta, en, fa, rfl, hin, h0, h3⟩, hb⟩
theorem nilA_in (n lo : Nat) (w : World) : ArIn (n + 1) lo w nilA (.agg #[.slice none 0 0, .slice none 0 0]) := arIn_mk (x := nilA) (row_nil _ _ _) (by simp [nilA, Ar.cells]) (Or.inl rfl) rfl rfl
/-- The places of the answer: a word's five cells, a fault's three, as they were made. -/
structure Rs2 (W : World) (s : Nat) : Prop where
  lt : s + 1 < W.heap.size
  t0 : W.cell? ⟨s, 0, none⟩ = some (.int .i64 0)
  t1 : W.cell? ⟨s, 1, none⟩ = some (.string ⟨#[]⟩)
  t2 : W.cell? ⟨s, 2, none⟩ = some (.slice none 0 0)
  t3 : W.cell? ⟨s, 3, none⟩ = some (.slice none 0 0)
  t4 : W.cell? ⟨s, 4, none⟩ = some (.int .i64 0)
  f0 : W.cell? ⟨s + 1, 0, none⟩ = some (.int .i64 0)
  f1 : W.cell? ⟨s + 1, 1, none⟩ = some (.int .i64 0)
  f2 : W.cell? ⟨s + 1, 2, none⟩ = some (.int .i64 0)
  z : ∀ i, W.frozen? ⟨s, i, none⟩ = false
  y : ∀ i, W.frozen? ⟨s + 1, i, none⟩ = false
theorem Rs2.next {W W' : World} {s B : Nat} (h : Rs2 W s) (hb : Below B W W') (hB : s + 1 < B) : Rs2 W' s := by
  obtain ⟨h0, a0, a1, a2, a3, a4, b0, b1, b2, z, y⟩ := h
  have c : ∀ k i v, k < B → W.cell? ⟨k, i, none⟩ = some v → W'.cell? ⟨k, i, none⟩ = some v := fun k i v hk hv => (hb.cell (p := ⟨k, i, none⟩) hk).trans hv
  exact ⟨Nat.lt_of_lt_of_le h0 hb.size, c _ _ _ (by omega) a0, c _ _ _ (by omega) a1, c _ _ _ (by omega) a2, c _ _ _ (by omega) a3, c _ _ _ (by omega) a4, c _ _ _ (by omega) b0, c _ _ _ (by omega) b1, c _ _ _ (by omega) b2, fun i => (hb.frozen (p := ⟨s, i, none⟩) (by show s < B; omega)).trans (z i), fun i => (hb.frozen (p := ⟨s + 1, i, none⟩) (by show s + 1 < B; omega)).trans (y i)⟩
theorem rs2_new (w : World) : Rs2 ((w.alloc (.cells #[.int .i64 0, .string ⟨#[]⟩, .slice none 0 0, .slice none 0 0, .int .i64 0] 35)).alloc (.cells #[.int .i64 0, .int .i64 0, .int .i64 0] 26)) w.heap.size := by
  have hs : (w.alloc (.cells #[.int .i64 0, .string ⟨#[]⟩, .slice none 0 0, .slice none 0 0, .int .i64 0] 35)).heap.size = w.heap.size + 1 := by simp
  have hb := (Below.refl (w.alloc (.cells #[.int .i64 0, .string ⟨#[]⟩, .slice none 0 0, .slice none 0 0, .int .i64 0] 35)).heap.size (w.alloc (.cells #[.int .i64 0, .string ⟨#[]⟩, .slice none 0 0, .slice none 0 0, .int .i64 0] 35))).alloc (Nat.le_refl _) (.cells #[.int .i64 0, .int .i64 0, .int .i64 0] 26)
  have c0 : ∀ i v, (#[Value.int .i64 0, .string ⟨#[]⟩, .slice none 0 0, .slice none 0 0, .int .i64 0] : Array Value)[i]? = some v → _ := fun i v h => (hb.cell (p := ⟨w.heap.size, i, none⟩) (by simp)).trans (cell_new0 w _ 35 i v h)
  have c1 : ∀ i v, (#[Value.int .i64 0, .int .i64 0, .int .i64 0] : Array Value)[i]? = some v → ((w.alloc (.cells #[.int .i64 0, .string ⟨#[]⟩, .slice none 0 0, .slice none 0 0, .int .i64 0] 35)).alloc (.cells #[.int .i64 0, .int .i64 0, .int .i64 0] 26)).cell? ⟨w.heap.size + 1, i, none⟩ = some v := fun i v h => by
    have := cell_new0 (w.alloc (.cells #[.int .i64 0, .string ⟨#[]⟩, .slice none 0 0, .slice none 0 0, .int .i64 0] 35)) #[.int .i64 0, .int .i64 0, .int .i64 0] 26 i v h
    rw [hs] at this
    exact this
  refine ⟨by simp, c0 0 _ rfl, c0 1 _ rfl, c0 2 _ rfl, c0 3 _ rfl, c0 4 _ rfl, c1 0 _ rfl, c1 1 _ rfl, c1 2 _ rfl, fun i => (hb.frozen (p := ⟨w.heap.size, i, none⟩) (by simp)).trans (frozen_new w _ 35 i), fun i => ?_⟩
  have := frozen_new (w.alloc (.cells #[.int .i64 0, .string ⟨#[]⟩, .slice none 0 0, .slice none 0 0, .int .i64 0] 35)) #[.int .i64 0, .int .i64 0, .int .i64 0] 26 i
  rw [hs] at this
  exact this
/-- The answer, put into its places. -/
theorem Rs2.put {W Z : World} {s : Nat} (h : Rs2 W s) (v0 v1 v2 v3 v4 u0 u1 u2 : Value) (hZ : ((((((((W.setCell ⟨s, 0, none⟩ v0).setCell ⟨s, 1, none⟩ v1).setCell ⟨s, 2, none⟩ v2).setCell ⟨s, 3, none⟩ v3).setCell ⟨s, 4, none⟩ v4).setCell ⟨s + 1, 0, none⟩ u0).setCell ⟨s + 1, 1, none⟩ u1).setCell ⟨s + 1, 2, none⟩ u2) = Z) :
    (Z.cell? ⟨s, 0, none⟩ = some v0 ∧ Z.cell? ⟨s, 1, none⟩ = some v1 ∧ Z.cell? ⟨s, 2, none⟩ = some v2 ∧ Z.cell? ⟨s, 3, none⟩ = some v3 ∧ Z.cell? ⟨s, 4, none⟩ = some v4 ∧ Z.cell? ⟨s + 1, 0, none⟩ = some u0 ∧ Z.cell? ⟨s + 1, 1, none⟩ = some u1 ∧ Z.cell? ⟨s + 1, 2, none⟩ = some u2) ∧ (∀ B, B ≤ s → Below B W Z) ∧ Keeps (s + 2) W Z := by
  subst hZ
  refine ⟨⟨?_, ?_, ?_, ?_, ?_, ?_, ?_, ?_⟩, ?_, ?_⟩
  · rw [World.cell?_setCell_other _ _ _ _ (by simp), World.cell?_setCell_other _ _ _ _ (by simp), World.cell?_setCell_other _ _ _ _ (by simp), World.cell?_setCell_other _ _ _ _ (by simp), World.cell?_setCell_other _ _ _ _ (by simp), World.cell?_setCell_other _ _ _ _ (by simp), World.cell?_setCell_other _ _ _ _ (by simp)]
    exact World.cell?_setCell_same' _ _ _ (by rw [h.t0]; rfl)
  · rw [World.cell?_setCell_other _ _ _ _ (by simp), World.cell?_setCell_other _ _ _ _ (by simp), World.cell?_setCell_other _ _ _ _ (by simp), World.cell?_setCell_other _ _ _ _ (by simp), World.cell?_setCell_other _ _ _ _ (by simp), World.cell?_setCell_other _ _ _ _ (by simp)]
    exact World.cell?_setCell_same' _ _ _ (by rw [World.cell?_setCell_other _ _ _ _ (by simp), h.t1]; rfl)
  · rw [World.cell?_setCell_other _ _ _ _ (by simp), World.cell?_setCell_other _ _ _ _ (by simp), World.cell?_setCell_other _ _ _ _ (by simp), World.cell?_setCell_other _ _ _ _ (by simp), World.cell?_setCell_other _ _ _ _ (by simp)]
    exact World.cell?_setCell_same' _ _ _ (by rw [World.cell?_setCell_other _ _ _ _ (by simp), World.cell?_setCell_other _ _ _ _ (by simp), h.t2]; rfl)
  · rw [World.cell?_setCell_other _ _ _ _ (by simp), World.cell?_setCell_other _ _ _ _ (by simp), World.cell?_setCell_other _ _ _ _ (by simp), World.cell?_setCell_other _ _ _ _ (by simp)]
    exact World.cell?_setCell_same' _ _ _ (by rw [World.cell?_setCell_other _ _ _ _ (by simp), World.cell?_setCell_other _ _ _ _ (by simp), World.cell?_setCell_other _ _ _ _ (by simp), h.t3]; rfl)
  · rw [World.cell?_setCell_other _ _ _ _ (by simp), World.cell?_setCell_other _ _ _ _ (by simp), World.cell?_setCell_other _ _ _ _ (by simp)]
    exact World.cell?_setCell_same' _ _ _ (by rw [World.cell?_setCell_other _ _ _ _ (by simp), World.cell?_setCell_other _ _ _ _ (by simp), World.cell?_setCell_other _ _ _ _ (by simp), World.cell?_setCell_other _ _ _ _ (by simp), h.t4]; rfl)
  · rw [World.cell?_setCell_other _ _ _ _ (by simp), World.cell?_setCell_other _ _ _ _ (by simp)]
    exact World.cell?_setCell_same' _ _ _ (by rw [World.cell?_setCell_other _ _ _ _ (by simp), World.cell?_setCell_other _ _ _ _ (by simp), World.cell?_setCell_other _ _ _ _ (by simp), World.cell?_setCell_other _ _ _ _ (by simp), World.cell?_setCell_other _ _ _ _ (by simp), h.f0]; rfl)
  · rw [World.cell?_setCell_other _ _ _ _ (by simp)]
    exact World.cell?_setCell_same' _ _ _ (by rw [World.cell?_setCell_other _ _ _ _ (by simp), World.cell?_setCell_other _ _ _ _ (by simp), World.cell?_setCell_other _ _ _ _ (by simp), World.cell?_setCell_other _ _ _ _ (by simp), World.cell?_setCell_other _ _ _ _ (by simp), World.cell?_setCell_other _ _ _ _ (by simp), h.f1]; rfl)
  · exact World.cell?_setCell_same' _ _ _ (by rw [World.cell?_setCell_other _ _ _ _ (by simp), World.cell?_setCell_other _ _ _ _ (by simp), World.cell?_setCell_other _ _ _ _ (by simp), World.cell?_setCell_other _ _ _ _ (by simp), World.cell?_setCell_other _ _ _ _ (by simp), World.cell?_setCell_other _ _ _ _ (by simp), World.cell?_setCell_other _ _ _ _ (by simp), h.f2]; rfl)
  · intro B hB
    exact ((((((((Below.refl B W).setCell (p := ⟨s, 0, none⟩) hB _).setCell (p := ⟨s, 1, none⟩) hB _).setCell (p := ⟨s, 2, none⟩) hB _).setCell (p := ⟨s, 3, none⟩) hB _).setCell (p := ⟨s, 4, none⟩) hB _).setCell (p := ⟨s + 1, 0, none⟩) (by show B ≤ s + 1; omega) _).setCell (p := ⟨s + 1, 1, none⟩) (by show B ≤ s + 1; omega) _).setCell (p := ⟨s + 1, 2, none⟩) (by show B ≤ s + 1; omega) _
  · exact ((((((((Keeps.refl (s + 2) W).setCell (p := ⟨s, 0, none⟩) (by show s < _; omega) _).setCell (p := ⟨s, 1, none⟩) (by show s < _; omega) _).setCell (p := ⟨s, 2, none⟩) (by show s < _; omega) _).setCell (p := ⟨s, 3, none⟩) (by show s < _; omega) _).setCell (p := ⟨s, 4, none⟩) (by show s < _; omega) _).setCell (p := ⟨s + 1, 0, none⟩) (by show s + 1 < _; omega) _).setCell (p := ⟨s + 1, 1, none⟩) (by show s + 1 < _; omega) _).setCell (p := ⟨s + 1, 2, none⟩) (by show s + 1 < _; omega) _
set_option maxHeartbeats 4000000 in
theorem readsame27 {w : World} {b C L a : Nat} {B : List Int} (hT : Txt w b B) (G : Glb w) (hL : B.length = L) (hC : L ≤ C) (ha : a < L) :
    Calls Tryd.prog 27 #[.slice (some ⟨b, 0, none⟩) L C, .int .i64 (a : Int)] w fun e w' => GivesT (readS (B.drop a)) a w e w' := by
  have hlen := hT.len
  rw [hL] at hlen
  have sl1 : ∀ W, (Instr.sliceAt 45 (.slice (some ⟨b, 0, none⟩) L C) (some (.int .i64 (a : Int))) none none).run Tryd.prog W = .ok (.slice (some ⟨b, a, none⟩) (L - a) (C - a)) W := fun W => by
    have := part_l (P := Tryd.prog) Tryd.underlying45 sz5 (some ⟨b, 0, none⟩) L C a (a : Int) rfl (by omega) W
    rw [subA_at (by omega)] at this
    exact this
  obtain ⟨W1, hW1⟩ : ∃ W1, (w.alloc (.cells #[.int .i64 0, .string ⟨#[]⟩, .slice none 0 0, .slice none 0 0, .int .i64 0] 35)).alloc (.cells #[.int .i64 0, .int .i64 0, .int .i64 0] 26) = W1 := ⟨_, rfl⟩
  have hb1 : Below w.heap.size w W1 := by rw [← hW1]; exact two_allocs _ _ _
  have R1 : Rs2 W1 w.heap.size := by rw [← hW1]; exact rs2_new w
  have hc1 := (hT.next hb1).cell a (by omega)
  have HSA := hide (same40 (B[a]?.getD 0) W1)
  have hhd : (B.drop a).headD 0 = B[a]?.getD 0 := headD_drop B a
  obtain ⟨kd, hkd⟩ : ∃ kd, kind1 ((B.drop a).headD 0) = kd := ⟨_, rfl⟩
  rw [← hhd, hkd, hhd] at HSA
  clear hhd
  generalize B[a]?.getD 0 = c0 at hc1 HSA
  have HW1 := hide hW1
  have HB1 := hide hb1
  have HR1 := hide R1
  by_cases hk : kd = 0
  · subst hk
    have HON := hide (fun W (h : Below w.heap.size w W) => by
      have := one41 (hT.next h) (G.nx h) hL a (L - a) (C - a) (by omega) (by omega)
      rw [List.take_of_length_le (by rw [List.length_drop]; omega)] at this
      exact this)
    have HFA := hide (fun e W => fault15 e (a : Int) W)
    have hrs : readS (B.drop a) = ⟨0, [], nilA, 0, if oneF (B.drop a) = none then 3 else 2, 0⟩ := by
      unfold readS
      rw [if_pos hkd]
    have hzk : (oneF (B.drop a) = none → oneK (B.drop a) = 0) ∧ (¬ oneF (B.drop a) = none → ¬ oneK (B.drop a) = 0) := by
      unfold oneK
      cases ho : oneF (B.drop a) with
      | none => exact ⟨fun _ => rfl, fun h => absurd rfl h⟩
      | some r => exact ⟨(fun h => by cases h), (fun _ => by have := (oneF_len ho).1; show ¬ r.2 = 0; omega)⟩
    rw [hrs]
    have HZK := hide hzk
    generalize oneK (B.drop a) = OK at *
    generalize oneN (B.drop a) = ON at *
    clear hW1 hb1 R1 hT G hrs hkd hzk
    by_cases ho : oneF (B.drop a) = none
    · rw [if_pos ho]
      obtain rfl := HZK.out.1 ho
      clear HZK ho
      go_enter Tryd.func27, Tryd.ntmps27
      go_upto_region 1 with fail
      rw [HW1.out]
      go_wp2_with fail
      refine HSA.out.mono ?_
      rintro e w1 ⟨rfl, hw1⟩
      have hw2 := hw1.symm
      subst hw2
      have hb2 := Below.refl W1.heap.size W1
      have HB2 := hide (HB1.out.trans (hb2.mono HB1.out.size))
      have HR2 := hide (HR1.out.next hb2 HR1.out.lt)
      clear HSA HR1 HW1 HB1 hb2
      go_wp2_with fail
      refine (HON.out _ HB2.out).mono ?_
      rintro e w2 ⟨rfl, hw2⟩
      have hw3 := hw2.symm
      subst hw3
      clear HON
      go_wp2_with fail
      refine (HFA.out 3 _).mono ?_
      rintro e w3 ⟨rfl, hb3⟩
      have HB3 := hide (HB2.out.trans (hb3.mono HB2.out.size))
      have HR3 := hide (HR2.out.next hb3 HR2.out.lt)
      obtain ⟨l0, a0, a1, a2, a3, a4, b0, b1, b2, z, y⟩ := HR3.out
      have HP := hide (Rs2.put ⟨l0, a0, a1, a2, a3, a4, b0, b1, b2, z, y⟩ (.int .i64 0) (.string ⟨#[]⟩) (.slice none 0 0) (.slice none 0 0) (.int .i64 0) (.int .i64 3) (.int .i64 (a : Int)) (.int .i64 0) rfl)
      clear HFA HR2 HR3 HB2 hb3
      go_wp2
      obtain ⟨⟨r0, r1, r2, r3, r4, q0, q1, q2⟩, hbz, hkz⟩ := HP.out
      exact bodyPost_ret (v := .tuple #[.agg #[.int .i64 0, .string ⟨#[]⟩, .slice none 0 0, .slice none 0 0, .int .i64 0], .int .i64 (a : Int), .agg #[.int .i64 3, .int .i64 (a : Int), .int .i64 0]]) (by simp [results, Tryd.results27, go_sem, r0, r1, r2, r3, r4, q0, q1, q2]) rfl (givesT_of rfl rfl rfl rfl rfl (nilA_in _ _ _) (fun h => absurd h (by decide)) (fun _ => by simp) (HB3.out.trans ((hbz w.heap.size (Nat.le_refl _)).mono (Nat.le_refl _))))
    · rw [if_neg ho]
      have hok := HZK.out.2 ho
      have hok' : ((OK : Int) == 0) = false := beq_eq_false_iff_ne.2 (by omega)
      clear HZK ho hok
      go_enter Tryd.func27, Tryd.ntmps27
      go_upto_region 1 with fail
      rw [HW1.out]
      go_wp2_with fail
      refine HSA.out.mono ?_
      rintro e w1 ⟨rfl, hw1⟩
      have hw2 := hw1.symm
      subst hw2
      have hb2 := Below.refl W1.heap.size W1
      have HB2 := hide (HB1.out.trans (hb2.mono HB1.out.size))
      have HR2 := hide (HR1.out.next hb2 HR1.out.lt)
      clear HSA HR1 HW1 HB1 hb2
      go_wp2_with fail
      refine (HON.out _ HB2.out).mono ?_
      rintro e w2 ⟨rfl, hw2⟩
      have hw3 := hw2.symm
      subst hw3
      clear HON
      go_wp2_with fail
      refine (HFA.out 2 _).mono ?_
      rintro e w3 ⟨rfl, hb3⟩
      have HB3 := hide (HB2.out.trans (hb3.mono HB2.out.size))
      have HR3 := hide (HR2.out.next hb3 HR2.out.lt)
      obtain ⟨l0, a0, a1, a2, a3, a4, b0, b1, b2, z, y⟩ := HR3.out
      have HP := hide (Rs2.put ⟨l0, a0, a1, a2, a3, a4, b0, b1, b2, z, y⟩ (.int .i64 0) (.string ⟨#[]⟩) (.slice none 0 0) (.slice none 0 0) (.int .i64 0) (.int .i64 2) (.int .i64 (a : Int)) (.int .i64 0) rfl)
      clear HFA HR2 HR3 HB2 hb3
      go_wp2
      obtain ⟨⟨r0, r1, r2, r3, r4, q0, q1, q2⟩, hbz, hkz⟩ := HP.out
      exact bodyPost_ret (v := .tuple #[.agg #[.int .i64 0, .string ⟨#[]⟩, .slice none 0 0, .slice none 0 0, .int .i64 0], .int .i64 (a : Int), .agg #[.int .i64 2, .int .i64 (a : Int), .int .i64 0]]) (by simp [results, Tryd.results27, go_sem, r0, r1, r2, r3, r4, q0, q1, q2]) rfl (givesT_of rfl rfl rfl rfl rfl (nilA_in _ _ _) (fun h => absurd h (by decide)) (fun _ => by simp) (HB3.out.trans ((hbz w.heap.size (Nat.le_refl _)).mono (Nat.le_refl _))))
  · have hk' : (kd != 0) = true := bne_iff_ne.2 hk
    have hrs : readS (B.drop a) = ⟨kd, (B.drop a).take 1, nilA, 1, 0, 0⟩ := by
      unfold readS
      rw [if_neg (by rw [hkd]; exact hk), hkd]
    have sl2 := fun W => part_lh (P := Tryd.prog) Tryd.underlying45 sz5 (some ⟨b, 0, none⟩) L C a (a + 1) (a : Int) ((a : Int) + 1) rfl (by omega) (by omega) (by omega) W
    rw [subA_at (by omega)] at sl2
    have HSTR := hide (fun W (h : Below w.heap.size w W) => by
      have hp := (hT.next h).part a C (by omega) (by omega) (a + 1 - a) (by omega)
      rw [subA_at (by omega)] at hp
      exact str_of (c := C - a) hp (by rw [List.length_take, List.length_drop]; omega))
    rw [hrs]
    rw [show a + 1 - a = 1 by omega] at HSTR sl2
    clear hW1 hb1 R1 hT G hrs hkd
    generalize hSS : strOfNums ((B.drop a).take 1) = SS at *
    have HSS := hide hSS
    clear hSS
    go_enter Tryd.func27, Tryd.ntmps27
    go_upto_region 1 with fail
    rw [HW1.out]
    go_wp2_with fail
    refine HSA.out.mono ?_
    rintro e w1 ⟨rfl, hw1⟩
    have hw2 := hw1.symm
    subst hw2
    have hb2 := Below.refl W1.heap.size W1
    have HB2 := hide (HB1.out.trans (hb2.mono HB1.out.size))
    have hstr := HSTR.out W1 HB2.out
    obtain ⟨l0, a0, a1, a2, a3, a4, b0, b1, b2, z, y⟩ := HR1.out.next hb2 HR1.out.lt
    clear HSA HSTR HR1 HW1 HB1
    have HP := hide (Rs2.put ⟨l0, a0, a1, a2, a3, a4, b0, b1, b2, z, y⟩ (.int .i64 kd) (.string SS) (.slice none 0 0) (.slice none 0 0) (.int .i64 (a : Int)) (.int .i64 0) (.int .i64 0) (.int .i64 0) rfl)
    go_wp2
    obtain ⟨⟨r0, r1, r2, r3, r4, q0, q1, q2⟩, hbz, hkz⟩ := HP.out
    exact bodyPost_ret (v := .tuple #[.agg #[.int .i64 kd, .string SS, .slice none 0 0, .slice none 0 0, .int .i64 (a : Int)], .int .i64 ((a : Int) + 1), .agg #[.int .i64 0, .int .i64 0, .int .i64 0]]) (by simp [results, Tryd.results27, go_sem, r0, r1, r2, r3, r4, q0, q1, q2]) rfl (givesT_of rfl HSS.out rfl rfl rfl (nilA_in _ _ _) (fun _ => ⟨rfl, by simp, rfl⟩) (fun h => absurd rfl h) (HB2.out.trans ((hbz w.heap.size (Nat.le_refl _)).mono (Nat.le_refl _))))
end Go.Proofs.YtljanfmmhglpiaaDoor
