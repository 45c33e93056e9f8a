/-
  Numbers that stand together: the mathematics of a loop over them, and the contract of readNumbers.
-/
import Derived.Test.YtljanfmmhglpiaaDoorLxJ
import Derived.Test.YtljanfmmhglpiaaDoorOwnQ
import Derived.Laws.AppendOwn
import Derived.Test.YtljanfmmhglpiaaDoorOwnY
namespace Go.Proofs.YtljanfmmhglpiaaDoor
open Go.ChangeShapes Go.WideShapes Go.ChangeAt Go.RowKit
open Rn (Byte)
set_option maxRecDepth 100000
set_option linter.unusedVariables false
set_option linter.unusedSimpArgs false
theorem beh_nil : Beh [] := ⟨0, rfl⟩
/-- Numbers that stand together, with fuel enough. -/
def SF (m : List Int) : List Int × Nat × Option Nat := strF (m.length + 1) m
/-- What is read from a place on. -/
def Tot (a j : Nat) (xs : List Int) (S : List Int × Nat × Option Nat) : List Int × Nat × Option Nat := (xs ++ S.1, j - a + S.2.1, S.2.2.map (· + (j - a)))
theorem SF_bad {m : List Int} (h : fits (numV m) = false) : SF m = ([], 0, some 0) := by unfold SF; rw [strF, if_pos h]
theorem SF_stop {m : List Int} (h : fits (numV m) = true) (hb : lead blB (m.drop (numE m)) = 0 ∨ numB 32 (m.drop (numE m + lead blB (m.drop (numE m)))) = false) : SF m = ([numV m], numE m, none) := by
  unfold SF
  rw [strF, if_neg (by rw [h]; simp), if_pos hb]
theorem SF_go {v0 : Int} {m : List Int} (hn : numB v0 m = true) (h : fits (numV m) = true) (hb : ¬ lead blB (m.drop (numE m)) = 0) (hb2 : numB 32 (m.drop (numE m + lead blB (m.drop (numE m)))) = true) :
    SF m = (numV m :: (SF (m.drop (numE m + lead blB (m.drop (numE m))))).1, numE m + lead blB (m.drop (numE m)) + (SF (m.drop (numE m + lead blB (m.drop (numE m))))).2.1, (SF (m.drop (numE m + lead blB (m.drop (numE m))))).2.2.map (· + (numE m + lead blB (m.drop (numE m))))) := by
  have hne : m.drop (numE m + lead blB (m.drop (numE m))) ≠ [] := by
    intro h0
    rw [h0] at hb2
    cases hb2
  have hk := numE_pos hn
  have hf := str_more beh_nil m.length ((m.drop (numE m + lead blB (m.drop (numE m)))).length + 1) 32 _ hne hb2 (by rw [List.length_drop]; omega) (by omega)
  rw [List.append_nil] at hf
  unfold SF
  rw [strF, if_neg (by rw [h]; simp), if_neg (by intro h0; rcases h0 with h0 | h0; exact hb h0; rw [h0] at hb2; cases hb2), hf]
theorem Tot_bad {a j : Nat} {xs : List Int} {B : List Int} (h : fits (numV (B.drop j)) = false) : (Tot a j xs (SF (B.drop j))).2.2 = some (j - a) := by
  rw [SF_bad h]; simp [Tot]
theorem Tot_stop {a j : Nat} {xs : List Int} {B : List Int} (h : fits (numV (B.drop j)) = true) (hb : lead blB (B.drop (j + numE (B.drop j))) = 0 ∨ numB 32 (B.drop (j + numE (B.drop j) + lead blB (B.drop (j + numE (B.drop j))))) = false) (haj : a ≤ j) :
    Tot a j xs (SF (B.drop j)) = (xs ++ [numV (B.drop j)], j + numE (B.drop j) - a, none) := by
  rw [SF_stop h (by simpa [List.drop_drop, Nat.add_assoc] using hb)]
  simp [Tot]; omega
theorem Tot_go {v0 : Int} {a j : Nat} {xs : List Int} {B : List Int} (hn : numB v0 (B.drop j) = true) (h : fits (numV (B.drop j)) = true) (hb : ¬ lead blB (B.drop (j + numE (B.drop j))) = 0) (hb2 : numB 32 (B.drop (j + numE (B.drop j) + lead blB (B.drop (j + numE (B.drop j))))) = true) (haj : a ≤ j) :
    Tot a j xs (SF (B.drop j)) = Tot a (j + numE (B.drop j) + lead blB (B.drop (j + numE (B.drop j)))) (xs ++ [numV (B.drop j)]) (SF (B.drop (j + numE (B.drop j) + lead blB (B.drop (j + numE (B.drop j)))))) := by
  have e1 : (B.drop j).drop (numE (B.drop j)) = B.drop (j + numE (B.drop j)) := List.drop_drop
  have e2 : (B.drop j).drop (numE (B.drop j) + lead blB (B.drop (j + numE (B.drop j)))) = B.drop (j + numE (B.drop j) + lead blB (B.drop (j + numE (B.drop j)))) := by rw [List.drop_drop, Nat.add_assoc]
  have := SF_go hn h (by rw [e1]; exact hb) (by rw [e1, e2]; exact hb2)
  rw [e1, e2] at this
  rw [this]
  unfold Tot
  refine Prod.ext (by simp) (Prod.ext (by show _ + _ = _ + _; simp only; omega) ?_)
  simp only [Option.map_map]
  congr 1
  funext x
  simp only [Function.comp]
  omega
theorem Tot_0 {a : Nat} {B : List Int} : Tot a a [] (SF (B.drop a)) = SF (B.drop a) := by
  unfold Tot
  simp
/-- What readNumbers tells, by what was read. -/
def rdN (T : List Int × Nat × Option Nat) : Rd := match T.2.2 with
  | some j => ⟨1, [], nilA, 0, 2, j⟩
  | none => ⟨1, [], litN T.1, T.2.1, 0, 0⟩
theorem rdN_eq (l : List Int) : readN l = rdN (SF l) := rfl
abbrev iv (zs : List Int) : List Value := zs.map (Value.int .i64)
theorem info2 : (Tryd.prog.info? 2).map (fun i => (i.zero, i.size, i.bytes)) = some (some (.int .i64 0), 1, 8) := by kernel_rfl
theorem row_owned {w : World} {base lo : Nat} {v : Value} {zs : List Int} (h : w.ownsRow base 2 1 v zs.length (iv zs)) (hl : zs.length ≤ 140737488355328) (hlo : lo ≤ base) :
    ∃ a cap, v = .slice a zs.length cap ∧ Row lo w a zs := by
  obtain ⟨h1, h2⟩ := h
  rcases h2 with ⟨rfl, h2⟩ | ⟨g, cap, cur, rfl, hb, hg, hn, hm, hs, ht⟩
  · have e : zs = [] := List.eq_nil_of_length_eq_zero h2
    subst e
    exact ⟨none, 0, rfl, by simp, Or.inl rfl⟩
  · refine ⟨_, _, rfl, hl, Or.inr ⟨g, 0, rfl, Nat.le_trans hlo hb, lt_of_block hg, ?_⟩⟩
    intro i hi
    have hown : w.ownsRow base 2 1 (.slice (some ⟨g, 0, none⟩) zs.length cap) zs.length (iv zs) := ⟨h1, Or.inr ⟨g, cap, cur, rfl, hb, hg, hn, hm, hs, ht⟩⟩
    have := hown.cellAt i (by omega)
    simp only [Nat.zero_add]
    rw [this, List.getElem?_map, List.getElem?_eq_getElem hi]
    rfl
/-- A word whose value is put in. -/
theorem Wd.lit {W Z : World} {s : Nat} {k : Int} {t : ByteArray} {s2 s3 : Value} {a : Int} (h : Wd W s k t s2 s3 a) (v2 v3 : Value) (hZ : (W.setCell ⟨s, 2, none⟩ v2).setCell ⟨s, 3, none⟩ v3 = Z) :
    Wd Z s k t v2 v3 a ∧ (∀ B, B ≤ s → Below B W Z) ∧ Keeps (s + 1) W Z := by
  subst hZ
  obtain ⟨h0, a0, a1, a2, a3, a4, z⟩ := h
  refine ⟨⟨by simpa using h0, ?_, ?_, ?_, ?_, ?_, fun i => ?_⟩, fun B hB => ((Below.refl B W).setCell (p := ⟨s, 2, none⟩) hB _).setCell (p := ⟨s, 3, none⟩) hB _, ((Keeps.refl (s + 1) W).setCell (p := ⟨s, 2, none⟩) (by show s < _; omega) _).setCell (p := ⟨s, 3, none⟩) (by show s < _; omega) _⟩
  · rw [World.cell?_setCell_other _ _ _ _ (by simp), World.cell?_setCell_other _ _ _ _ (by simp)]; exact a0
  · rw [World.cell?_setCell_other _ _ _ _ (by simp), World.cell?_setCell_other _ _ _ _ (by simp)]; exact a1
  · rw [World.cell?_setCell_other _ _ _ _ (by simp)]; exact World.cell?_setCell_same' _ _ _ (by rw [a2]; rfl)
  · exact World.cell?_setCell_same' _ _ _ (by rw [World.cell?_setCell_other _ _ _ _ (by simp), a3]; rfl)
  · rw [World.cell?_setCell_other _ _ _ _ (by simp), World.cell?_setCell_other _ _ _ _ (by simp)]; exact a4
  · have f : ∀ (W : World) (p q : Addr) (v : Value), W.frozen? q = false → (W.setCell p v).frozen? q = false := frozen_set
    exact f _ _ _ _ (f _ _ _ _ (z i))
theorem owns_next {e : TypeId} {size n base : Nat} {w w' : World} {v : Value} {xs : List Value} (h : w.ownsRow base e size v n xs) (hb : Below w.heap.size w w') : w'.ownsRow base e size v n xs := by
  obtain ⟨h1, h2⟩ := h
  refine ⟨h1, ?_⟩
  rcases h2 with h2 | ⟨g, cap, cur, rfl, hbs, hg, hn, hm, hs, ht⟩
  · exact Or.inl h2
  · exact Or.inr ⟨g, cap, cur, rfl, hbs, (hb.block g (lt_of_block hg)).trans hg, hn, hm, hs, ht⟩
theorem Keeps.low {lo lo' : Nat} {w w' : World} (h : Keeps lo w w') (hl : lo ≤ lo') : Keeps lo' w w' := ⟨h.1, fun b h1 h2 => h.2 b (by omega) h2⟩
theorem ArIn.low {n lo lo' : Nat} {w : World} {x : Ar} {v : Value} (h : ArIn n lo w x v) (hl : lo' ≤ lo) : ArIn n lo' w x v := h.mono hl (Below.refl _ _)
/-- Another number stands there just if a blank does ahead of it. -/
theorem next_num {v0 : Int} {B : List Int} {j : Nat} (hn : numB v0 (B.drop j) = true) {st nx : Nat} (hst : j + numE (B.drop j) = st) (hnx : st + lead blB (B.drop st) = nx) :
    numB (ahd 32 B nx) (B.drop nx) = true ↔ (¬ lead blB (B.drop st) = 0 ∧ numB 32 (B.drop nx) = true) := by
  have hk := numE_pos hn
  rw [List.length_drop] at hk
  by_cases h0 : lead blB (B.drop st) = 0
  · have e : nx = st := by omega
    rw [e]
    refine ⟨fun h => ?_, fun h => absurd h0 h.1⟩
    exfalso
    have ho : offM (B.drop j) + lead dgB (B.drop (j + offM (B.drop j))) = numE (B.drop j) := by unfold numE; rw [List.drop_drop]
    have hd : (B.drop (j + offM (B.drop j))).drop (lead dgB (B.drop (j + offM (B.drop j)))) = B.drop st := by
      rw [List.drop_drop]; congr 1; omega
    cases hc : B.drop st with
    | nil => rw [hc] at h; cases h
    | cons c t =>
      have hdg := lead_stop dgB (B.drop (j + offM (B.drop j))) c t (hd.trans hc)
      rw [hc, numB_cons] at h
      by_cases h45 : c = 45
      · rw [if_pos h45] at h
        have hop : opB (ahd 32 B st) = true := by
          have h1 := lead_at dgB (B.drop (j + offM (B.drop j))) (lead dgB (B.drop (j + offM (B.drop j))) - 1) (by omega)
          rw [List.getElem?_drop, show j + offM (B.drop j) + (lead dgB (B.drop (j + offM (B.drop j))) - 1) = st - 1 by omega] at h1
          unfold ahd opB
          rw [if_neg (by omega), h1]
          simp
        rw [hop] at h
        cases h
      · rw [if_neg h45, hdg] at h
        cases h
  · have e : ahd 32 B nx = 32 := by
      rw [← hnx, ← ahd_drop]
      exact ahd_bl _ _ h0
    rw [e]
    exact ⟨fun h => ⟨h0, h⟩, fun h => h.2⟩
set_option maxHeartbeats 16000000 in
theorem readnums23 {w : World} {b C L a : Nat} {B : List Int} (hT : Txt w b B) (G : Glb w) (hL : B.length = L) (hC : L ≤ C) (ha : a < L) (hL8 : L ≤ 8192) (hn0 : numB (ahd 32 B a) (B.drop a) = true) :
    Calls Tryd.prog 23 #[.slice (some ⟨b, 0, none⟩) L C, .int .i64 (a : Int)] w fun e w' => GivesT (readN (B.drop a)) a w e w' := by
  obtain ⟨i0, hi, hz0, hz1, hz2⟩ := info_parts info2
  rw [rdN_eq]
  obtain ⟨T, hTT⟩ : ∃ T, SF (B.drop a) = T := ⟨_, rfl⟩
  rw [hTT]
  obtain ⟨W3, hW3⟩ : ∃ W3, ((w.alloc (.cells #[.int .i64 0, .string ⟨#[]⟩, .slice none 0 0, .slice none 0 0, .int .i64 0] 35)).alloc (.cells #[.int .i64 0, .int .i64 0, .int .i64 0] 26)).alloc (.cells #[.int .i64 1, .string ⟨#[]⟩, .slice none 0 0, .slice none 0 0, .int .i64 (a : Int)] 35) = W3 := ⟨_, rfl⟩
  have h2 := two_allocs w (.cells #[.int .i64 0, .string ⟨#[]⟩, .slice none 0 0, .slice none 0 0, .int .i64 0] 35) (.cells #[.int .i64 0, .int .i64 0, .int .i64 0] 26)
  have hs2 : ((w.alloc (.cells #[.int .i64 0, .string ⟨#[]⟩, .slice none 0 0, .slice none 0 0, .int .i64 0] 35)).alloc (.cells #[.int .i64 0, .int .i64 0, .int .i64 0] 26)).heap.size = w.heap.size + 1 + 1 := by simp
  have hba := one_alloc ((w.alloc (.cells #[.int .i64 0, .string ⟨#[]⟩, .slice none 0 0, .slice none 0 0, .int .i64 0] 35)).alloc (.cells #[.int .i64 0, .int .i64 0, .int .i64 0] 26)) (.cells #[.int .i64 1, .string ⟨#[]⟩, .slice none 0 0, .slice none 0 0, .int .i64 (a : Int)] 35)
  have R3 := (rs2_new w).next hba (by rw [hs2]; omega)
  have D3 := wd_new ((w.alloc (.cells #[.int .i64 0, .string ⟨#[]⟩, .slice none 0 0, .slice none 0 0, .int .i64 0] 35)).alloc (.cells #[.int .i64 0, .int .i64 0, .int .i64 0] 26)) 1 ⟨#[]⟩ (.slice none 0 0) (.slice none 0 0) (a : Int)
  have B3 := h2.trans (hba.mono h2.size)
  rw [hW3] at R3 D3 B3
  rw [hs2] at D3
  have hs3 : W3.heap.size = w.heap.size + 3 := by rw [← hW3]; simp
  have HSTATE : Hid (∀ wr, Below (w.heap.size + 3) W3 wr → Rs2 wr w.heap.size ∧ Wd wr (w.heap.size + 1 + 1) 1 ⟨#[]⟩ (.slice none 0 0) (.slice none 0 0) (a : Int) ∧ Below w.heap.size w wr ∧ Txt wr b B ∧ Glb wr ∧ w.heap.size + 1 + 1 < wr.heap.size) := fun wr h => by
    have hbw := B3.trans (h.mono (by omega))
    exact ⟨R3.next h (by omega), D3.next h (by omega), hbw, hT.next hbw, G.nx hbw, by have := h.size; omega⟩
  have HT0 := hide (Tot_0 (a := a) (B := B))
  have HTT0 := hide hTT
  have HB30 : Hid (Below (w.heap.size + 3) W3 W3) := Below.refl _ _
  have HOWN : Hid (W3.ownsRow (w.heap.size + 3) 2 1 (.slice none 0 0) 0 (iv [])) := World.ownsRow_nil _ _ _ _
  have HW3 := hide hW3
  have HN0 := hide hn0
  have HL := hide hL
  clear hT G h2 hs2 hba R3 D3 B3 hs3 hW3 hTT hn0 hL
  go_enter Tryd.func23, Tryd.ntmps23
  go_wp2_with fail
  rw [HW3.out]
  go_loopg [8, 9, 10] (L - a) (fun g lv ev nv wr => ∃ (j en : Nat) (xs : List Int), g + j = L ∧ nv = .int .i64 (j : Int) ∧ ev = .int .i64 (en : Int) ∧ wr.ownsRow (w.heap.size + 3) 2 1 lv xs.length (iv xs) ∧ Below (w.heap.size + 3) W3 wr ∧ a ≤ j ∧ xs.length ≤ j ∧ a ≤ en ∧ en ≤ L ∧ (numB (ahd 32 B j) (B.drop j) = true → Tot a j xs (SF (B.drop j)) = T) ∧ (numB (ahd 32 B j) (B.drop j) = false → T = (xs, en - a, none)))
  case atStart => exact ⟨a, a, [], by omega, rfl, rfl, HOWN.out, HB30.out, Nat.le_refl _, by simp, Nat.le_refl _, by omega, fun _ => HT0.out.trans HTT0.out, fun h => absurd (HN0.out.symm.trans h) (by decide)⟩
  case round =>
    clear HW3 HOWN HB30 HN0 HT0 HTT0
    obtain ⟨j, en, xs, hj, rfl, rfl, hown, hnx, haj, hxj, hen1, hen2, htot, hdone⟩ := hrel
    have HTO0 := hide htot
    have HDN := hide hdone
    have HNX0 := hide hnx
    have HOW0 := hide hown
    clear htot hdone hnx hown
    obtain ⟨-, -, -, htx0, -, hlt0⟩ := HSTATE.out wr HNX0.out
    have HN22 := hide (number22 (C := C) htx0 HL.out j (by omega))
    have HLT0 := hide hlt0
    clear htx0 hlt0
    cases hnb : numB (ahd 32 B j) (B.drop j) with
    | true =>
      rw [hnb] at HN22
      have HTO := hide (HTO0.out hnb)
      have HNB := hide hnb
      clear HTO0 HDN hnb
      go_wp2_with fail
      refine HN22.out.mono ?_
      rintro e w1 ⟨rfl, hb1⟩
      have HNX1 := hide (HNX0.out.trans (hb1.mono (by have := HLT0.out; omega)))
      have HOW1 := hide (owns_next HOW0.out hb1)
      clear HN22 HNX0 HOW0 HLT0 hb1
      obtain ⟨-, -, -, htx, hgl, hlt1⟩ := HSTATE.out w1 HNX1.out
      have HRN := hide (readnum32 htx hgl HL.out hC j HNB.out)
      have hk := numE_pos HNB.out
      rw [List.length_drop, HL.out] at hk
      have HLT1 := hide hlt1
      clear htx hgl hlt1
      have HBAD := hide (Tot_bad (a := a) (j := j) (xs := xs) (B := B))
      have HSTO := hide (Tot_stop (a := a) (j := j) (xs := xs) (B := B))
      have HGO := hide (Tot_go (a := a) (j := j) (xs := xs) (B := B) HNB.out)
      have HNN := hide (fun st nx => next_num (B := B) (j := j) HNB.out (st := st) (nx := nx))
      obtain ⟨v, hv⟩ : ∃ v, numV (B.drop j) = v := ⟨_, rfl⟩
      rw [hv] at HRN HBAD HSTO HGO
      clear hv
      obtain ⟨st, hst⟩ : ∃ st, j + numE (B.drop j) = st := ⟨_, rfl⟩
      rw [hst] at HRN HSTO HGO
      have hst1 : j < st ∧ st ≤ L := by omega
      have HNN2 := hide (fun nx => HNN.out st nx hst)
      clear hst hk HNN
      cases hf : fits v with
      | false =>
        rw [hf] at HRN
        have HF := hide (HBAD.out hf)
        rw [HTO.out] at HF
        have HRE := hide (show rdN T = ⟨1, [], nilA, 0, 2, j - a⟩ by unfold rdN; rw [HF.out])
        clear HBAD HSTO HGO hf HF HTO HNN2
        go_wp2_with fail
        refine HRN.out.mono ?_
        rintro e w2 ⟨rfl, hb2⟩
        have HNX2 := hide (HNX1.out.trans (hb2.mono (by have := HLT1.out; omega)))
        clear HRN HNX1 HOW1 HLT1 hb2
        have HFA' : Hid (∀ W, Below w2.heap.size w2 W → Calls Tryd.prog 15 #[.int .i64 2, .int .i64 (j : Int)] W fun r w' => r = .returned (.agg #[.int .i64 2, .int .i64 (j : Int), .int .i64 0]) ∧ Below w2.heap.size w2 w') := fun W h => (fault15 2 (j : Int) W).mono fun e w' ⟨he, hw⟩ => ⟨he, h.trans (hw.mono h.size)⟩
        go_upto_region 8 with fail
        obtain ⟨hrs, hwd, hbw, -, -, hlt2⟩ := HSTATE.out w2 HNX2.out
        have HRS := hide hrs
        have HWD := hide hwd
        have HBW := hide hbw
        obtain ⟨wl, c0, c1, c2, c3, c4, cz⟩ := hwd
        obtain ⟨l0, a0, a1, a2, a3, a4, b0, b1, b2, z, y⟩ := hrs
        have HD0 : Hid (Below w2.heap.size w2 w2.drew) := (Below.refl _ _).drew
        have HRZ : Hid (∀ W, Below w2.heap.size w2 W → Rs2 W w.heap.size ∧ Wd W (w.heap.size + 1 + 1) 1 ⟨#[]⟩ (.slice none 0 0) (.slice none 0 0) (a : Int)) := fun W h => ⟨HRS.out.next h HRS.out.lt, HWD.out.next h HWD.out.lt⟩
        clear hbw hlt2 HSTATE
        go_region_with (go_at_call 15; refine (HFA'.out _ (by first | exact HD0.out | exact Below.refl _ _ | with_reducible assumption)).mono ?_; rintro e w3 ⟨rfl, hb3⟩; obtain ⟨⟨l5, d0, d1, d2, d3, d4, e0, e1, e2, z5, y5⟩, ⟨wl5, g0, g1, g2, g3, g4, gz⟩⟩ := HRZ.out w3 hb3)
        all_goals
          have HP := hide (Rs2.put ⟨l5, d0, d1, d2, d3, d4, e0, e1, e2, z5, y5⟩ (.int .i64 1) (.string ⟨#[]⟩) (.slice none 0 0) (.slice none 0 0) (.int .i64 (a : Int)) (.int .i64 2) (.int .i64 (j : Int)) (.int .i64 0) rfl)
          have HB3 := hide (HBW.out.trans (hb3.mono HBW.out.size))
          clear hb3 HRZ HFA' HD0 HWD HRS
          go_wp2
          obtain ⟨⟨r0, r1, r2, r3, r4, q0, q1, q2⟩, hbz, hkz⟩ := HP.out
          exact bodyPost_ret (v := .tuple #[.agg #[.int .i64 1, .string ⟨#[]⟩, .slice none 0 0, .slice none 0 0, .int .i64 (a : Int)], .int .i64 (st : Int), .agg #[.int .i64 2, .int .i64 (j : Int), .int .i64 0]]) (by simp [results, Tryd.results23, go_sem, r0, r1, r2, r3, r4, q0, q1, q2]) rfl (by rw [HRE.out]; exact givesT_of rfl rfl rfl rfl rfl (nilA_in _ _ _) (fun h => absurd h (by decide)) (fun _ => by show (j : Int) = ((a + (j - a) : Nat) : Int); omega) (HB3.out.trans ((hbz w.heap.size (Nat.le_refl _)).mono (Nat.le_refl _))))
      | true =>
        rw [hf] at HRN
        have HSTO' := hide (HSTO.out hf)
        have HGO' := hide (HGO.out hf)
        clear HBAD HSTO HGO hf
        go_wp2_with fail
        refine HRN.out.mono ?_
        rintro e w2 ⟨rfl, hb2⟩
        have HNX2 := hide (HNX1.out.trans (hb2.mono (by have := HLT1.out; omega)))
        have hown2 := owns_next HOW1.out hb2
        obtain ⟨-, -, -, -, -, hlt2⟩ := HSTATE.out w2 HNX2.out
        clear HRN HNX1 HOW1 HLT1 hb2
        go_wp2_with (at_builtin; refine wpList_append_own _ rfl _ _ 44 rfl (w.heap.size + 3) 2 i0 (.int .i64 0) 1 8 Tryd.underlying44 hi hz0 hz1 hz2 rfl (by decide) _ _ _ rfl (hown2.alloc _) ⟨w2.heap.size, 0, none⟩ 1 1 [.int .i64 v] rfl rfl ?c1 ?c2 ?c3 ?c4 ?c5 ?_)
        case c1 =>
          intro j u hj
          match j, hj with
          | 0, hj => simp at hj; subst hj; simp [Addr.add]
        case c2 => intro u hu; simp at hu; subst hu; rfl
        case c3 => unfold maxLen; omega
        case c4 => omega
        case c5 => simp; omega
        intro v' w3 hown' hgrow _
        have hown3 : w3.ownsRow (w.heap.size + 3) 2 1 v' (xs ++ [v]).length (iv (xs ++ [v])) := by
          rw [List.length_append, show iv (xs ++ [v]) = iv xs ++ [.int .i64 v] from List.map_append]; exact hown'
        have HNX3 := hide ((HNX2.out.alloc (show w.heap.size + 3 ≤ w2.heap.size by omega) _).grown hgrow (by simp; omega) (fun q hq => (hown2.lt q hq).1))
        clear hown' hgrow hown2
        obtain ⟨-, -, -, htx3, -, hlt3⟩ := HSTATE.out w3 HNX3.out
        have HPB := hide (reachB (C := C) htx3 HL.out st hst1.2)
        obtain ⟨nx, hnx⟩ : ∃ nx, st + lead blB (B.drop st) = nx := ⟨_, rfl⟩
        have hle : nx ≤ L := by
          have := lead_le blB (B.drop st)
          rw [List.length_drop, HL.out] at this
          omega
        have hst2 : st ≤ nx := by omega
        have HNN3 := hide (HNN2.out nx hnx)
        rw [hnx] at HPB HSTO' HGO'
        have HT1 := hide (show numB (ahd 32 B nx) (B.drop nx) = true → Tot a nx (xs ++ [v]) (SF (B.drop nx)) = T from fun h => by
          have h' := HNN3.out.1 h
          exact (HGO'.out h'.1 h'.2 haj).symm.trans HTO.out)
        have HT2 := hide (show numB (ahd 32 B nx) (B.drop nx) = false → T = (xs ++ [v], st - a, none) from fun h => by
          refine HTO.out.symm.trans (HSTO'.out ?_ haj)
          by_cases h0 : lead blB (B.drop st) = 0
          · exact Or.inl h0
          · right
            cases h2 : numB 32 (B.drop nx) with
            | false => rfl
            | true => exact absurd ((HNN3.out.2 ⟨h0, h2⟩).symm.trans h) (by decide))
        clear htx3 hnx HNN3 HNN2 HTO HSTO' HGO'
        go_wp2_with fail
        refine HPB.out.mono ?_
        rintro e w4 ⟨rfl, hb4⟩
        have HNX4 := hide (HNX3.out.trans (hb4.mono (by omega)))
        have HOW4 := hide (owns_next hown3 hb4)
        clear HPB HNX3 hown3 hb4 hlt2 hlt3
        go_wp2
        go_roundg (L - nx)
        case rel => exact ⟨nx, st, xs ++ [v], by omega, rfl, rfl, HOW4.out, HNX4.out, by omega, by rw [List.length_append]; simp; omega, by omega, by omega, HT1.out, HT2.out⟩
        case measure => omega
    | false =>
    rw [hnb] at HN22
    have HTT := hide (HDN.out hnb)
    clear HTO0 HDN hnb
    go_wp2_with fail
    refine HN22.out.mono ?_
    rintro e w4 ⟨rfl, hb1⟩
    have HNX4 := hide (HNX0.out.trans (hb1.mono (by have := HLT0.out; omega)))
    have HOW4 := hide (owns_next HOW0.out hb1)
    clear HN22 HNX0 HOW0 HLT0 hb1
    have hxl : xs.length ≤ L := by omega
    obtain ⟨hrs, hwd, hbw, -, -, hlt3⟩ := HSTATE.out w4 HNX4.out
    have HRS := hide hrs
    have HWD := hide hwd
    have HBW := hide hbw
    have HLT3 := hide hlt3
    have hown := HOW4.out
    clear hrs hwd hbw hlt3 HSTATE HNX4 HOW4
    have HRE := hide (show rdN T = ⟨1, [], litN xs, en - a, 0, 0⟩ by rw [HTT.out]; rfl)
    obtain ⟨pa, pc, rfl, hrow⟩ := row_owned (lo := 0) hown (by omega) (Nat.zero_le _)
    by_cases hx1 : xs.length = 1
    · obtain ⟨z, rfl⟩ : ∃ z, xs = [z] := List.length_eq_one_iff.1 hx1
      obtain ⟨g, off, rfl, hcz⟩ : ∃ g off, pa = some ⟨g, off, none⟩ ∧ w4.cell? ⟨g, off, none⟩ = some (.int .i64 z) := by
        rcases hrow.2 with h | ⟨g, off, h1, _, _, h3⟩
        · cases h
        · exact ⟨g, off, h1, h3 0 (by simp)⟩
      have HAT := hide (atom_any 0 z w4)
      clear hrow hown hx1
      go_wp2_with fail
      refine HAT.out.mono ?_
      rintro e w5 ⟨⟨vv, rfl, hin⟩, hb5⟩
      have hin' := hin
      clear HAT hcz
      obtain ⟨z1, m1, z2, m2, hvv, -⟩ := hin
      have hv2 : vv = .agg #[.slice z1 0 m1, .slice z2 1 m2] := hvv
      subst hv2
      have HIN := hide hin'
      clear hin' hvv
      have HR5 := hide (HRS.out.next hb5 HRS.out.lt)
      have HWD5 := hide (HWD.out.next hb5 HWD.out.lt)
      have HB5 := hide (HBW.out.trans (hb5.mono HBW.out.size))
      obtain ⟨wl, c0, c1, c2, c3, c4, cz⟩ := HWD5.out
      have cz2 := cz 2
      have cz3 := cz 3
      have HPW := hide (Wd.lit HWD5.out (.slice z1 0 m1) (.slice z2 1 m2) rfl)
      obtain ⟨W6, hW6⟩ : ∃ W6, (w5.setCell ⟨w.heap.size + 1 + 1, 2, none⟩ (.slice z1 0 m1)).setCell ⟨w.heap.size + 1 + 1, 3, none⟩ (.slice z2 1 m2) = W6 := ⟨_, rfl⟩
      rw [hW6] at HPW
      obtain ⟨⟨wl6, g0, g1, g2, g3, g4, gz⟩, hb6, hk6⟩ := HPW.out
      have HR6 := hide (HR5.out.next (hb6 (w.heap.size + 1 + 1) (Nat.le_refl _)) (by omega))
      obtain ⟨l5, d0, d1, d2, d3, d4, e0, e1, e2, z5, y5⟩ := HR6.out
      have HP := hide (Rs2.put ⟨l5, d0, d1, d2, d3, d4, e0, e1, e2, z5, y5⟩ (.int .i64 1) (.string ⟨#[]⟩) (.slice z1 0 m1) (.slice z2 1 m2) (.int .i64 (a : Int)) (.int .i64 0) (.int .i64 0) (.int .i64 0) rfl)
      have HB6 := hide (HB5.out.trans ((hb6 w.heap.size (by omega)).mono (Nat.le_refl _)))
      have HK6 := hide hk6
      clear HPW hb6 hk6 HR5 HWD5 HWD HRS HBW hb5 HR6 HB5
      go_wp2
      obtain ⟨⟨r0, r1, r2, r3, r4, q0, q1, q2⟩, hbz, hkz⟩ := HP.out
      exact bodyPost_ret (v := .tuple #[.agg #[.int .i64 1, .string ⟨#[]⟩, .slice z1 0 m1, .slice z2 1 m2, .int .i64 (a : Int)], .int .i64 (en : Int), .agg #[.int .i64 0, .int .i64 0, .int .i64 0]]) (by simp [results, Tryd.results23, go_sem, r0, r1, r2, r3, r4, q0, q1, q2]) rfl (by
        rw [HRE.out]
        refine givesT_of rfl rfl rfl rfl rfl ?_ (fun _ => ⟨rfl, by show (en : Int) = ((a + (en - a) : Nat) : Int); omega, rfl⟩) (fun h => absurd rfl h) (HB6.out.trans ((hbz w.heap.size (Nat.le_refl _)).mono (Nat.le_refl _)))
        refine (((HIN.out.keeps (HK6.out.low HLT3.out)).keeps ?_).low ?_)
        · exact ⟨hkz.1, fun b' h1 h2 => hkz.2 b' (by have := HLT3.out; omega) h2⟩
        · have := HLT3.out; omega)
    · have hx1' : ((xs.length : Int) == 1) = false := beq_eq_false_iff_ne.2 (by omega)
      have HNU := hide (nums_at 0 xs xs.length rfl pa pc w4 hrow (by omega))
      have HLN := hide (show litN xs = numsA xs by unfold litN; rw [if_neg hx1])
      clear hrow hown hx1
      generalize hXL : xs.length = XL at *
      go_wp2_with fail
      refine HNU.out.mono ?_
      rintro e w5 ⟨⟨vv, rfl, hin⟩, hb5⟩
      have hin' := hin
      clear HNU
      obtain ⟨z1, m1, z2, m2, hvv, -⟩ := hin
      have hv2 : vv = .agg #[.slice z1 1 m1, .slice z2 XL m2] := by rw [hvv, show (numsA xs).cells.length = XL by simp [numsA, Ar.cells, numCs_len]; exact hXL]; rfl
      subst hv2
      have HIN := hide hin'
      clear hin' hvv
      have HR5 := hide (HRS.out.next hb5 HRS.out.lt)
      have HWD5 := hide (HWD.out.next hb5 HWD.out.lt)
      have HB5 := hide (HBW.out.trans (hb5.mono HBW.out.size))
      obtain ⟨wl, c0, c1, c2, c3, c4, cz⟩ := HWD5.out
      have cz2 := cz 2
      have cz3 := cz 3
      have HPW := hide (Wd.lit HWD5.out (.slice z1 1 m1) (.slice z2 XL m2) rfl)
      obtain ⟨W6, hW6⟩ : ∃ W6, (w5.setCell ⟨w.heap.size + 1 + 1, 2, none⟩ (.slice z1 1 m1)).setCell ⟨w.heap.size + 1 + 1, 3, none⟩ (.slice z2 XL m2) = W6 := ⟨_, rfl⟩
      rw [hW6] at HPW
      obtain ⟨⟨wl6, g0, g1, g2, g3, g4, gz⟩, hb6, hk6⟩ := HPW.out
      have HR6 := hide (HR5.out.next (hb6 (w.heap.size + 1 + 1) (Nat.le_refl _)) (by omega))
      obtain ⟨l5, d0, d1, d2, d3, d4, e0, e1, e2, z5, y5⟩ := HR6.out
      have HP := hide (Rs2.put ⟨l5, d0, d1, d2, d3, d4, e0, e1, e2, z5, y5⟩ (.int .i64 1) (.string ⟨#[]⟩) (.slice z1 1 m1) (.slice z2 XL m2) (.int .i64 (a : Int)) (.int .i64 0) (.int .i64 0) (.int .i64 0) rfl)
      have HB6 := hide (HB5.out.trans ((hb6 w.heap.size (by omega)).mono (Nat.le_refl _)))
      have HK6 := hide hk6
      clear HPW hb6 hk6 HR5 HWD5 HWD HRS HBW hb5 HR6 HB5
      go_wp2
      obtain ⟨⟨r0, r1, r2, r3, r4, q0, q1, q2⟩, hbz, hkz⟩ := HP.out
      exact bodyPost_ret (v := .tuple #[.agg #[.int .i64 1, .string ⟨#[]⟩, .slice z1 1 m1, .slice z2 XL m2, .int .i64 (a : Int)], .int .i64 (en : Int), .agg #[.int .i64 0, .int .i64 0, .int .i64 0]]) (by simp [results, Tryd.results23, go_sem, r0, r1, r2, r3, r4, q0, q1, q2]) rfl (by
        rw [HRE.out]
        refine givesT_of rfl rfl (by rw [show (⟨1, [], litN xs, en - a, 0, 0⟩ : Rd).lit = numsA xs from HLN.out]; rfl) (by rw [show (⟨1, [], litN xs, en - a, 0, 0⟩ : Rd).lit = numsA xs from HLN.out]; exact (by simp [numsA, Ar.cells, numCs_len]; exact hXL)) rfl ?_ (fun _ => ⟨rfl, by show (en : Int) = ((a + (en - a) : Nat) : Int); omega, rfl⟩) (fun h => absurd rfl h) (HB6.out.trans ((hbz w.heap.size (Nat.le_refl _)).mono (Nat.le_refl _)))
        rw [show (⟨1, [], litN xs, en - a, 0, 0⟩ : Rd).lit = numsA xs from HLN.out]
        refine (((HIN.out.keeps (HK6.out.low HLT3.out)).keeps ?_).low ?_)
        · exact ⟨hkz.1, fun b' h1 h2 => hkz.2 b' (by have := HLT3.out; omega) h2⟩
        · have := HLT3.out; omega)
end Go.Proofs.YtljanfmmhglpiaaDoor
