/-
  Words that are always the same: the contracts of One at a place of a text, of Contains, and of same.
-/
import Derived.Test.YtblpapidgpmgfaaDoorLxG
import Derived.Test.YtblpapidgpmgfaaDoorOwnN
namespace Go.Proofs.YtblpapidgpmgfaaDoor
open Go.ChangeShapes Go.WideShapes Go.ChangeAt Go.RowKit
open Rn (Byte)
set_option maxRecDepth 100000
set_option linter.unusedVariables false
set_option linter.unusedSimpArgs false
theorem subA_at {b a C : Nat} (h : a < C) : subA (some ⟨b, 0, none⟩) a C 1 = some ⟨b, a, none⟩ := by
  unfold subA
  rw [if_neg (by omega)]
  simp [Addr.add] <;> omega
/-- The sign at the head, as One tells it. -/
def oneN (l : List Int) : Int := match oneF l with
  | none => 0
  | some r => r.1
def oneK (l : List Int) : Nat := match oneF l with
  | none => 0
  | some r => r.2
theorem one37 {w : World} {b L : Nat} {B : List Int} (hT : Txt w b B) (G : Glb w) (hL : B.length = L) (a m c : Nat) (hm : 0 < m) (ham : a + m ≤ L) :
    Calls Tryd.prog 37 #[.slice (some ⟨b, a, none⟩) m c] w fun e w' => e = .returned (.tuple #[.int .i64 (oneN ((B.drop a).take m)), .int .i64 (oneK ((B.drop a).take m) : Nat)]) ∧ w' = w := by
  have hlen := hT.len
  have hl : ((B.drop a).take m).length = m := by rw [List.length_take, List.length_drop]; omega
  have hB : ∀ z ∈ (B.drop a).take m, Byte z := fun z hz => hT.byte z (List.mem_of_mem_drop (List.mem_of_mem_take hz))
  have hc : ∀ i, i < m → w.cell? ⟨b, a + i, none⟩ = some (.int .u8 (((B.drop a).take m)[i]?.getD 0)) := by
    intro i hi
    rw [hT.cell (a + i) (by omega), List.getElem?_take, if_pos hi, List.getElem?_drop]
  generalize (B.drop a).take m = l at *
  unfold oneN oneK
  cases ho : oneF l with
  | some r =>
    obtain ⟨n, k⟩ := r
    obtain ⟨hg, hk, r, hr⟩ := oneF_some hB ho
    have := Rn.one_some l n r hg hr m hl b a c w G.tab hB (by omega) hc
    rw [hk]
    exact this
  | none =>
    have hns : Rn.NoSign l := by
      intro n r hn e
      rw [e, oneF_put hn] at ho
      cases ho
    exact Rn.one_zero l hns m hl hm b a c w G.tab hB (by omega) hc
theorem contains44 {w : World} (G : Glb w) (r x : List Int) (hr : r.length < 4294967281) :
    Calls Tryd.prog 44 #[.string (strOfNums r), .string (strOfNums x)] w fun e w' => e = .returned (.bool (Lib.contains (Lib.bytesOf r) (Lib.bytesOf x))) ∧ w' = w := by
  obtain ⟨m, hm⟩ := G.ml
  have := Any.strings_Contains (ρ := Tryd.laysM144_ren) { Tryd.laysM144 with } (strOfNums r) (strOfNums x) m w (by rw [str_size]; exact hr) hm
  rw [str_data, str_data] at this
  exact this
theorem num_ioL : numsS (strOfNums ioL) = ioL := by decide +kernel
theorem num_jotL : numsS (strOfNums jotL) = jotL := by decide +kernel
theorem ix79_0 (a b c d : Value) (W : World) : (Instr.index 79 (.agg #[a, b, c, d]) (.int .i64 0)).run Tryd.prog W = .ok (.agg #[a, b]) W := by kernel_rfl
theorem ix79_1 (a b c d : Value) (W : World) : (Instr.index 79 (.agg #[a, b, c, d]) (.int .i64 1)).run Tryd.prog W = .ok (.agg #[c, d]) W := by kernel_rfl
theorem ix80_0 (a b c d e f g h i j : Value) (W : World) : (Instr.index 80 (.agg #[a, b, c, d, e, f, g, h, i, j]) (.int .i64 0)).run Tryd.prog W = .ok (.agg #[a, b]) W := by kernel_rfl
theorem ix80_1 (a b c d e f g h i j : Value) (W : World) : (Instr.index 80 (.agg #[a, b, c, d, e, f, g, h, i, j]) (.int .i64 1)).run Tryd.prog W = .ok (.agg #[c, d]) W := by kernel_rfl
theorem ix80_2 (a b c d e f g h i j : Value) (W : World) : (Instr.index 80 (.agg #[a, b, c, d, e, f, g, h, i, j]) (.int .i64 2)).run Tryd.prog W = .ok (.agg #[e, f]) W := by kernel_rfl
theorem ix80_3 (a b c d e f g h i j : Value) (W : World) : (Instr.index 80 (.agg #[a, b, c, d, e, f, g, h, i, j]) (.int .i64 3)).run Tryd.prog W = .ok (.agg #[g, h]) W := by kernel_rfl
theorem ix80_4 (a b c d e f g h i j : Value) (W : World) : (Instr.index 80 (.agg #[a, b, c, d, e, f, g, h, i, j]) (.int .i64 4)).run Tryd.prog W = .ok (.agg #[i, j]) W := by kernel_rfl
set_option maxHeartbeats 8000000 in
theorem same39 {w : World} {b C L a : Nat} {B : List Int} (hT : Txt w b B) (G : Glb w) (hL : B.length = L) (hC : L ≤ C) (ha : a < L) :
    Calls Tryd.prog 39 #[.slice (some ⟨b, a, none⟩) (L - a) (C - a)] w fun e w' => e = .returned (.tuple #[.int .i64 (sameF (B.drop a)).1, .int .i64 ((sameF (B.drop a)).2 : Nat)]) ∧ Below w.heap.size w w' := by
  have hlen := hT.len
  rw [hL] at hlen
  obtain ⟨m0, m0'⟩ := G.m0
  obtain ⟨m1, m1'⟩ := G.m1
  have HBE : Hid (∀ W, Below w.heap.size w W → ∀ s : ByteArray, Calls Tryd.prog 17 #[.slice (some ⟨b, a, none⟩) (L - a) (C - a), .string s] W fun e w' => e = .returned (.bool (hasP (B.drop a) (numsS s))) ∧ Below W.heap.size W w') := fun W h s => by
    have := begins_at (hT.next h) hL hC a (by omega) s
    rw [subA_at (by omega)] at this
    exact this
  have hdt : (B.drop a).take (L - a) = B.drop a := List.take_of_length_le (by rw [List.length_drop]; omega)
  have HONE : Hid (∀ W, Below w.heap.size w W → Calls Tryd.prog 37 #[.slice (some ⟨b, a, none⟩) (L - a) (C - a)] W fun e w' => e = .returned (.tuple #[.int .i64 (oneN (B.drop a)), .int .i64 (oneK (B.drop a) : Nat)]) ∧ w' = W) := fun W h => by
    have := one37 (hT.next h) (G.nx h) hL a (L - a) (C - a) (by omega) (by omega)
    rw [hdt] at this
    exact this
  have hok : oneK (B.drop a) ≤ L - a := by
    unfold oneK
    cases ho : oneF (B.drop a) with
    | none => simp
    | some r =>
      have := (oneF_len ho).2
      rw [List.length_drop] at this
      simp only
      omega
  have HCON : Hid (∀ W, Below w.heap.size w W → ∀ r x : List Int, r.length < 4294967281 → Calls Tryd.prog 44 #[.string (strOfNums r), .string (strOfNums x)] W fun e w' => e = .returned (.bool (Lib.contains (Lib.bytesOf r) (Lib.bytesOf x))) ∧ w' = W) := fun W h r x hr => contains44 (G.nx h) r x hr
  have HSTR := hide (fun W (h : Below w.heap.size w W) => by
    have hp := (hT.next h).part a C (by omega) (by omega) (oneK (B.drop a)) (by omega)
    rw [subA_at (by omega)] at hp
    exact str_of (c := C - a) hp (by rw [List.length_take, List.length_drop]; omega))
  have sl := fun W => part_h (P := Tryd.prog) Tryd.underlying40 sz5 (some ⟨b, a, none⟩) (L - a) (C - a) (oneK (B.drop a)) ((oneK (B.drop a) : Nat) : Int) rfl (by omega) W
  have HT : Hid (∀ W, Below w.heap.size w W → Glb W) := fun W h => G.nx h
  have HK0 : Hid (hasP (B.drop a) ioL = false → hasP (B.drop a) jotL = false → oneK (B.drop a) = 0 → sameF (B.drop a) = (0, 0)) := fun h1 h2 h3 => by
    unfold sameF
    rw [h1, h2]
    unfold oneK at h3
    cases ho : oneF (B.drop a) with
    | none => rfl
    | some r =>
      rw [ho] at h3
      have := (oneF_len ho).1
      simp only at h3
      omega
  have HKS : Hid (hasP (B.drop a) ioL = false → hasP (B.drop a) jotL = false → ¬ oneK (B.drop a) = 0 → sameF (B.drop a) = if kindF ((B.drop a).take (oneK (B.drop a))) rowsL = 0 then (0, 0) else (kindF ((B.drop a).take (oneK (B.drop a))) rowsL, oneK (B.drop a))) := fun h1 h2 h3 => by
    unfold sameF
    rw [h1, h2]
    unfold oneK at h3 ⊢
    cases ho : oneF (B.drop a) with
    | none => rw [ho] at h3; exact absurd rfl h3
    | some r => rfl
  have HB0 : Hid (Below w.heap.size w w) := Below.refl _ _
  clear hT G hdt
  generalize oneN (B.drop a) = ON at *
  go_enter Tryd.func39, Tryd.ntmps39
  go_wp2_with fail
  go_loopg [11] 2 (fun g i wr => ∃ j : Nat, g + j = 2 ∧ i = .int .i64 (j : Int) ∧ Below w.heap.size w wr ∧ (1 ≤ j → hasP (B.drop a) ioL = false) ∧ (2 ≤ j → hasP (B.drop a) jotL = false))
  case atStart => exact ⟨0, by omega, rfl, HB0.out, fun h => by omega, fun h => by omega⟩
  case round =>
    clear HB0
    obtain ⟨j, hj, rfl, hnx, hI, hJ⟩ := hrel
    have HI := hide hI
    have HJ := hide hJ
    clear hI hJ
    rcases (by omega : j = 0 ∨ j = 1 ∨ j = 2) with rfl | rfl | rfl
    · have ixj := ix79_0
      have HQ := hide (HBE.out (wr.alloc (.cells #[.int .i64 3, .string (strOfNums ioL)] 78)) (hnx.trans (((Below.refl wr.heap.size wr).alloc (Nat.le_refl _) _).mono hnx.size)) (strOfNums ioL))
      rw [num_ioL] at HQ
      have HB1 := hide (hnx.trans (((Below.refl wr.heap.size wr).alloc (Nat.le_refl _) (.cells #[.int .i64 3, .string (strOfNums ioL)] 78)).mono hnx.size))
      have HC1 := hide (cell_new0 wr #[.int .i64 3, .string (strOfNums ioL)] 78 0 _ rfl)
      have HC2 := hide (cell_new0 wr #[.int .i64 3, .string (strOfNums ioL)] 78 1 _ rfl)
      cases hpb : hasP (B.drop a) ioL with
      | true =>
        rw [hpb] at HQ
        have HF := hide (show sameF (B.drop a) = (3, 5) by unfold sameF; rw [hpb]; rfl)
        clear HBE HONE HCON HSTR HK0 HKS HT hpb HI HJ
        go_wp2_with fail
        refine HQ.out.mono ?_
        rintro e w1 ⟨rfl, hb1⟩
        have HB2 := hide (HB1.out.trans (hb1.mono HB1.out.size))
        have q1 := (hb1.cell (p := ⟨wr.heap.size, 0, none⟩) (by simp)).trans HC1.out
        have q2 := (hb1.cell (p := ⟨wr.heap.size, 1, none⟩) (by simp)).trans HC2.out
        clear HQ HC1 HC2 HB1 hb1
        go_wp2
        go_quiet (fail)
        go_wp2
        go_ret2
        exact ⟨by rw [HF.out]; rfl, by first | exact HB2.out | exact HB2.out.drew | exact drewN_below HB2.out _⟩
      | false =>
        rw [hpb] at HQ
        have HH := hide hpb
        clear HBE HONE HCON HSTR HK0 HKS HT hpb
        go_wp2_with fail
        refine HQ.out.mono ?_
        rintro e w1 ⟨rfl, hb1⟩
        have HB2 := hide (HB1.out.trans (hb1.mono HB1.out.size))
        clear HQ HC1 HC2 HB1 hb1
        go_wp2
        go_roundg 1
        case rel => exact ⟨1, by omega, by go_num, HB2.out, fun _ => HH.out, fun h => by omega⟩
        case measure => omega
    · have ixj := ix79_1
      have HQ := hide (HBE.out (wr.alloc (.cells #[.int .i64 4, .string (strOfNums jotL)] 78)) (hnx.trans (((Below.refl wr.heap.size wr).alloc (Nat.le_refl _) _).mono hnx.size)) (strOfNums jotL))
      rw [num_jotL] at HQ
      have HB1 := hide (hnx.trans (((Below.refl wr.heap.size wr).alloc (Nat.le_refl _) (.cells #[.int .i64 4, .string (strOfNums jotL)] 78)).mono hnx.size))
      have HC1 := hide (cell_new0 wr #[.int .i64 4, .string (strOfNums jotL)] 78 0 _ rfl)
      have HC2 := hide (cell_new0 wr #[.int .i64 4, .string (strOfNums jotL)] 78 1 _ rfl)
      cases hpb : hasP (B.drop a) jotL with
      | true =>
        rw [hpb] at HQ
        have HF := hide (show sameF (B.drop a) = (4, 4) by unfold sameF; rw [HI.out (by omega)]; simp only [hpb]; rfl)
        clear HBE HONE HCON HSTR HK0 HKS HT hpb HI HJ
        go_wp2_with fail
        refine HQ.out.mono ?_
        rintro e w1 ⟨rfl, hb1⟩
        have HB2 := hide (HB1.out.trans (hb1.mono HB1.out.size))
        have q1 := (hb1.cell (p := ⟨wr.heap.size, 0, none⟩) (by simp)).trans HC1.out
        have q2 := (hb1.cell (p := ⟨wr.heap.size, 1, none⟩) (by simp)).trans HC2.out
        clear HQ HC1 HC2 HB1 hb1
        go_wp2
        go_quiet (fail)
        go_wp2
        go_ret2
        exact ⟨by rw [HF.out]; rfl, by first | exact HB2.out | exact HB2.out.drew | exact drewN_below HB2.out _⟩
      | false =>
        rw [hpb] at HQ
        have HH := hide hpb
        clear HBE HONE HCON HSTR HK0 HKS HT hpb
        go_wp2_with fail
        refine HQ.out.mono ?_
        rintro e w1 ⟨rfl, hb1⟩
        have HB2 := hide (HB1.out.trans (hb1.mono HB1.out.size))
        clear HQ HC1 HC2 HB1 hb1
        go_wp2
        go_roundg 0
        case rel => exact ⟨2, by omega, by go_num, HB2.out, fun _ => HI.out (by omega), fun _ => HH.out⟩
        case measure => omega
    · have h1 := HI.out (by omega)
      have h2 := HJ.out (by omega)
      have HK0' := hide (HK0.out h1 h2)
      have HKS' := hide (HKS.out h1 h2)
      have HO1 := hide (HONE.out wr hnx)
      clear HBE HONE HI HJ HK0 HKS h1 h2
      have g0 := (HT.out wr hnx).one 0 (by omega)
      have g1 := (HT.out wr hnx).one 1 (by omega)
      have g2 := (HT.out wr hnx).one 2 (by omega)
      have g3 := (HT.out wr hnx).one 3 (by omega)
      have g4 := (HT.out wr hnx).one 4 (by omega)
      obtain ⟨g00, g01⟩ : wr.cell? ⟨2, 0, none⟩ = some (.int .i64 3) ∧ wr.cell? ⟨2, 1, none⟩ = some (.string (strOfNums (rowsL[0]?.getD (0, [])).2)) := g0
      obtain ⟨g10, g11⟩ : wr.cell? ⟨2, 2, none⟩ = some (.int .i64 7) ∧ wr.cell? ⟨2, 3, none⟩ = some (.string (strOfNums (rowsL[1]?.getD (0, [])).2)) := g1
      obtain ⟨g20, g21⟩ : wr.cell? ⟨2, 4, none⟩ = some (.int .i64 5) ∧ wr.cell? ⟨2, 5, none⟩ = some (.string (strOfNums (rowsL[2]?.getD (0, [])).2)) := g2
      obtain ⟨g30, g31⟩ : wr.cell? ⟨2, 6, none⟩ = some (.int .i64 6) ∧ wr.cell? ⟨2, 7, none⟩ = some (.string (strOfNums (rowsL[3]?.getD (0, [])).2)) := g3
      obtain ⟨g40, g41⟩ : wr.cell? ⟨2, 8, none⟩ = some (.int .i64 4) ∧ wr.cell? ⟨2, 9, none⟩ = some (.string (strOfNums (rowsL[4]?.getD (0, [])).2)) := g4
      generalize hKK : oneK (B.drop a) = KK at *
      clear hKK m0 m0' m1 m1'
      by_cases hk0 : KK = 0
      · have HF := hide (HK0'.out hk0)
        subst hk0
        clear HK0' HKS' HCON HSTR HT
        go_wp2_with fail
        refine HO1.out.mono ?_
        rintro e w1 ⟨rfl, hw1⟩
        have hw2 := hw1.symm
        subst hw2
        go_wp2
        go_ret2
        exact ⟨by rw [HF.out]; rfl, hnx⟩
      · have HKS2 := hide (HKS'.out hk0)
        clear HK0' HKS'
        have HKS' := HKS2
        clear HKS2
        have hk0' : ((KK : Int) == 0) = false := beq_eq_false_iff_ne.2 (by omega)
        go_wp2_with fail
        refine HO1.out.mono ?_
        rintro e w1 ⟨rfl, hw1⟩
        have hw2 := hw1.symm
        subst hw2
        clear HO1
        have HB0 := hide hnx
        clear hnx
        go_wp2_with fail
        clear g00 g10 g20 g30 g40 g01 g11 g21 g31 g41
        go_loopg [32] 5 (fun g i wr => ∃ j : Nat, g + j = 5 ∧ i = .int .i64 (j : Int) ∧ Below w.heap.size w wr ∧ kindF ((B.drop a).take KK) (rowsL.drop j) = kindF ((B.drop a).take KK) rowsL)
        case atStart => exact ⟨0, by omega, rfl, HB0.out, rfl⟩
        case round =>
          clear HB0
          obtain ⟨j, hj, rfl, hnx, hkj⟩ := hrel
          have HKJ := hide hkj
          clear hkj
          rcases (by omega : j = 0 ∨ j = 1 ∨ j = 2 ∨ j = 3 ∨ j = 4 ∨ j = 5) with rfl | rfl | rfl | rfl | rfl | rfl
          · have ixj := ix80_0
            have HQ := hide (fun W (h : Below w.heap.size w W) => HCON.out W h (rowsL[0]?.getD (0, [])).2 ((B.drop a).take KK) (by decide))
            have HB1 := hide (hnx.trans (((Below.refl wr.heap.size wr).alloc (Nat.le_refl _) (.cells #[.int .i64 3, .string (strOfNums (rowsL[0]?.getD (0, [])).2)] 78)).mono hnx.size))
            have HC1 := hide (cell_new0 wr #[.int .i64 3, .string (strOfNums (rowsL[0]?.getD (0, [])).2)] 78 0 _ rfl)
            have HC2 := hide (cell_new0 wr #[.int .i64 3, .string (strOfNums (rowsL[0]?.getD (0, [])).2)] 78 1 _ rfl)
            have HKR := hide (show kindF ((B.drop a).take KK) (rowsL.drop 0) = if Lib.contains (Lib.bytesOf (rowsL[0]?.getD (0, [])).2) (Lib.bytesOf ((B.drop a).take KK)) then 3 else kindF ((B.drop a).take KK) (rowsL.drop 1) from rfl)
            generalize strOfNums (rowsL[0]?.getD (0, [])).2 = RS at *
            cases hpb : Lib.contains (Lib.bytesOf (rowsL[0]?.getD (0, [])).2) (Lib.bytesOf ((B.drop a).take KK)) with
            | true =>
              rw [hpb] at HQ HKR
              have HF := hide (show sameF (B.drop a) = (3, KK) by rw [HKS'.out, ← HKJ.out, HKR.out]; rfl)
              clear hpb HKR HKJ HKS'
              obtain ⟨W2, hW2⟩ : ∃ W2, wr.alloc (.cells #[.int .i64 3, .string RS] 78) = W2 := ⟨_, rfl⟩
              rw [hW2] at HB1 HC1 HC2
              have HS2 : Hid (∀ n, Below w.heap.size w (W2.drewN n)) := fun n => drewN_below HB1.out n
              have hstr := fun n => HSTR.out (W2.drewN n) (HS2.out n)
              have hstr0 := HSTR.out W2 HB1.out
              have HCQ := hide (fun n => HQ.out (W2.drewN n) (HS2.out n))
              have HCQ0 := hide (HQ.out W2 HB1.out)
              have q1 := HC1.out
              have q2 := HC2.out
              have HW2 := hide hW2
              clear hW2 HC1 HC2 HCON HSTR HQ HT
              go_upto_region 13 with fail
              rw [HW2.out]
              go_quiet ((go_at_call 44; first | exact Calls.quiet_of_same HCQ0.out | exact Calls.quiet_of_same (HCQ.out _)))
              go_wp2
              go_ret2
              exact ⟨by rw [HF.out]; rfl, by first | exact HB1.out | exact HB1.out.drew | exact HS2.out _⟩
            | false =>
              rw [hpb] at HQ HKR
              have HKJ2 := hide (show kindF ((B.drop a).take KK) (rowsL.drop 1) = kindF ((B.drop a).take KK) rowsL by rw [← HKJ.out, HKR.out]; rfl)
              clear hpb HKR HKJ HKS'
              obtain ⟨W2, hW2⟩ : ∃ W2, wr.alloc (.cells #[.int .i64 3, .string RS] 78) = W2 := ⟨_, rfl⟩
              rw [hW2] at HB1 HC1 HC2
              have HS2 : Hid (∀ n, Below w.heap.size w (W2.drewN n)) := fun n => drewN_below HB1.out n
              have hstr := fun n => HSTR.out (W2.drewN n) (HS2.out n)
              have hstr0 := HSTR.out W2 HB1.out
              have HCQ := hide (fun n => HQ.out (W2.drewN n) (HS2.out n))
              have HCQ0 := hide (HQ.out W2 HB1.out)
              have q1 := HC1.out
              have q2 := HC2.out
              have HW2 := hide hW2
              clear hW2 HC1 HC2 HCON HSTR HQ HT
              go_upto_region 13 with fail
              rw [HW2.out]
              go_quiet ((go_at_call 44; first | exact Calls.quiet_of_same HCQ0.out | exact Calls.quiet_of_same (HCQ.out _)))
              go_wp2
              go_roundg 4
              case rel => exact ⟨1, by omega, by go_num, by first | exact HB1.out | exact HB1.out.drew | exact HS2.out _, HKJ2.out⟩
              case measure => omega
          · have ixj := ix80_1
            have HQ := hide (fun W (h : Below w.heap.size w W) => HCON.out W h (rowsL[1]?.getD (0, [])).2 ((B.drop a).take KK) (by decide))
            have HB1 := hide (hnx.trans (((Below.refl wr.heap.size wr).alloc (Nat.le_refl _) (.cells #[.int .i64 7, .string (strOfNums (rowsL[1]?.getD (0, [])).2)] 78)).mono hnx.size))
            have HC1 := hide (cell_new0 wr #[.int .i64 7, .string (strOfNums (rowsL[1]?.getD (0, [])).2)] 78 0 _ rfl)
            have HC2 := hide (cell_new0 wr #[.int .i64 7, .string (strOfNums (rowsL[1]?.getD (0, [])).2)] 78 1 _ rfl)
            have HKR := hide (show kindF ((B.drop a).take KK) (rowsL.drop 1) = if Lib.contains (Lib.bytesOf (rowsL[1]?.getD (0, [])).2) (Lib.bytesOf ((B.drop a).take KK)) then 7 else kindF ((B.drop a).take KK) (rowsL.drop 2) from rfl)
            generalize strOfNums (rowsL[1]?.getD (0, [])).2 = RS at *
            cases hpb : Lib.contains (Lib.bytesOf (rowsL[1]?.getD (0, [])).2) (Lib.bytesOf ((B.drop a).take KK)) with
            | true =>
              rw [hpb] at HQ HKR
              have HF := hide (show sameF (B.drop a) = (7, KK) by rw [HKS'.out, ← HKJ.out, HKR.out]; rfl)
              clear hpb HKR HKJ HKS'
              obtain ⟨W2, hW2⟩ : ∃ W2, wr.alloc (.cells #[.int .i64 7, .string RS] 78) = W2 := ⟨_, rfl⟩
              rw [hW2] at HB1 HC1 HC2
              have HS2 : Hid (∀ n, Below w.heap.size w (W2.drewN n)) := fun n => drewN_below HB1.out n
              have hstr := fun n => HSTR.out (W2.drewN n) (HS2.out n)
              have hstr0 := HSTR.out W2 HB1.out
              have HCQ := hide (fun n => HQ.out (W2.drewN n) (HS2.out n))
              have HCQ0 := hide (HQ.out W2 HB1.out)
              have q1 := HC1.out
              have q2 := HC2.out
              have HW2 := hide hW2
              clear hW2 HC1 HC2 HCON HSTR HQ HT
              go_upto_region 13 with fail
              rw [HW2.out]
              go_quiet ((go_at_call 44; first | exact Calls.quiet_of_same HCQ0.out | exact Calls.quiet_of_same (HCQ.out _)))
              go_wp2
              go_ret2
              exact ⟨by rw [HF.out]; rfl, by first | exact HB1.out | exact HB1.out.drew | exact HS2.out _⟩
            | false =>
              rw [hpb] at HQ HKR
              have HKJ2 := hide (show kindF ((B.drop a).take KK) (rowsL.drop 2) = kindF ((B.drop a).take KK) rowsL by rw [← HKJ.out, HKR.out]; rfl)
              clear hpb HKR HKJ HKS'
              obtain ⟨W2, hW2⟩ : ∃ W2, wr.alloc (.cells #[.int .i64 7, .string RS] 78) = W2 := ⟨_, rfl⟩
              rw [hW2] at HB1 HC1 HC2
              have HS2 : Hid (∀ n, Below w.heap.size w (W2.drewN n)) := fun n => drewN_below HB1.out n
              have hstr := fun n => HSTR.out (W2.drewN n) (HS2.out n)
              have hstr0 := HSTR.out W2 HB1.out
              have HCQ := hide (fun n => HQ.out (W2.drewN n) (HS2.out n))
              have HCQ0 := hide (HQ.out W2 HB1.out)
              have q1 := HC1.out
              have q2 := HC2.out
              have HW2 := hide hW2
              clear hW2 HC1 HC2 HCON HSTR HQ HT
              go_upto_region 13 with fail
              rw [HW2.out]
              go_quiet ((go_at_call 44; first | exact Calls.quiet_of_same HCQ0.out | exact Calls.quiet_of_same (HCQ.out _)))
              go_wp2
              go_roundg 3
              case rel => exact ⟨2, by omega, by go_num, by first | exact HB1.out | exact HB1.out.drew | exact HS2.out _, HKJ2.out⟩
              case measure => omega
          · have ixj := ix80_2
            have HQ := hide (fun W (h : Below w.heap.size w W) => HCON.out W h (rowsL[2]?.getD (0, [])).2 ((B.drop a).take KK) (by decide))
            have HB1 := hide (hnx.trans (((Below.refl wr.heap.size wr).alloc (Nat.le_refl _) (.cells #[.int .i64 5, .string (strOfNums (rowsL[2]?.getD (0, [])).2)] 78)).mono hnx.size))
            have HC1 := hide (cell_new0 wr #[.int .i64 5, .string (strOfNums (rowsL[2]?.getD (0, [])).2)] 78 0 _ rfl)
            have HC2 := hide (cell_new0 wr #[.int .i64 5, .string (strOfNums (rowsL[2]?.getD (0, [])).2)] 78 1 _ rfl)
            have HKR := hide (show kindF ((B.drop a).take KK) (rowsL.drop 2) = if Lib.contains (Lib.bytesOf (rowsL[2]?.getD (0, [])).2) (Lib.bytesOf ((B.drop a).take KK)) then 5 else kindF ((B.drop a).take KK) (rowsL.drop 3) from rfl)
            generalize strOfNums (rowsL[2]?.getD (0, [])).2 = RS at *
            cases hpb : Lib.contains (Lib.bytesOf (rowsL[2]?.getD (0, [])).2) (Lib.bytesOf ((B.drop a).take KK)) with
            | true =>
              rw [hpb] at HQ HKR
              have HF := hide (show sameF (B.drop a) = (5, KK) by rw [HKS'.out, ← HKJ.out, HKR.out]; rfl)
              clear hpb HKR HKJ HKS'
              obtain ⟨W2, hW2⟩ : ∃ W2, wr.alloc (.cells #[.int .i64 5, .string RS] 78) = W2 := ⟨_, rfl⟩
              rw [hW2] at HB1 HC1 HC2
              have HS2 : Hid (∀ n, Below w.heap.size w (W2.drewN n)) := fun n => drewN_below HB1.out n
              have hstr := fun n => HSTR.out (W2.drewN n) (HS2.out n)
              have hstr0 := HSTR.out W2 HB1.out
              have HCQ := hide (fun n => HQ.out (W2.drewN n) (HS2.out n))
              have HCQ0 := hide (HQ.out W2 HB1.out)
              have q1 := HC1.out
              have q2 := HC2.out
              have HW2 := hide hW2
              clear hW2 HC1 HC2 HCON HSTR HQ HT
              go_upto_region 13 with fail
              rw [HW2.out]
              go_quiet ((go_at_call 44; first | exact Calls.quiet_of_same HCQ0.out | exact Calls.quiet_of_same (HCQ.out _)))
              go_wp2
              go_ret2
              exact ⟨by rw [HF.out]; rfl, by first | exact HB1.out | exact HB1.out.drew | exact HS2.out _⟩
            | false =>
              rw [hpb] at HQ HKR
              have HKJ2 := hide (show kindF ((B.drop a).take KK) (rowsL.drop 3) = kindF ((B.drop a).take KK) rowsL by rw [← HKJ.out, HKR.out]; rfl)
              clear hpb HKR HKJ HKS'
              obtain ⟨W2, hW2⟩ : ∃ W2, wr.alloc (.cells #[.int .i64 5, .string RS] 78) = W2 := ⟨_, rfl⟩
              rw [hW2] at HB1 HC1 HC2
              have HS2 : Hid (∀ n, Below w.heap.size w (W2.drewN n)) := fun n => drewN_below HB1.out n
              have hstr := fun n => HSTR.out (W2.drewN n) (HS2.out n)
              have hstr0 := HSTR.out W2 HB1.out
              have HCQ := hide (fun n => HQ.out (W2.drewN n) (HS2.out n))
              have HCQ0 := hide (HQ.out W2 HB1.out)
              have q1 := HC1.out
              have q2 := HC2.out
              have HW2 := hide hW2
              clear hW2 HC1 HC2 HCON HSTR HQ HT
              go_upto_region 13 with fail
              rw [HW2.out]
              go_quiet ((go_at_call 44; first | exact Calls.quiet_of_same HCQ0.out | exact Calls.quiet_of_same (HCQ.out _)))
              go_wp2
              go_roundg 2
              case rel => exact ⟨3, by omega, by go_num, by first | exact HB1.out | exact HB1.out.drew | exact HS2.out _, HKJ2.out⟩
              case measure => omega
          · have ixj := ix80_3
            have HQ := hide (fun W (h : Below w.heap.size w W) => HCON.out W h (rowsL[3]?.getD (0, [])).2 ((B.drop a).take KK) (by decide))
            have HB1 := hide (hnx.trans (((Below.refl wr.heap.size wr).alloc (Nat.le_refl _) (.cells #[.int .i64 6, .string (strOfNums (rowsL[3]?.getD (0, [])).2)] 78)).mono hnx.size))
            have HC1 := hide (cell_new0 wr #[.int .i64 6, .string (strOfNums (rowsL[3]?.getD (0, [])).2)] 78 0 _ rfl)
            have HC2 := hide (cell_new0 wr #[.int .i64 6, .string (strOfNums (rowsL[3]?.getD (0, [])).2)] 78 1 _ rfl)
            have HKR := hide (show kindF ((B.drop a).take KK) (rowsL.drop 3) = if Lib.contains (Lib.bytesOf (rowsL[3]?.getD (0, [])).2) (Lib.bytesOf ((B.drop a).take KK)) then 6 else kindF ((B.drop a).take KK) (rowsL.drop 4) from rfl)
            generalize strOfNums (rowsL[3]?.getD (0, [])).2 = RS at *
            cases hpb : Lib.contains (Lib.bytesOf (rowsL[3]?.getD (0, [])).2) (Lib.bytesOf ((B.drop a).take KK)) with
            | true =>
              rw [hpb] at HQ HKR
              have HF := hide (show sameF (B.drop a) = (6, KK) by rw [HKS'.out, ← HKJ.out, HKR.out]; rfl)
              clear hpb HKR HKJ HKS'
              obtain ⟨W2, hW2⟩ : ∃ W2, wr.alloc (.cells #[.int .i64 6, .string RS] 78) = W2 := ⟨_, rfl⟩
              rw [hW2] at HB1 HC1 HC2
              have HS2 : Hid (∀ n, Below w.heap.size w (W2.drewN n)) := fun n => drewN_below HB1.out n
              have hstr := fun n => HSTR.out (W2.drewN n) (HS2.out n)
              have hstr0 := HSTR.out W2 HB1.out
              have HCQ := hide (fun n => HQ.out (W2.drewN n) (HS2.out n))
              have HCQ0 := hide (HQ.out W2 HB1.out)
              have q1 := HC1.out
              have q2 := HC2.out
              have HW2 := hide hW2
              clear hW2 HC1 HC2 HCON HSTR HQ HT
              go_upto_region 13 with fail
              rw [HW2.out]
              go_quiet ((go_at_call 44; first | exact Calls.quiet_of_same HCQ0.out | exact Calls.quiet_of_same (HCQ.out _)))
              go_wp2
              go_ret2
              exact ⟨by rw [HF.out]; rfl, by first | exact HB1.out | exact HB1.out.drew | exact HS2.out _⟩
            | false =>
              rw [hpb] at HQ HKR
              have HKJ2 := hide (show kindF ((B.drop a).take KK) (rowsL.drop 4) = kindF ((B.drop a).take KK) rowsL by rw [← HKJ.out, HKR.out]; rfl)
              clear hpb HKR HKJ HKS'
              obtain ⟨W2, hW2⟩ : ∃ W2, wr.alloc (.cells #[.int .i64 6, .string RS] 78) = W2 := ⟨_, rfl⟩
              rw [hW2] at HB1 HC1 HC2
              have HS2 : Hid (∀ n, Below w.heap.size w (W2.drewN n)) := fun n => drewN_below HB1.out n
              have hstr := fun n => HSTR.out (W2.drewN n) (HS2.out n)
              have hstr0 := HSTR.out W2 HB1.out
              have HCQ := hide (fun n => HQ.out (W2.drewN n) (HS2.out n))
              have HCQ0 := hide (HQ.out W2 HB1.out)
              have q1 := HC1.out
              have q2 := HC2.out
              have HW2 := hide hW2
              clear hW2 HC1 HC2 HCON HSTR HQ HT
              go_upto_region 13 with fail
              rw [HW2.out]
              go_quiet ((go_at_call 44; first | exact Calls.quiet_of_same HCQ0.out | exact Calls.quiet_of_same (HCQ.out _)))
              go_wp2
              go_roundg 1
              case rel => exact ⟨4, by omega, by go_num, by first | exact HB1.out | exact HB1.out.drew | exact HS2.out _, HKJ2.out⟩
              case measure => omega
          · have ixj := ix80_4
            have HQ := hide (fun W (h : Below w.heap.size w W) => HCON.out W h (rowsL[4]?.getD (0, [])).2 ((B.drop a).take KK) (by decide))
            have HB1 := hide (hnx.trans (((Below.refl wr.heap.size wr).alloc (Nat.le_refl _) (.cells #[.int .i64 4, .string (strOfNums (rowsL[4]?.getD (0, [])).2)] 78)).mono hnx.size))
            have HC1 := hide (cell_new0 wr #[.int .i64 4, .string (strOfNums (rowsL[4]?.getD (0, [])).2)] 78 0 _ rfl)
            have HC2 := hide (cell_new0 wr #[.int .i64 4, .string (strOfNums (rowsL[4]?.getD (0, [])).2)] 78 1 _ rfl)
            have HKR := hide (show kindF ((B.drop a).take KK) (rowsL.drop 4) = if Lib.contains (Lib.bytesOf (rowsL[4]?.getD (0, [])).2) (Lib.bytesOf ((B.drop a).take KK)) then 4 else kindF ((B.drop a).take KK) (rowsL.drop 5) from rfl)
            generalize strOfNums (rowsL[4]?.getD (0, [])).2 = RS at *
            cases hpb : Lib.contains (Lib.bytesOf (rowsL[4]?.getD (0, [])).2) (Lib.bytesOf ((B.drop a).take KK)) with
            | true =>
              rw [hpb] at HQ HKR
              have HF := hide (show sameF (B.drop a) = (4, KK) by rw [HKS'.out, ← HKJ.out, HKR.out]; rfl)
              clear hpb HKR HKJ HKS'
              obtain ⟨W2, hW2⟩ : ∃ W2, wr.alloc (.cells #[.int .i64 4, .string RS] 78) = W2 := ⟨_, rfl⟩
              rw [hW2] at HB1 HC1 HC2
              have HS2 : Hid (∀ n, Below w.heap.size w (W2.drewN n)) := fun n => drewN_below HB1.out n
              have hstr := fun n => HSTR.out (W2.drewN n) (HS2.out n)
              have hstr0 := HSTR.out W2 HB1.out
              have HCQ := hide (fun n => HQ.out (W2.drewN n) (HS2.out n))
              have HCQ0 := hide (HQ.out W2 HB1.out)
              have q1 := HC1.out
              have q2 := HC2.out
              have HW2 := hide hW2
              clear hW2 HC1 HC2 HCON HSTR HQ HT
              go_upto_region 13 with fail
              rw [HW2.out]
              go_quiet ((go_at_call 44; first | exact Calls.quiet_of_same HCQ0.out | exact Calls.quiet_of_same (HCQ.out _)))
              go_wp2
              go_ret2
              exact ⟨by rw [HF.out]; rfl, by first | exact HB1.out | exact HB1.out.drew | exact HS2.out _⟩
            | false =>
              rw [hpb] at HQ HKR
              have HKJ2 := hide (show kindF ((B.drop a).take KK) (rowsL.drop 5) = kindF ((B.drop a).take KK) rowsL by rw [← HKJ.out, HKR.out]; rfl)
              clear hpb HKR HKJ HKS'
              obtain ⟨W2, hW2⟩ : ∃ W2, wr.alloc (.cells #[.int .i64 4, .string RS] 78) = W2 := ⟨_, rfl⟩
              rw [hW2] at HB1 HC1 HC2
              have HS2 : Hid (∀ n, Below w.heap.size w (W2.drewN n)) := fun n => drewN_below HB1.out n
              have hstr := fun n => HSTR.out (W2.drewN n) (HS2.out n)
              have hstr0 := HSTR.out W2 HB1.out
              have HCQ := hide (fun n => HQ.out (W2.drewN n) (HS2.out n))
              have HCQ0 := hide (HQ.out W2 HB1.out)
              have q1 := HC1.out
              have q2 := HC2.out
              have HW2 := hide hW2
              clear hW2 HC1 HC2 HCON HSTR HQ HT
              go_upto_region 13 with fail
              rw [HW2.out]
              go_quiet ((go_at_call 44; first | exact Calls.quiet_of_same HCQ0.out | exact Calls.quiet_of_same (HCQ.out _)))
              go_wp2
              go_roundg 0
              case rel => exact ⟨5, by omega, by go_num, by first | exact HB1.out | exact HB1.out.drew | exact HS2.out _, HKJ2.out⟩
              case measure => omega
          · have HF := hide (show sameF (B.drop a) = (0, 0) by rw [HKS'.out, ← HKJ.out]; rfl)
            clear HKJ HKS' HCON HSTR HT
            go_wp2
            go_ret2
            exact ⟨by rw [HF.out]; rfl, hnx⟩
end Go.Proofs.YtblpapidgpmgfaaDoor
