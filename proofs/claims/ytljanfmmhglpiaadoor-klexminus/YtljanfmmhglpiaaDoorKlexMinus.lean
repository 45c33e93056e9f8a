/-
  KlexMinus is proved: for every number and every one of the twelve beginnings the sign of less behind an operand is a word of its own, elsewhere ahead of digits it is the number's; the law answers true. Conditions: those of the card (the listed package-level variables are laid as the program's text lays them); none besides.
-/
import Derived.Test.YtljanfmmhglpiaaDoorLxX
import Derived.Laws.Runes
import Derived.Laws.Concat
namespace Go.Proofs.YtljanfmmhglpiaaDoor.klexMinus
open Go.ChangeShapes Go.WideShapes Go.ChangeAt Go.RowKit
open Rn (Byte)
set_option linter.unusedVariables false
set_option linter.unusedSimpArgs false
set_option maxRecDepth 100000
/-- The twelve beginnings as strings. -/
def AH (k : Nat) : ByteArray := strOfNums (ahL k)
theorem ah_cell (w : World) (k : Nat) (hk : k < 12) : (w.alloc (.cells #[.string ⟨#[97]⟩, .string ⟨#[40, 97, 41]⟩, .string ⟨#[97, 91, 98, 93]⟩, .string ⟨#[123, 120, 125]⟩, .string ⟨#[34, 99, 34]⟩, .string ⟨#[55]⟩, .string ⟨#[]⟩, .string ⟨#[43]⟩, .string ⟨#[40]⟩, .string ⟨#[32]⟩, .string ⟨#[97, 32]⟩, .string ⟨#[55, 32]⟩] 9)).cell? ⟨w.heap.size, k, none⟩ = some (.string (AH k)) := by
  refine cell_new0 w _ 9 k _ ?_
  rcases (by omega : k = 0 ∨ k = 1 ∨ k = 2 ∨ k = 3 ∨ k = 4 ∨ k = 5 ∨ k = 6 ∨ k = 7 ∨ k = 8 ∨ k = 9 ∨ k = 10 ∨ k = 11) with rfl | rfl | rfl | rfl | rfl | rfl | rfl | rfl | rfl | rfl | rfl | rfl <;> kernel_rfl
theorem ah_byte (k : Nat) (hk : k < 12) : ∀ z ∈ ahL k, Byte z := by
  rcases (by omega : k = 0 ∨ k = 1 ∨ k = 2 ∨ k = 3 ∨ k = 4 ∨ k = 5 ∨ k = 6 ∨ k = 7 ∨ k = 8 ∨ k = 9 ∨ k = 10 ∨ k = 11) with rfl | rfl | rfl | rfl | rfl | rfl | rfl | rfl | rfl | rfl | rfl | rfl <;> (intro z hz; simp [ahL] at hz <;> unfold Byte <;> omega)
theorem ah_len (k : Nat) (hk : k < 12) : (ahL k).length ≤ 4 := by
  rcases (by omega : k = 0 ∨ k = 1 ∨ k = 2 ∨ k = 3 ∨ k = 4 ∨ k = 5 ∨ k = 6 ∨ k = 7 ∨ k = 8 ∨ k = 9 ∨ k = 10 ∨ k = 11) with rfl | rfl | rfl | rfl | rfl | rfl | rfl | rfl | rfl | rfl | rfl | rfl <;> decide
theorem numsS_str {l : List Int} (h : ∀ z ∈ l, Byte z) : numsS (strOfNums l) = l := by
  unfold numsS
  rw [str_data]
  unfold Lib.bytesOf
  rw [List.map_map]
  conv => rhs; rw [← List.map_id l]
  refine List.map_congr_left fun z hz => ?_
  have := h z hz
  unfold Byte at this
  simp only [Function.comp, id]
  have e : (UInt8.ofNat z.toNat).toNat = z.toNat := by
    rw [UInt8.toNat_ofNat']
    exact Nat.mod_eq_of_lt (by omega)
  rw [e]
  omega
/-- The numbers of a value that holds numbers alone. -/
theorem lit_at {w : World} {x : Ar} {l : List Int} {z1 z2 : Option Addr} {n1 m1 n2 m2 : Nat} (h : ArIn 1 0 w x (.agg #[.slice z1 n1 m1, .slice z2 n2 m2])) (hx : x.cells = numCs 0 l) (hl : l ≠ []) :
    ∃ b off, z2 = some ⟨b, off, none⟩ ∧ b < w.heap.size ∧ ∀ i, i < l.length → w.cell? ⟨b, off + i * 3 + 1, none⟩ = some (.int .i64 (l[i]?.getD 0)) := by
  obtain ⟨a1, c1, a2, c2, he, -, -, hc⟩ := h
  have e2 : z2 = a2 := by
    injection he with he
    have := congrArg (fun a : Array Value => a[1]?) he
    simp at this
    exact this.1
  rcases hc with h0 | ⟨b, off, ha, -, hb, hc⟩
  · rw [hx] at h0
    exact absurd (List.map_eq_nil_iff.1 h0) hl
  · refine ⟨b, off, e2.trans ha, hb, fun i hi => ?_⟩
    obtain ⟨v0, v1, v2, -, h1, -, -, h3, -⟩ := hc i (by rw [hx, numCs_len]; exact hi)
    rw [h1, h3, hx, numCs_at 0 l i hi]
set_option maxHeartbeats 8000000 in
theorem walk (n : Nat) (bh : Int) (w : World) (G : Glb w) (hn : n < 4294967296) (hb : 0 ≤ bh ∧ bh ≤ 255) : Calls Tryd.prog 5 #[.int .u32 (n : Int), .int .u8 bh] w fun e w' => e = .returned (.bool true) ∧ Below w.heap.size w w' := by
  obtain ⟨hb0, hb1⟩ := hb
  have HG := hide G
  have HDS : Hid (DS n n []) := ⟨(fun c hc => by cases hc), by simp [decV], by simp⟩
  clear G
  go_enter Tryd.func5, Tryd.ntmps5
  go_upto_region 3 with fail
  go_loopg [5, 6] (n + 1) (fun g sv kv wr => ∃ (k : Nat) (D : List Int) (S : ByteArray), g = k + (if D = [] then 1 else 0) ∧ DS n k D ∧ strOfNums D = S ∧ sv = .string S ∧ kv = .int .u32 (k : Int) ∧ wr = w)
  case atStart => exact ⟨n, [], _, by simp, HDS.out, rfl, rfl, rfl, rfl⟩
  case round =>
    clear HDS
    obtain ⟨k, D, S, hg, hds, hS, rfl, rfl, rfl⟩ := hrel
    have hk : k ≤ n := by
      have h1 := hds.val
      have h2 := dec_pos hds.dg
      have h3 : (1 : Int) ≤ 10 ^ D.length := by
        have : 0 < (10 : Int) ^ D.length := Int.pow_pos (by decide)
        omega
      have h4 : (k : Int) * 1 ≤ (k : Int) * 10 ^ D.length := Int.mul_le_mul_of_nonneg_left h3 (by omega)
      omega
    have hsz : S.size ≤ 10 := by rw [← hS, str_size]; exact hds.len
    have HS := hide hS
    have HDS := hide hds
    clear hS hds
    by_cases hgo : 0 < k ∨ D = []
    · have HE := hide (enc_one (k % 10) (Nat.mod_lt _ (by decide)))
      have hr : ((k % 10 : Nat) : Int) = (k : Int) % 10 := by omega
      rw [hr] at HE
      have HADD := hide (fun (W : World) => run_string_add_sum (P := Tryd.prog) (w := W) (strOfNums [48 + (k : Int) % 10]) S (by rw [str_size]; simp; omega))
      have HNS := hide (show strOfNums [48 + (k : Int) % 10] ++ S = strOfNums ((48 + ((k % 10 : Nat) : Int)) :: D) by rw [hr, ← HS.out, str_cons])
      have HST := hide (HDS.out.step hn hgo)
      obtain ⟨S1, hS1⟩ : ∃ S1, strOfNums [48 + (k : Int) % 10] = S1 := ⟨_, rfl⟩
      rw [hS1] at HE HADD HNS
      have he := HE.out
      have hadd := HADD.out
      have HGK := hide hg
      have HHG := hide hgo
      clear HE HADD hS1 hr HG hg HDS hgo
      by_cases hk0 : 0 < k
      · clear HS
        go_wp2
        go_roundg (k / 10)
        case rel => exact ⟨k / 10, _, S1 ++ S, by simp, HST.out, HNS.out.symm, rfl, by first | rfl | go_num, rfl⟩
        case measure => have := HGK.out; omega
      · have hD : D = [] := HHG.out.elim (fun h => absurd h hk0) id
        obtain rfl : k = 0 := by omega
        subst hD
        have hS0 : S = ⟨#[]⟩ := by rw [← HS.out]; rfl
        subst hS0
        clear HS
        have HE2 := hide (show Utf8.encode 48 = S1 from he)
        go_wp2
        go_roundg 0
        case rel => exact ⟨0, _, _, by simp, HST.out, HNS.out.symm, by rw [HE2.out], by first | rfl | go_num, rfl⟩
        case measure => have := HGK.out; simp at this; omega
    · have hD : D ≠ [] := fun h => hgo (Or.inr h)
      obtain rfl : k = 0 := by omega
      have hSn : (S.toList == []) = false := by
        rw [← HS.out, Lib.strOfNums_toList]
        cases D with
        | nil => exact absurd rfl hD
        | cons c t => rfl
      clear hgo hg hk
      have hdv := HDS.out.done
      obtain ⟨kb, hkb⟩ : ∃ kb : Nat, bh % 12 = (kb : Int) := ⟨(bh % 12).toNat, by omega⟩
      have hkb12 : kb < 12 := by omega
      obtain ⟨W1, hW1⟩ : ∃ W1, wr.alloc (.cells #[.string ⟨#[97]⟩, .string ⟨#[40, 97, 41]⟩, .string ⟨#[97, 91, 98, 93]⟩, .string ⟨#[123, 120, 125]⟩, .string ⟨#[34, 99, 34]⟩, .string ⟨#[55]⟩, .string ⟨#[]⟩, .string ⟨#[43]⟩, .string ⟨#[40]⟩, .string ⟨#[32]⟩, .string ⟨#[97, 32]⟩, .string ⟨#[55, 32]⟩] 9) = W1 := ⟨_, rfl⟩
      have hb1 : Below wr.heap.size wr W1 := by rw [← hW1]; exact one_alloc _ _
      have hcA := ah_cell wr kb hkb12
      rw [hW1] at hcA
      have HW1 := hide hW1
      have HB1 := hide hb1
      have hAl := ah_len kb hkb12
      have hAs : (AH kb).size = (ahL kb).length := str_size _
      have hA0 : ((AH kb).size : Int) ≤ 8388608 := by omega
      have hA1 : ((AH kb ++ ⟨#[45]⟩ : ByteArray).size : Int) ≤ 8388608 := by
        rw [ByteArray.size_append, hAs]
        show (((ahL kb).length + 1 : Nat) : Int) ≤ 8388608
        omega
      have hA2 : (S.size : Int) ≤ 8388608 := by omega
      have hDby : ∀ z ∈ D, Byte z := fun z hz => by
        have := dg_ne (HDS.out.dg z hz)
        unfold Byte
        omega
      have C1 := lex8 (HG.out.nx hb1) (AH kb ++ ⟨#[45]⟩ ++ S) (by
        rw [ByteArray.size_append, ByteArray.size_append, hAs]
        show (ahL kb).length + 1 + S.size ≤ maxLen
        unfold maxLen
        omega)
      have hF1 : lexM (numsS (AH kb ++ ⟨#[45]⟩ ++ S)) = (preK kb ++ [⟨1, [], litK kb (n : Int), lastP kb⟩], 0, 0) := by
        rw [numsS_app, numsS_app, ← HS.out, numsS_str hDby, AH, numsS_str (ah_byte kb hkb12), ← hdv, List.append_assoc]
        exact lex_minus HDS.out.dg hD (by omega) (by omega) HDS.out.len kb hkb12
      rw [hF1] at C1
      obtain ⟨P, hP⟩ : ∃ P, (preK kb).length = P := ⟨_, rfl⟩
      have hPl : (preK kb ++ [(⟨1, [], litK kb (n : Int), lastP kb⟩ : Tk)]).length = P + 1 := by rw [List.length_append, hP]; rfl
      obtain ⟨ms, hF2, hM⟩ := lex_begin kb hkb12
      have HC2 : Hid (∀ W, Below wr.heap.size wr W → Calls Tryd.prog 8 #[.string (AH kb)] W fun e w' => (∃ a c, e = .returned (.tuple #[.slice a (mK kb) c, .agg #[.int .i64 0, .int .i64 0, .int .i64 0]])) ∧ Below W.heap.size W w') := fun W h => by
        have := lex8 (HG.out.nx h) (AH kb) (by rw [hAs]; unfold maxLen; omega)
        rw [show numsS (AH kb) = ahL kb from numsS_str (ah_byte kb hkb12), hF2] at this
        refine this.mono ?_
        rintro e w' ⟨⟨a, c, he, -⟩, hb'⟩
        refine ⟨⟨a, c, ?_⟩, hb'⟩
        rw [he, ← hM]
        rfl
      have HC1 : Hid (Calls Tryd.prog 8 #[.string (AH kb ++ ⟨#[45]⟩ ++ S)] W1 fun e w' => (∃ a c, e = .returned (.tuple #[.slice a (P + 1) c, .agg #[.int .i64 0, .int .i64 0, .int .i64 0]]) ∧ TkIn w' a (preK kb ++ [⟨1, [], litK kb (n : Int), lastP kb⟩])) ∧ Below W1.heap.size W1 w') := by
        refine C1.mono ?_
        rintro e w' ⟨⟨a, c, he, htk⟩, hb'⟩
        refine ⟨⟨a, c, ?_, htk⟩, hb'⟩
        rw [he, ← hPl]
        rfl
      have HW7 : Hid (∀ W, Below wr.heap.size wr W → Calls Tryd.prog 7 #[] W fun e w' => e = .returned (.bool true) ∧ Below wr.heap.size wr w') := fun W h => (works7 (HG.out.nx h)).mono fun e w' ⟨he, hb'⟩ => ⟨he, h.trans (hb'.mono h.size)⟩
      have HPK := hide (preK_len kb hkb12)
      rw [hP] at HPK
      have HPP := hide hP
      clear C1 hF1 hF2 hM hP hPl hDby hAl hAs HS HDS hdv HG ms
      go_wp2_with fail
      refine HC1.out.mono ?_
      rintro e w1 ⟨⟨a, c, rfl, htk⟩, hb2⟩
      clear HC1 hcA hSn hA0 hA1 hA2
      have HB2 := hide (HB1.out.trans (hb2.mono HB1.out.size))
      obtain ⟨W2, hW2⟩ : ∃ W2, w1.alloc (.cells #[.int .i64 0, .int .i64 0, .int .i64 0] 26) = W2 := ⟨_, rfl⟩
      have hb3 : Below w1.heap.size w1 W2 := by rw [← hW2]; exact one_alloc _ _
      have r0 : W2.cell? ⟨w1.heap.size, 0, none⟩ = some (.int .i64 0) := by rw [← hW2]; exact cell_new0 w1 _ 26 0 _ rfl
      have hlt2 : w1.heap.size < W2.heap.size := by rw [← hW2]; simp
      have HB3 := hide (HB2.out.trans (hb3.mono HB2.out.size))
      have HTK := hide (htk.next hb3)
      have HC2' := hide (HC2.out W2 HB3.out)
      have HR := hide (And.intro r0 hlt2)
      have HW2 := hide hW2
      clear htk hb2 hb3 r0 hlt2 hW2 HC2 HB1 HW1 hW1 hb1
      go_upto_region 8 with fail
      rw [HW2.out]
      clear HW2
      go_wp2_with fail
      refine HC2'.out.mono ?_
      rintro e w3 ⟨⟨a3, c3, rfl⟩, hb3⟩
      clear HC2'
      obtain ⟨W4, hW4⟩ : ∃ W4, w3.alloc (.cells #[.int .i64 0, .int .i64 0, .int .i64 0] 26) = W4 := ⟨_, rfl⟩
      have hb4 : Below w3.heap.size w3 W4 := by rw [← hW4]; exact one_alloc _ _
      have hb24 := hb3.trans (hb4.mono hb3.size)
      have r0 := (hb24.cell (p := ⟨w1.heap.size, 0, none⟩) HR.out.2).trans HR.out.1
      have HB4 := hide (HB3.out.trans (hb24.mono HB3.out.size))
      have HTK4 := hide (HTK.out.next hb24)
      have HW4 := hide hW4
      clear hb3 hb4 hb24 hW4 HTK HR
      go_upto_region 9 with fail
      rw [HW4.out]
      clear HW4
      rcases HTK4.out.2 with h | ⟨g, off, rfl, hg, hcs⟩
      · cases kb with
        | zero => cases h
        | succ k => exact absurd (congrArg List.length h) (by simp)
      obtain ⟨z1, m1, z2, m2, q0, q1, q2, q3, q4, hA⟩ := hcs P _ (by rw [List.getElem?_append_right (by rw [HPP.out]; omega), HPP.out, Nat.sub_self]; rfl)
      have HMI := hide (show kb < 6 → W4.cell? ⟨g, off + mK kb * 5 + 1, none⟩ = some (.string (strOfNums [45])) from fun h6 => by
        obtain ⟨hp1, t, ht, htt⟩ := HPK.out.1 h6
        obtain ⟨y1, k1, y2, k2, -, p1, -⟩ := hcs (mK kb) t (by rw [List.getElem?_append_left (by rw [HPP.out]; omega)]; exact ht)
        rw [p1, htt])
      have hN8 : P + 1 ≤ 2048 := by
        have := HTK4.out.1
        rw [List.length_append, HPP.out] at this
        exact this
      clear hcs HTK4
      have q0' : W4.cell? ⟨g, off + P * 5, none⟩ = some (.int .i64 1) := q0
      generalize (litK kb (n : Int)).shape.length = n1 at *
      obtain ⟨n2, hn2⟩ : ∃ n2, (litK kb (n : Int)).cells.length = n2 := ⟨_, rfl⟩
      have q1' : W4.cell? ⟨g, off + P * 5 + 1, none⟩ = some (.string ⟨#[]⟩) := q1
      have q3' : W4.cell? ⟨g, off + P * 5 + 3, none⟩ = some (.slice z2 n2 m2) := by rw [← hn2]; exact q3
      have q2' : W4.cell? ⟨g, off + P * 5 + 2, none⟩ = some (.slice z1 n1 m1) := q2
      obtain ⟨lp, hlp⟩ : ∃ lp : Int, (lastP kb : Int) = lp := ⟨_, rfl⟩
      have q4' : W4.cell? ⟨g, off + P * 5 + 4, none⟩ = some (.int .i64 lp) := by rw [← hlp]; exact q4
      have hA' : ArIn 1 0 W4 (litK kb (n : Int)) (.agg #[.slice z1 n1 m1, .slice z2 n2 m2]) := by rw [← hn2]; exact hA
      clear q0 q1 q2 q3 q4 hlp hA
      obtain ⟨W5, hW5⟩ : ∃ W5, W4.alloc (.cells #[.int .i64 1, .string ⟨#[]⟩, .slice z1 n1 m1, .slice z2 n2 m2, .int .i64 lp] 35) = W5 := ⟨_, rfl⟩
      have hb5 : Below W4.heap.size W4 W5 := by rw [← hW5]; exact one_alloc _ _
      have D5 : Wd W5 W4.heap.size 1 ⟨#[]⟩ (.slice z1 n1 m1) (.slice z2 n2 m2) lp := by rw [← hW5]; exact wd_new W4 1 ⟨#[]⟩ _ _ lp
      have HB5 := hide (HB4.out.trans (hb5.mono HB4.out.size))
      have HWK := hide (HW7.out W5 HB5.out)
      have HW5 := hide hW5
      clear hW5 HW7
      generalize hM : mK kb = M at *
      by_cases h11 : kb = 11
      · subst h11
        obtain rfl : P = 0 := HPK.out.2.2 rfl
        obtain rfl : n2 = 2 := by rw [← hn2]; rfl
        obtain ⟨cb, co, rfl, hcb, hcc⟩ := lit_at (l := [7, -(n : Int)]) (hA'.next hb5) rfl (by simp)
        have hc1 : W5.cell? ⟨cb, co + 4, none⟩ = some (.int .i64 (-(n : Int))) := hcc 1 (by simp)
        have p0 : W4.cell? ⟨g, off, none⟩ = some (.int .i64 1) := q0'
        have p1 : W4.cell? ⟨g, off + 1, none⟩ = some (.string ⟨#[]⟩) := q1'
        have p2 : W4.cell? ⟨g, off + 2, none⟩ = some (.slice z1 n1 m1) := q2'
        have p3 : W4.cell? ⟨g, off + 3, none⟩ = some (.slice (some ⟨cb, co, none⟩) 2 m2) := q3'
        have p4 : W4.cell? ⟨g, off + 4, none⟩ = some (.int .i64 lp) := q4'
        clear hcc HMI HPK hA' hb5 q0' q1' q2' q3' q4'
        go_upto_region 12 with fail
        rw [show W4.alloc _ = W5 from HW5.out]
        obtain ⟨dl, t0, t1, t2, t3, t4, dz⟩ := D5
        clear HW5 p0 p1 p2 p3 p4 r0
        go_wp2_with fail
        refine HWK.out.mono ?_
        rintro e w9 ⟨rfl, hb9⟩
        clear HWK
        go_wp2
        go_ret
        exact ⟨rfl, hb9⟩
      · have h11' : ((kb : Int) == 11) = false := beq_eq_false_iff_ne.2 (by omega)
        by_cases h6 : kb < 6
        · obtain ⟨hPM, -⟩ := HPK.out.1 h6
          have hmi := HMI.out h6
          have hlit : litK kb (n : Int) = atomA (n : Int) := by unfold litK; rw [if_neg h11, if_pos h6]
          obtain rfl : n2 = 1 := by rw [← hn2, hlit]; rfl
          obtain ⟨cb, co, rfl, hcb, hcc⟩ := lit_at (l := [(n : Int)]) (hA'.next hb5) (by rw [hlit]; rfl) (by simp)
          have hc1 : W5.cell? ⟨cb, co + 1, none⟩ = some (.int .i64 (n : Int)) := hcc 0 (by simp)
          have hmi5 : W5.cell? ⟨g, off + M * 5 + 1, none⟩ = some (.string ⟨#[45]⟩) := by
            rw [show (⟨#[45]⟩ : ByteArray) = strOfNums [45] by decide +kernel]
            exact (hb5.cell (p := ⟨g, off + M * 5 + 1, none⟩) hg).trans hmi
          have h6' : (kb : Int) < 6 := by omega
          subst hPM
          have hM8 : M + 2 ≤ 2048 := by omega
          clear hcc HMI HPK hA' hb5 hmi hlit hn2
          go_upto_region 12 with fail
          rw [show W4.alloc _ = W5 from HW5.out]
          obtain ⟨dl, t0, t1, t2, t3, t4, dz⟩ := D5
          clear HW5 q0' q1' q2' q3' q4' r0
          go_wp2_with fail
          refine HWK.out.mono ?_
          rintro e w9 ⟨rfl, hb9⟩
          clear HWK
          go_wp2
          go_ret
          exact ⟨rfl, hb9⟩
        · obtain hPM := HPK.out.2.1 (by omega) (by omega)
          have hlit : litK kb (n : Int) = atomA (-(n : Int)) := by unfold litK; rw [if_neg h11, if_neg h6]
          obtain rfl : n2 = 1 := by rw [← hn2, hlit]; rfl
          obtain ⟨cb, co, rfl, hcb, hcc⟩ := lit_at (l := [-(n : Int)]) (hA'.next hb5) (by rw [hlit]; rfl) (by simp)
          have hc1 : W5.cell? ⟨cb, co + 1, none⟩ = some (.int .i64 (-(n : Int))) := hcc 0 (by simp)
          have h6' : ¬ (kb : Int) < 6 := by omega
          subst hPM
          clear hcc HMI HPK hA' hb5 hlit hn2
          go_upto_region 12 with fail
          rw [show W4.alloc _ = W5 from HW5.out]
          obtain ⟨dl, t0, t1, t2, t3, t4, dz⟩ := D5
          clear HW5 q0' q1' q2' q3' q4' r0
          go_wp2_with fail
          refine HWK.out.mono ?_
          rintro e w9 ⟨rfl, hb9⟩
          clear HWK
          go_wp2
          go_ret
          exact ⟨rfl, hb9⟩
theorem laid_met (os : Os) : laidMet Tryd.prog Rows.klexMinusRow.laid ((laidWorld os).forCall (fun _ _ => 0) ⟨#[], #[.int .u32 0, .int .u8 0], []⟩).memory :=
  laidMet_laidAll _ (by kernel_rfl) (by kernel_rfl)
theorem reads (os : Os) {H : Type} (enc : TypeId × Value → H) : ∃ places, DataW.whole enc Tryd.prog ((laidWorld os).forCall (fun _ _ => 0) ⟨#[], #[.int .u32 0, .int .u8 0], []⟩).memory Tryd.f5.params.toList Rows.klexMinusSpec.vars false #[Value.int .u32 0, Value.int .u8 0].toList 8 = some ([.lit (.int .u32 0), .lit (.int .u8 0)], [], places) :=
  ⟨[], by kernel_rfl⟩
set_option maxRecDepth 100000 in
theorem lifted (os : Os) (started : os.Started) (H : Type) (enc : TypeId × Value → H) (F : Stop.Interp) :
    ReturnsInHanded {} Tryd.checked os 5 .any ((OpenSpec.ofChange Rows.klexMinusSpec).preRow enc Tryd.prog Tryd.f5 Rows.klexMinusRow.domain false Rows.klexMinusRow.laid) (((OpenSpec.ofChange Rows.klexMinusSpec).at F).post enc Tryd.prog Tryd.f5 false true false false) := by
  obtain ⟨places, hx⟩ := reads os enc
  refine returnsInHanded_of_row (C := Tryd.checked) (s := OpenSpec.ofChange Rows.klexMinusSpec) own started (by kernel_rfl) Tryd.func5
    (witness_row_at (enc := enc) (C := Tryd.checked) false (laidWorld os) #[.int .u32 0, .int .u8 0] (World.laidAll_os _ _ _) (by kernel_rfl) (by kernel_rfl) (by kernel_rfl)
      (OpenSpec.preRow_of_cond 8 hx (by kernel_rfl) (fun k hk => by cases hk) (by kernel_rfl) (laid_met os))) ?_
  intro W base args ds gs before hval0 hW _ hcond hsz0 hL hsh _
  have hsz : (DataW.weightsEach Tryd.prog (Tryd.f5.params.toList ++ Rows.klexMinusSpec.plain.varTypes Tryd.prog) (ds ++ gs)).all (· ≤ reachBytes) = true := hsz0
  clear hsz0
  have hval : ∀ (j : Nat) t v, Tryd.f5.params[j]? = some t → args[j]? = some v → Value.okWide Tryd.prog W .any base t v := hval0
  have hW' := hW
  obtain ⟨p, q, hA0, hV, rfl, hfz, hnd⟩ := hW
  have hA : DataW.TrodAll enc Tryd.prog W 0 (fun _ => true) true Tryd.f5.params.toList args.toList ds p := hA0
  rw [Tryd.params5] at hA hval hsz
  obtain ⟨v0, vs0, d0, ds0, p0, q0, hargs, rfl, rfl, h0, r0⟩ := trodAll_cons hA
  obtain ⟨v1, vs1, d1, ds1, p1, q1, rfl, rfl, rfl, h1, r1⟩ := trodAll_cons r0
  obtain ⟨rfl, rfl, rfl⟩ := trodAll_nil r1
  obtain rfl : args = #[v0, v1] := by cases args; simp_all
  obtain ⟨rfl, rfl⟩ := trodVars_none hV
  obtain ⟨x0, rfl, rfl, rfl, w0⟩ := open_int Tryd.underlying38 (hval 0 38 v0 rfl rfl) h0
  obtain ⟨x1, rfl, rfl, rfl, w1⟩ := open_int Tryd.underlying5 (hval 1 5 v1 rfl rfl) h1
  clear hA0 hval0
  have hx0 := bounds_u32 w0
  obtain ⟨n0, rfl⟩ : ∃ n0 : Nat, x0 = (n0 : Int) := ⟨x0.toNat, by omega⟩
  refine (walk n0 x1 W (glb_of hL) (by omega) (bounds_u8 w1)).mono fun e W' ⟨he, bel⟩ => ?_
  subst he
  exact ⟨_, rfl, _, _, _, [], _, [], hW', trodAll_mk1 (shut_bool Tryd.underlying4 _), (trodAll_cons_mk (shut_int Tryd.underlying38 w0) (trodAll_cons_mk (shut_int Tryd.underlying5 w1) trodAll_mk0)), rfl, bel.frame _, fun h => by cases h⟩
theorem said : Rows.KlexMinusSaid :=
  OpenClaim.holds_of_cond 5 Tryd.f5 rfl rfl rfl rfl rfl rfl rfl ⟨rfl, rfl, rfl, rfl, rfl⟩ rfl rfl rfl rfl rfl (by kernel_rfl) Tryd.func5 (by kernel_rfl)
    (of_decide_eq_true (by kernel_rfl)) (by unfold Func.isWrapper; first | (rw [if_pos (by decide +kernel)]; kernel_rfl) | (rw [if_neg (by decide +kernel)]; exact ⟨rfl, rfl⟩))
    (fun os started H enc _ F => by rw [OpenClaim.pre_eq_preRow]; exact lifted os started H enc F)
theorem plain (f : FuncId) (fn : Func) (hf : Tryd.pinned.checked.prog.funcNamed "triglyph/triglyphlaw14.KlexMinus" = some f) (hfn : Tryd.pinned.checked.prog.funcs[f]? = some fn) :
    true = Tryd.pinned.checked.prog.looks [] ∧ ∀ (j : Nat) t, fn.params[j]? = some t → Tryd.pinned.checked.prog.wantsStandIn t = false := by
  obtain rfl : f = 5 := Option.some.inj ((show Tryd.prog.funcNamed "triglyph/triglyphlaw14.KlexMinus" = some 5 by kernel_rfl).symm.trans hf) |>.symm
  obtain rfl : fn = Tryd.f5 := (Option.some.inj (Tryd.func5.symm.trans hfn)).symm
  refine ⟨by kernel_rfl, fun j t ht => ?_⟩
  rw [Tryd.params5] at ht
  have hm : t = 38 ∨ t = 5 := by simpa using Array.mem_of_getElem? ht
  rcases hm with rfl | rfl
  · exact (show Tryd.prog.wantsStandIn 38 = false by kernel_rfl)
  · exact (show Tryd.prog.wantsStandIn 5 = false by kernel_rfl)
theorem proved : Rows.KlexMinusCardSaid :=
  Claim7.holds_tied_plain_at .later [] _ _ _ _ said (fun _ h => by cases h) (by kernel_rfl) (fun _ h => by cases h) klexMinus_row_tie rfl ⟨rfl, rfl⟩ (by kernel_rfl) rfl plain (by kernel_rfl)
end Go.Proofs.YtljanfmmhglpiaaDoor.klexMinus
namespace Go.Proofs.YtljanfmmhglpiaaDoor
theorem klexMinus_holds : Rows.KlexMinusCardSaid := klexMinus.proved
#print axioms klexMinus_holds
end Go.Proofs.YtljanfmmhglpiaaDoor
