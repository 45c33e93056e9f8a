/-
  The trial run of layer 16's statements; a number as a text, both ways.
  How long a program's text can be: at most a thousand bytes a node or cell, where no name is longer than twenty bytes and no text of the grammar longer than a hundred. No program is named.
  What a call of layer 16's statements is told of the package-level variables: they lie as their texts lay them; a world for the witness.
  What a call of layer 16's statements is told of a grammar that came in: three rows of texts, eight texts of a machine's size, three truths; no condition.
-/
import Derived.Test.YtneblkdkhlgmcaaDoorM7
import Derived.Shelf.Strconv.Itoa4
import Derived.Test.YtneblkdkhlgmcaaDoorProg
import Derived.WalkKit
import Derived.Test.YtneblkdkhlgmcaaDoorChecked
import GoSem.Claim
import GoSem.ClaimJoined
import GoSem.ClaimMapViews
import Derived.JoinedTies
import Derived.KernelRfl
import Derived.ProofKit
import Derived.Below
import Derived.Deep.OwnRows
import Derived.Deep.QuietTactic
import Derived.BigQuiet
import Derived.Deep.RegionWith
import Derived.Lib.AppendIntMem
import Derived.Lib.ConvBytes
import Derived.Lib.Builder
import Derived.Lib.AppendStr
import Derived.Lib.UnsafeStr
import Derived.Deep.LoopGhost
import Derived.Deep.RegionHeld3
import Derived.Lib.MakeNoZero
import Derived.Laws.MakeOwn
import Derived.Laws.BitsAllLaws
import Derived.Lib.Bits
import Derived.Deep.Cut
import Derived.Deep.MidRow
import Derived.OpenShut
import Derived.ChangeOld
import Derived.SizedLaws
import Derived.Deep.Slices
import Derived.Deep.Strs
import Derived.Deep.RegionLaw
import GoSem.ClaimSeven
import Derived.LaidByTextLater
import Derived.SevenTiedAt
import Derived.LaidSub
import Derived.LaidOnce
import Derived.Deep.DeepHandedRow
import Derived.Lib.LaidTab
import Derived.Lay
namespace Go.Proofs.YtneblkdkhlgmcaaDoor
open Go.ChangeShapes Go.WideShapes Go.ChangeAt Go.RowKit
set_option maxRecDepth 100000
set_option linter.unusedVariables false
set_option linter.unusedSimpArgs false
theorem dd (i : Nat) (h : i < 10) : Lib.decDigits i = [UInt8.ofNat (48 + i)] := Lib.decDigits_one h
def xA : Ar := numsA [1, -2]
def xB : Nd := .mk 5 0 noS noA [.mk 21 0 ⟨#[105, 46]⟩ noA [] 0, litD (atomA 3)] 0
def xZ : Nd := .mk 0 0 noS noA [] 0
theorem litA (s1 s2 s3 : Value) : litE xA = 0 ∧ litS (aplS s1 s2 s3) xA = [49, 32, 194, 175, 50] := by
  have hb : litB xA = true := by kernel_rfl
  have ht : txB xA = false := by kernel_rfl
  unfold litE litS litT
  rw [hb, ht]
  refine ⟨rfl, ?_⟩
  have e1 : numT 1 (aplS s1 s2 s3).minus.data.toList = [49] := by
    unfold numT
    rw [if_neg (by decide)]
    exact dd 1 (by decide)
  have e2 : numT (-2) (aplS s1 s2 s3).minus.data.toList = [194, 175, 50] := by
    unfold numT
    rw [if_pos (by decide), show (-2 : Int).natAbs = 2 from rfl, dd 2 (by decide)]
    rfl
  have e3 : numW (aplS s1 s2 s3).minus xA.cells = [str [49], str [194, 175, 50]] := by
    show [str (numT 1 (aplS s1 s2 s3).minus.data.toList), str (numT (-2) (aplS s1 s2 s3).minus.data.toList)] = _
    rw [e1, e2]
  rw [e3]
  rfl
theorem wrA (s1 s2 s3 : Value) : wrB (jS s1 s2 s3) 2 xB = true ∧ (TX (jS s1 s2 s3) 2).E (jS s1 s2 s3).right xB = [105, 46, 32, 51] := by
  refine ⟨by kernel_rfl, ?_⟩
  have e1 : numT 3 (jS s1 s2 s3).minus.data.toList = [51] := by
    unfold numT
    rw [if_neg (by decide)]
    exact dd 3 (by decide)
  have e2 : litT (jS s1 s2 s3) (atomA 3) = [51] := by
    unfold litT
    rw [show txB (atomA 3) = false from by kernel_rfl]
    have e3 : numW (jS s1 s2 s3).minus (atomA 3).cells = [str [51]] := by
      show [str (numT 3 (jS s1 s2 s3).minus.data.toList)] = _
      rw [e1]
    rw [e3]
    rfl
  show [105, 46] ++ ([32] ++ litT (jS s1 s2 s3) (atomA 3)) = _
  rw [e2]
  rfl
theorem wrZ (s1 s2 s3 : Value) : wrB (kS s1 s2 s3) 1 xZ = false := by kernel_rfl
theorem numM : numT (-5) [95] = [95, 53] := by
  unfold numT
  rw [if_pos (by decide), show (-5 : Int).natAbs = 5 from rfl, dd 5 (by decide)]
  rfl
theorem sndA_mk {x : Nd} (h1 : I64 x.op) (h2 : x.lit.cells.length ≤ 100000) (h3 : ∀ i, i < x.lit.cells.length → I64 (cAt x.lit.cells i).2.1) (h4 : ∀ i, i < x.kids.length → sndA (kp x i)) : sndA x := fun m => by
  cases m with
  | zero => trivial
  | succ m => exact ⟨h1, h2, h3, fun i hi => h4 i hi m⟩
theorem sndZ : sndA xZ := sndA_mk (by unfold I64; decide) (by decide) (fun i hi => absurd hi (by simp [xZ, noA, Nd.lit, Ar.cells])) (fun i hi => absurd hi (by simp [xZ, Nd.kids]))
theorem sndP : sndA (.mk 21 0 ⟨#[105, 46]⟩ noA [] 0) := sndA_mk (by unfold I64; decide) (by decide) (fun i hi => absurd hi (by simp [noA, Nd.lit, Ar.cells])) (fun i hi => absurd hi (by simp [Nd.kids]))
theorem sndL : sndA (litD (atomA 3)) := sndA_mk (by unfold I64; decide) (by decide) (fun i hi => by
  have h0 : i = 0 := by have : i < 1 := hi; omega
  subst h0
  unfold I64
  decide) (fun i hi => absurd hi (by simp [litD, Nd.kids]))
theorem sndB : sndA xB := sndA_mk (by unfold I64; decide) (by decide) (fun i hi => absurd hi (by simp [xB, noA, Nd.lit, Ar.cells])) (fun i hi => by
  have h2 : i < 2 := hi
  rcases (by omega : i = 0 ∨ i = 1) with rfl | rfl
  · exact sndP
  · exact sndL)
theorem leaf0 (w : World) : NdIn 1 1 0 w (.mk 21 0 ⟨#[105, 46]⟩ noA [] 0) (.agg #[.int .i64 21, .int .i64 0, .string ⟨#[105, 46]⟩, .slice none 0 0, .slice none 0 0, .slice none 0 0, .int .i64 0]) :=
  ⟨none, 0, none, 0, none, 0, rfl, noA_in 0 0 _, by decide, by decide, Or.inl rfl⟩
theorem row2 (w : World) : Row 0 (w.alloc (.cells #[.int .i64 1, .int .i64 (-2)] 2)) (some ⟨w.heap.size, 0, none⟩) [1, -2] := by
  refine ⟨by decide, Or.inr ⟨w.heap.size, 0, rfl, Nat.zero_le _, by simp, fun i hi => ?_⟩⟩
  have h2 : i < 2 := hi
  rcases (by omega : i = 0 ∨ i = 1) with rfl | rfl
  · exact cell_new0 w _ 2 0 _ rfl
  · exact cell_new0 w _ 2 1 _ rfl
set_option maxHeartbeats 8000000 in
theorem works7 {w : World} (T : Rn.Tab w) (P : Pw w) : Calls Tryd.prog 7 #[] w fun e w' => e = .returned (.bool true) ∧ Below w.heap.size w w' := by
  have HT : Hid (∀ W, Below w.heap.size w W → Rn.Tab W ∧ Pw W) := hide fun W hW => ⟨T.below hW T.1, Lib.tabBelow_of_tabIs P _ hW⟩
  have HA := hide (fun W => rnums_any (lo := 0) 0 [1, -2] (some ⟨w.heap.size, 0, none⟩) 2 W)
  have HR := hide (row2 w)
  have HB1 := hide (alloc_one w (.cells #[.int .i64 1, .int .i64 (-2)] 2))
  clear T P
  go_enter Tryd.func7, Tryd.ntmps7
  go_wp2_with fail
  refine (HA.out _ HR.out (by decide)).mono ?_
  rintro e w2 ⟨⟨v2, rfl, hx2⟩, hb2⟩
  have HB2 := hide (HB1.out.trans (hb2.mono HB1.out.size))
  have HX2 := hide hx2
  clear hx2 hb2 HA HR HB1
  go_wp2_with fail
  refine aplS17.mono ?_
  rintro e w3 ⟨a1, c1, d1, a2, c2, d2, a3, c3, d3, rfl, hb3⟩
  have HX3 := hide (HX2.out.next hb3)
  have HB3 := hide (HB2.out.trans (hb3.mono HB2.out.size))
  obtain ⟨GA, hGA⟩ : ∃ GA, aplS (.slice a1 c1 d1) (.slice a2 c2 d2) (.slice a3 c3 d3) = GA := ⟨_, rfl⟩
  have HL := hide (lit15 (G := GA) HX3.out (by decide) (fun i hi => by
    have h2 : i < 2 := hi
    rcases (by omega : i = 0 ∨ i = 1) with rfl | rfl <;> (unfold I64; decide)) (by rw [← hGA]; show ByteArray.size ⟨#[194, 175]⟩ ≤ _; decide) (by rw [← hGA]; show ByteArray.size ⟨#[39]⟩ ≤ _; decide) (HT.out _ HB3.out).1 (HT.out _ HB3.out).2)
  have hla := litA (.slice a1 c1 d1) (.slice a2 c2 d2) (.slice a3 c3 d3)
  rw [hGA] at hla ⊢
  have HLA : Hid (litE (numsA [1, -2]) = 0 ∧ litS GA (numsA [1, -2]) = [49, 32, 194, 175, 50]) := hide hla
  clear hGA hla hb3 HX2 HB2
  go_wp2_with fail
  refine HL.out.mono ?_
  rintro e w4 ⟨rfl, hb4⟩
  rw [HLA.out.1, HLA.out.2]
  have HB4 := hide (HB3.out.trans (hb4.mono HB3.out.size))
  clear hb4 HL HLA HX3 HB3
  go_wp2_with fail
  refine jS18.mono ?_
  rintro e w5 ⟨b1, e1, f1, b2, e2, f2, b3, e3, f3, rfl, hb5⟩
  have HB5 := hide (HB4.out.trans (hb5.mono HB4.out.size))
  clear hb5 HB4
  obtain ⟨GJ, hGJ⟩ : ∃ GJ, jS (.slice b1 e1 f1) (.slice b2 e2 f2) (.slice b3 e3 f3) = GJ := ⟨_, rfl⟩
  rw [hGJ]
  go_wp2_with fail
  refine (ratom_any 0 3 w5).mono ?_
  rintro e w6 ⟨⟨v6, rfl, hx6⟩, hb6⟩
  have HX6 := hide hx6
  have HB6 := hide (HB5.out.trans (hb6.mono HB5.out.size))
  clear hx6 hb6 HB5
  go_wp2_with fail
  refine (lit30 0 1 (atomA 3) v6 w6 (by
    have h := HX6.out
    exact h.mono (Nat.zero_le _) (Below.refl _ _))).mono ?_
  rintro e w7 ⟨⟨v7, rfl, hx7⟩, hb7⟩
  have HB7 := hide (HB6.out.trans (hb7.mono HB6.out.size))
  have HX7 := hide hx7
  obtain ⟨la1, lc1, la2, lc2, lak, lck, hv, -⟩ := hx7
  change v7 = .agg #[.int .i64 1, .int .i64 0, .string ⟨#[]⟩, .slice la1 0 lc1, .slice la2 1 lc2, .slice lak 0 lck, .int .i64 0] at hv
  subst hv
  have hb8 := alloc_one w7 (.cells #[.int .i64 21, .int .i64 0, .string ⟨#[105, 46]⟩, .slice none 0 0, .slice none 0 0, .slice none 0 0, .int .i64 0, .int .i64 1, .int .i64 0, .string ⟨#[]⟩, .slice la1 0 lc1, .slice la2 1 lc2, .slice lak 0 lck, .int .i64 0] 34)
  have HN : Hid (NdIn 2 1 0 (w7.alloc (.cells #[.int .i64 21, .int .i64 0, .string ⟨#[105, 46]⟩, .slice none 0 0, .slice none 0 0, .slice none 0 0, .int .i64 0, .int .i64 1, .int .i64 0, .string ⟨#[]⟩, .slice la1 0 lc1, .slice la2 1 lc2, .slice lak 0 lck, .int .i64 0] 34)) xB (.agg #[.int .i64 5, .int .i64 0, .string ⟨#[]⟩, .slice none 0 0, .slice none 0 0, .slice (some ⟨w7.heap.size, 0, none⟩) 2 2, .int .i64 0])) := hide (by
    refine ⟨none, 0, none, 0, some ⟨w7.heap.size, 0, none⟩, 2, rfl, noA_in 0 0 _, by decide, by decide, Or.inr ⟨w7.heap.size, 0, rfl, Nat.zero_le _, by simp, fun j hj => ?_⟩⟩
    have h2 : j < 2 := hj
    rcases (by omega : j = 0 ∨ j = 1) with rfl | rfl
    · refine ⟨none, 0, none, 0, none, 0, ⟨?_, ?_, ?_, ?_, ?_, ?_, ?_⟩, leaf0 _⟩
      · exact cell_new0 w7 #[.int .i64 21, .int .i64 0, .string ⟨#[105, 46]⟩, .slice none 0 0, .slice none 0 0, .slice none 0 0, .int .i64 0, .int .i64 1, .int .i64 0, .string ⟨#[]⟩, .slice la1 0 lc1, .slice la2 1 lc2, .slice lak 0 lck, .int .i64 0] 34 0 _ rfl
      · exact cell_new0 w7 #[.int .i64 21, .int .i64 0, .string ⟨#[105, 46]⟩, .slice none 0 0, .slice none 0 0, .slice none 0 0, .int .i64 0, .int .i64 1, .int .i64 0, .string ⟨#[]⟩, .slice la1 0 lc1, .slice la2 1 lc2, .slice lak 0 lck, .int .i64 0] 34 1 _ rfl
      · exact cell_new0 w7 #[.int .i64 21, .int .i64 0, .string ⟨#[105, 46]⟩, .slice none 0 0, .slice none 0 0, .slice none 0 0, .int .i64 0, .int .i64 1, .int .i64 0, .string ⟨#[]⟩, .slice la1 0 lc1, .slice la2 1 lc2, .slice lak 0 lck, .int .i64 0] 34 2 _ rfl
      · exact cell_new0 w7 #[.int .i64 21, .int .i64 0, .string ⟨#[105, 46]⟩, .slice none 0 0, .slice none 0 0, .slice none 0 0, .int .i64 0, .int .i64 1, .int .i64 0, .string ⟨#[]⟩, .slice la1 0 lc1, .slice la2 1 lc2, .slice lak 0 lck, .int .i64 0] 34 3 _ rfl
      · exact cell_new0 w7 #[.int .i64 21, .int .i64 0, .string ⟨#[105, 46]⟩, .slice none 0 0, .slice none 0 0, .slice none 0 0, .int .i64 0, .int .i64 1, .int .i64 0, .string ⟨#[]⟩, .slice la1 0 lc1, .slice la2 1 lc2, .slice lak 0 lck, .int .i64 0] 34 4 _ rfl
      · exact cell_new0 w7 #[.int .i64 21, .int .i64 0, .string ⟨#[105, 46]⟩, .slice none 0 0, .slice none 0 0, .slice none 0 0, .int .i64 0, .int .i64 1, .int .i64 0, .string ⟨#[]⟩, .slice la1 0 lc1, .slice la2 1 lc2, .slice lak 0 lck, .int .i64 0] 34 5 _ rfl
      · exact cell_new0 w7 #[.int .i64 21, .int .i64 0, .string ⟨#[105, 46]⟩, .slice none 0 0, .slice none 0 0, .slice none 0 0, .int .i64 0, .int .i64 1, .int .i64 0, .string ⟨#[]⟩, .slice la1 0 lc1, .slice la2 1 lc2, .slice lak 0 lck, .int .i64 0] 34 6 _ rfl
    · refine ⟨la1, lc1, la2, lc2, lak, lck, ⟨?_, ?_, ?_, ?_, ?_, ?_, ?_⟩, HX7.out.next hb8⟩
      · exact cell_new0 w7 #[.int .i64 21, .int .i64 0, .string ⟨#[105, 46]⟩, .slice none 0 0, .slice none 0 0, .slice none 0 0, .int .i64 0, .int .i64 1, .int .i64 0, .string ⟨#[]⟩, .slice la1 0 lc1, .slice la2 1 lc2, .slice lak 0 lck, .int .i64 0] 34 7 _ rfl
      · exact cell_new0 w7 #[.int .i64 21, .int .i64 0, .string ⟨#[105, 46]⟩, .slice none 0 0, .slice none 0 0, .slice none 0 0, .int .i64 0, .int .i64 1, .int .i64 0, .string ⟨#[]⟩, .slice la1 0 lc1, .slice la2 1 lc2, .slice lak 0 lck, .int .i64 0] 34 8 _ rfl
      · exact cell_new0 w7 #[.int .i64 21, .int .i64 0, .string ⟨#[105, 46]⟩, .slice none 0 0, .slice none 0 0, .slice none 0 0, .int .i64 0, .int .i64 1, .int .i64 0, .string ⟨#[]⟩, .slice la1 0 lc1, .slice la2 1 lc2, .slice lak 0 lck, .int .i64 0] 34 9 _ rfl
      · exact cell_new0 w7 #[.int .i64 21, .int .i64 0, .string ⟨#[105, 46]⟩, .slice none 0 0, .slice none 0 0, .slice none 0 0, .int .i64 0, .int .i64 1, .int .i64 0, .string ⟨#[]⟩, .slice la1 0 lc1, .slice la2 1 lc2, .slice lak 0 lck, .int .i64 0] 34 10 _ rfl
      · exact cell_new0 w7 #[.int .i64 21, .int .i64 0, .string ⟨#[105, 46]⟩, .slice none 0 0, .slice none 0 0, .slice none 0 0, .int .i64 0, .int .i64 1, .int .i64 0, .string ⟨#[]⟩, .slice la1 0 lc1, .slice la2 1 lc2, .slice lak 0 lck, .int .i64 0] 34 11 _ rfl
      · exact cell_new0 w7 #[.int .i64 21, .int .i64 0, .string ⟨#[105, 46]⟩, .slice none 0 0, .slice none 0 0, .slice none 0 0, .int .i64 0, .int .i64 1, .int .i64 0, .string ⟨#[]⟩, .slice la1 0 lc1, .slice la2 1 lc2, .slice lak 0 lck, .int .i64 0] 34 12 _ rfl
      · exact cell_new0 w7 #[.int .i64 21, .int .i64 0, .string ⟨#[105, 46]⟩, .slice none 0 0, .slice none 0 0, .slice none 0 0, .int .i64 0, .int .i64 1, .int .i64 0, .string ⟨#[]⟩, .slice la1 0 lc1, .slice la2 1 lc2, .slice lak 0 lck, .int .i64 0] 34 13 _ rfl)
  have HB8 := hide (HB7.out.trans (hb8.mono HB7.out.size))
  have hwa := wrA (.slice b1 e1 f1) (.slice b2 e2 f2) (.slice b3 e3 f3)
  have HW := hide (write11 (G := GJ) HN.out sndB (HT.out _ HB8.out).1 (HT.out _ HB8.out).2 (by rw [← hGJ]; show ByteArray.size ⟨#[95]⟩ ≤ _; decide) (by rw [← hGJ]; show ByteArray.size ⟨#[39]⟩ ≤ _; decide) (fun _ => by rw [← hGJ, hwa.2]; decide) (by rw [← hGJ]; exact ⟨_, _, _, rfl⟩) (by rw [← hGJ]; exact ⟨_, _, _, rfl⟩) (by rw [← hGJ]; exact ⟨_, _, _, rfl⟩))
  rw [hGJ] at hwa
  have HWA : Hid (wrS GJ 2 xB = [105, 46, 32, 51] ∧ wrE GJ 2 xB = 0) := hide (by
    unfold wrS wrE
    rw [hwa.1]
    exact ⟨hwa.2, rfl⟩)
  clear hb7 HX7 hb8 hwa hGJ HN HX6 HB6 HB7
  go_wp2_with fail
  refine HW.out.mono ?_
  rintro e w9 ⟨rfl, hb9⟩
  rw [HWA.out.1, HWA.out.2]
  have HB9 := hide (HB8.out.trans (hb9.mono HB8.out.size))
  clear hb9 HW HWA HB8
  go_wp2_with fail
  refine kS21.mono ?_
  rintro e w10 ⟨g1, h1, i1, g2, h2, i2, g3, h3, i3, rfl, hb10⟩
  have HB10 := hide (HB9.out.trans (hb10.mono HB9.out.size))
  clear hb10 HB9
  obtain ⟨GK, hGK⟩ : ∃ GK, kS (.slice g1 h1 i1) (.slice g2 h2 i2) (.slice g3 h3 i3) = GK := ⟨_, rfl⟩
  rw [hGK]
  have hwz := wrZ (.slice g1 h1 i1) (.slice g2 h2 i2) (.slice g3 h3 i3)
  rw [hGK] at hwz
  have HZI : Hid (NdIn 1 1 0 w10 xZ (.agg #[.int .i64 0, .int .i64 0, .string ⟨#[]⟩, .slice none 0 0, .slice none 0 0, .slice none 0 0, .int .i64 0])) := hide ⟨none, 0, none, 0, none, 0, rfl, noA_in 0 0 _, by decide, by decide, Or.inl rfl⟩
  have HW := hide (write11 (G := GK) HZI.out sndZ (HT.out _ HB10.out).1 (HT.out _ HB10.out).2 (by rw [← hGK]; show ByteArray.size ⟨#[45]⟩ ≤ _; decide) (by rw [← hGK]; show ByteArray.size ⟨#[34]⟩ ≤ _; decide) (fun h => by rw [hwz] at h; cases h) (by rw [← hGK]; exact ⟨_, _, _, rfl⟩) (by rw [← hGK]; exact ⟨_, _, _, rfl⟩) (by rw [← hGK]; exact ⟨_, _, _, rfl⟩))
  have HWA : Hid (wrS GK 1 xZ = [] ∧ wrE GK 1 xZ = 1) := hide (by
    unfold wrS wrE
    rw [hwz]
    exact ⟨rfl, rfl⟩)
  clear hGK hwz HZI
  go_wp2_with fail
  refine HW.out.mono ?_
  rintro e w11 ⟨rfl, hb11⟩
  rw [HWA.out.1, HWA.out.2]
  have HB11 := hide (HB10.out.trans (hb11.mono HB10.out.size))
  have HN := hide (num5 (-5) ⟨#[95]⟩ (by decide) (by decide) (by decide) w11 (HT.out _ HB11.out).2)
  clear hb11 HW HWA HB10
  change _ at HN
  have hs1 : str [49, 32, 194, 175, 50] = ⟨#[49, 32, 194, 175, 50]⟩ := rfl
  have hs2 : str [105, 46, 32, 51] = ⟨#[105, 46, 32, 51]⟩ := rfl
  rw [hs1, hs2]
  clear hs1 hs2
  go_wp2_with fail
  refine HN.out.mono ?_
  rintro e w12 ⟨rfl, hb12⟩
  rw [numM]
  have HB12 := hide (HB11.out.trans (hb12.mono HB11.out.size))
  clear hb12 HN HB11
  go_wp2
  go_ret
  exact ⟨rfl, HB12.out⟩
end Go.Proofs.YtneblkdkhlgmcaaDoor
namespace Go.Proofs.YtneblkdkhlgmcaaDoor
open Go.ChangeShapes Go.WideShapes Go.ChangeAt Go.RowKit
set_option maxRecDepth 100000
set_option linter.unusedVariables false
set_option linter.unusedSimpArgs false
/-- A grammar's texts are no longer than a hundred bytes. -/
structure Hg (G : Gs) : Prop where
  h1 : G.minus.size ≤ 100
  h2 : G.quote.size ≤ 100
  h3 : G.outer.size ≤ 100
  h4 : G.power.size ≤ 100
  h5 : G.opn.size ≤ 100
  h6 : G.cls.size ≤ 100
  h7 : G.left.size ≤ 100
  h8 : G.right.size ≤ 100
theorem bl_len (s : ByteArray) : (bL s).length = s.size := by simp [bL]
theorem lit_len {G : Gs} (H : Hg G) {x : Ar} (h64 : ∀ i, i < x.cells.length → I64 (cAt x.cells i).2.1) : (litT G x).length ≤ 200 + 121 * x.cells.length := by
  unfold litT
  have hq : G.quote.data.toList.length = G.quote.size := by simp
  have h2 := H.h2
  split
  · have e1 : (u8 (Rn.enc (gl G.quote x.cells))).length = (Rn.enc (gl G.quote x.cells)).length := by simp [u8]
    have e2 := (Rn.enc_len (gl G.quote x.cells)).2
    have e3 := gl_len G.quote x.cells
    rw [List.length_append, List.length_append, e1]
    omega
  · have h := pT_len false (numW G.minus x.cells) 120 (fun s hs => by
      unfold numW at hs
      obtain ⟨c, hc, rfl⟩ := List.mem_map.1 hs
      obtain ⟨i, hi, rfl⟩ := List.getElem_of_mem hc
      have e : cAt x.cells i = x.cells[i] := by simp [cAt, hi]
      have h6 := h64 i hi
      rw [e] at h6
      have hn := numT_len x.cells[i].2.1 G.minus.data.toList h6.1 h6.2
      have hm : G.minus.data.toList.length = G.minus.size := by simp
      have h1 := H.h1
      show (str _).data.size ≤ 120
      simp only [str, List.size_toArray]
      omega)
    have e : (numW G.minus x.cells).length = x.cells.length := by simp [numW]
    rw [e] at h
    omega
theorem num_len {G : Gs} (H : Hg G) {z : Int} (h : I64 z) : (numT z (bL G.minus)).length ≤ 120 := by
  have := numT_len z (bL G.minus) h.1 h.2
  have := H.h1
  have := bl_len G.minus
  omega
theorem rd_len (s : List UInt8) : (rdT s).length = s.length + 4 := by simp [rdT]
theorem ap_len (F : Nd → List UInt8) (x : Nd) : (apF F x).length ≤ (F x).length + 4 := by
  unfold apF
  split
  · rw [rd_len]; omega
  · omega
theorem wN_kid {m : Nat} {x : Nd} (i : Nat) (hi : i < x.kids.length) : wN m (kp x i) + 1 ≤ wN (m + 1) x := by
  have h := sumUp_one (f := fun i => wN m (nAt x.kids i)) hi
  show wN m (nAt x.kids i) + 1 ≤ 1 + x.lit.cells.length + sumUp (fun i => wN m (nAt x.kids i)) x.kids.length
  have h0 : wN m (nAt x.kids i) ≤ sumUp (fun i => wN m (nAt x.kids i)) i + wN m (nAt x.kids i) := Nat.le_add_left _ _
  omega
theorem wN_1 {m : Nat} {x : Nd} (h : x.kids.length = 1) : 1 + x.lit.cells.length + wN m (kp x 0) = wN (m + 1) x := by
  show _ = 1 + x.lit.cells.length + sumUp (fun i => wN m (nAt x.kids i)) x.kids.length
  rw [h]
  simp only [sumUp, kp]
  omega
theorem wN_2 {m : Nat} {x : Nd} (h : x.kids.length = 2) : 1 + x.lit.cells.length + wN m (kp x 0) + wN m (kp x 1) = wN (m + 1) x := by
  show _ = 1 + x.lit.cells.length + sumUp (fun i => wN m (nAt x.kids i)) x.kids.length
  rw [h]
  simp only [sumUp, kp]
  omega
theorem wN_3 {m : Nat} {x : Nd} (h : x.kids.length = 3) : 1 + x.lit.cells.length + wN m (kp x 0) + wN m (kp x 1) + wN m (kp x 2) = wN (m + 1) x := by
  show _ = 1 + x.lit.cells.length + sumUp (fun i => wN m (nAt x.kids i)) x.kids.length
  rw [h]
  simp only [sumUp, kp]
  omega
theorem wN_deeper {m : Nat} {f : Bool} {x : Nd} (h : okN m f x) : wN (m + 1) x = wN m x := by
  induction m generalizing f x with
  | zero => exact h.elim
  | succ m ih =>
    show 1 + x.lit.cells.length + sumUp (fun i => wN (m + 1) (nAt x.kids i)) x.kids.length = 1 + x.lit.cells.length + sumUp (fun i => wN m (nAt x.kids i)) x.kids.length
    have e : sumUp (fun i => wN (m + 1) (nAt x.kids i)) x.kids.length = sumUp (fun i => wN m (nAt x.kids i)) x.kids.length := sumUp_congr (fun i hi => ih (h.2.2.2 i hi))
    rw [e]
theorem nm_deeper {m : Nat} {f : Bool} {x : Nd} (h : okN m f x) (hn : nmN m x) : nmN (m + 1) x := by
  induction m generalizing f x with
  | zero => exact h.elim
  | succ m ih => exact ⟨hn.1, fun i hi => ih (h.2.2.2 i hi) (hn.2 i hi)⟩
/-- At most a thousand bytes a node or cell. -/
theorem tx_len {G : Gs} (H : Hg G) (m : Nat) : ∀ x f, okN m f x → sndA x → nmN m x →
    (f = true → ((TX G m).F x).length ≤ 1000 * wN m x) ∧ (f = false → ∀ rt : ByteArray, rt.size ≤ 100 → ((TX G m).E rt x).length ≤ 1000 * wN m x ∧ ((TX G m).O rt x).length ≤ 1000 * wN m x) := by
  induction m with
  | zero => intro x f h; exact h.elim
  | succ m ih =>
    intro x f hk hs hn
    have hkk := hk.1
    have hop := hs.op
    have hsn := hs 1
    have hnm := hn.1
    have hNL := num_len H hop
    obtain ⟨h1, h2, h3, h4, h5, h6, h7, h8⟩ := H
    have H : Hg G := ⟨h1, h2, h3, h4, h5, h6, h7, h8⟩
    have KF : ∀ i, i < x.kids.length → fnP x.kind i = true → ((TX G m).F (kp x i)).length ≤ 1000 * wN m (kp x i) := fun i hi hf => (ih (kp x i) (fnP x.kind i) (hk.2.2.2 i hi) (hs.kid hi) (hn.2 i hi)).1 hf
    have KE : ∀ i, i < x.kids.length → fnP x.kind i = false → ∀ rt : ByteArray, rt.size ≤ 100 → ((TX G m).E rt (kp x i)).length ≤ 1000 * wN m (kp x i) ∧ ((TX G m).O rt (kp x i)).length ≤ 1000 * wN m (kp x i) := fun i hi hf => (ih (kp x i) (fnP x.kind i) (hk.2.2.2 i hi) (hs.kid hi) (hn.2 i hi)).2 hf
    have ha0 : 0 ≤ arK x.kind := by omega
    refine ⟨fun hf => ?_, fun hf rt hrt => ?_⟩
    · subst hf
      have h21 : 21 ≤ x.kind := by have := hk.2.1; simpa using this.symm
      show (fnT G (TX G m) x).length ≤ 1000 * wN (m + 1) x
      rcases ar_kinds ha0 with hK | hK | hK | hK | hK | hK | hK | hK | hK | hK | hK | hK | hK | hK | hK
      all_goals try (exfalso; omega)
      · have e : fnT G (TX G m) x = bL x.name := by simp [fnT, hK]
        rw [e, bl_len]
        show x.name.size ≤ 1000 * (1 + _ + _)
        omega
      all_goals (rw [hK] at hkk; simp only [show arK 22 = 1 from rfl, show arK 23 = 1 from rfl, show arK 24 = 1 from rfl, show arK 25 = 1 from rfl, show arK 26 = 1 from rfl, show arK 27 = 3 from rfl, show arK 28 = 2 from rfl] at hkk)
      · have e : fnT G (TX G m) x = bL G.opn ++ ([32] ++ (TX G m).E (if G.lone = true then G.left else G.right) (kp x 0)) ++ ([32] ++ bL G.cls) := by simp [fnT, hK]
        rw [e]
        have hr : ByteArray.size (if G.lone = true then G.left else G.right) ≤ 100 := by split <;> assumption
        have k0 := (KE 0 (by omega) (by rw [hK]; rfl) _ hr).1
        have hw := wN_1 (m := m) (x := x) (by omega)
        simp only [List.length_append, List.length_cons, List.length_nil, bl_len]
        omega
      · have e : fnT G (TX G m) x = bL G.opn ++ ([32] ++ (TX G m).E G.right (kp x 0)) ++ ([32] ++ bL G.cls) := by simp [fnT, hK]
        rw [e]
        have k0 := (KE 0 (by omega) (by rw [hK]; rfl) _ h8).1
        have hw := wN_1 (m := m) (x := x) (by omega)
        simp only [List.length_append, List.length_cons, List.length_nil, bl_len]
        omega
      · have e : fnT G (TX G m) x = (TX G m).F (kp x 0) ++ bL x.name := by simp [fnT, hK]
        rw [e]
        have k0 := KF 0 (by omega) (by rw [hK]; rfl)
        have hw := wN_1 (m := m) (x := x) (by omega)
        simp only [List.length_append, List.length_cons, List.length_nil, bl_len]
        omega
      · have e : fnT G (TX G m) x = bL G.outer ++ ([32] ++ (if (kp x 0).kind = 24 ∨ (kp x 0).kind = 25 ∨ (kp x 0).kind = 26 then rdT ((TX G m).F (kp x 0)) else (TX G m).F (kp x 0))) := by simp [fnT, hK]
        rw [e]
        have k0 := KF 0 (by omega) (by rw [hK]; rfl)
        have hw := wN_1 (m := m) (x := x) (by omega)
        split <;> simp only [List.length_append, List.length_cons, List.length_nil, bl_len, rd_len] <;> omega
      · have e : fnT G (TX G m) x = (TX G m).F (kp x 0) ++ (bL G.power ++ numT x.op (bL G.minus)) := by simp [fnT, hK]
        rw [e]
        have k0 := KF 0 (by omega) (by rw [hK]; rfl)
        have hw := wN_1 (m := m) (x := x) (by omega)
        simp only [List.length_append, List.length_cons, List.length_nil, bl_len]
        omega
      · have e : fnT G (TX G m) x = rdT ((TX G m).F (kp x 0) ++ ([32] ++ (TX G m).F (kp x 1))) := by simp [fnT, hK]
        rw [e]
        have k0 := KF 0 (by omega) (by rw [hK]; rfl)
        have k1 := KF 1 (by omega) (by rw [hK]; rfl)
        have hw := wN_2 (m := m) (x := x) (by omega)
        simp only [List.length_append, List.length_cons, List.length_nil, bl_len, rd_len]
        omega
      · have e : fnT G (TX G m) x = rdT ((TX G m).F (kp x 0) ++ ([32] ++ (TX G m).F (kp x 1)) ++ ([32] ++ (TX G m).F (kp x 2))) := by simp [fnT, hK]
        rw [e]
        have k0 := KF 0 (by omega) (by rw [hK]; rfl)
        have k1 := KF 1 (by omega) (by rw [hK]; rfl)
        have k2 := KF 2 (by omega) (by rw [hK]; rfl)
        have hw := wN_3 (m := m) (x := x) (by omega)
        simp only [List.length_append, List.length_cons, List.length_nil, bl_len, rd_len]
        omega
    · subst hf
      have h21 : ¬ 21 ≤ x.kind := by have := hk.2.1; simpa using this.symm
      have hEX : (x.kind = 5 ∨ x.kind = 6) → (exA G (TX G m) rt x).length + 4 ≤ 1000 * wN (m + 1) x := by
        rintro (hK | hK)
        · rw [hK, show arK 5 = 2 from rfl] at hkk
          have k0 := KF 0 (by omega) (by rw [hK]; rfl)
          have k1 := (KE 1 (by omega) (by rw [hK]; rfl) _ hrt).1
          have hw := wN_2 (m := m) (x := x) (by omega)
          have e : exA G (TX G m) rt x = oneT G (TX G m) (kp x 0) ++ ([32] ++ (TX G m).E rt (kp x 1)) := by simp [exA, hK]
          have ho : (oneT G (TX G m) (kp x 0)).length ≤ 1000 * wN m (kp x 0) + 130 := by
            unfold oneT
            by_cases hl : G.lone = true ∧ (kp x 0).kind = 26
            · rw [if_pos hl]
              have ok0 := hk.2.2.2 0 (by omega)
              obtain ⟨m, rfl⟩ : ∃ m', m = m' + 1 := by
                cases m with
                | zero => exact ok0.elim
                | succ m => exact ⟨m, rfl⟩
              have h1' := ok0.1
              rw [hl.2, show arK 26 = 1 from rfl] at h1'
              have okk := ok0.2.2.2 0 (by omega)
              rw [show fnP (kp x 0).kind 0 = true by rw [hl.2]; rfl] at okk
              have nmk := (hn.2 0 (by omega)).2 0 (by show 0 < (kp x 0).kids.length; omega)
              have hk2 := (ih (kp (kp x 0) 0) true okk.deeper ((hs.kid (i := 0) (by omega)).kid (by omega)) (nm_deeper okk nmk)).1 rfl
              rw [wN_deeper okk] at hk2
              have hw2 := wN_1 (m := m) (x := kp x 0) (by omega)
              have hN := num_len H (hs.kid (i := 0) (by omega)).op
              simp only [List.length_append, List.length_cons, List.length_nil]
              omega
            · rw [if_neg hl]
              have := ap_len (TX G m).F (kp x 0)
              omega
          rw [e]
          simp only [List.length_append, List.length_cons, List.length_nil]
          omega
        · rw [hK, show arK 6 = 3 from rfl] at hkk
          have k0 := KF 0 (by omega) (by rw [hK]; rfl)
          have k1 := (KE 1 (by omega) (by rw [hK]; rfl) _ hrt).2
          have k2 := (KE 2 (by omega) (by rw [hK]; rfl) _ hrt).1
          have hw := wN_3 (m := m) (x := x) (by omega)
          have ha := ap_len (TX G m).F (kp x 0)
          have e : exA G (TX G m) rt x = (TX G m).O rt (kp x 1) ++ ([32] ++ apF (TX G m).F (kp x 0)) ++ ([32] ++ (TX G m).E rt (kp x 2)) := by simp [exA, hK]
          rw [e]
          simp only [List.length_append, List.length_cons, List.length_nil]
          omega
      have hOP : (opT G (TX G m) rt x).length ≤ 1000 * wN (m + 1) x := by
        have hw0 : 1 + x.lit.cells.length ≤ wN (m + 1) x := Nat.le_add_right _ _
        rcases ar_kinds ha0 with hK | hK | hK | hK | hK | hK | hK | hK | hK | hK | hK | hK | hK | hK | hK
        all_goals try (exfalso; omega)
        · have e : opT G (TX G m) rt x = litT G x.lit := by simp [opT, hK]
          rw [e]
          have := lit_len H hsn.2.2.1
          omega
        · have e : opT G (TX G m) rt x = bL x.name := by simp [opT, hK]
          rw [e, bl_len]
          omega
        · have e : opT G (TX G m) rt x = bL G.left := by simp [opT, hK]
          rw [e, bl_len]
          omega
        · have e : opT G (TX G m) rt x = bL rt := by simp [opT, hK]
          rw [e, bl_len]
          omega
        · have e : opT G (TX G m) rt x = rdT (exA G (TX G m) rt x) := by simp [opT, hK]
          rw [e, rd_len]
          exact hEX (Or.inl hK)
        · rw [hK, show arK 8 = 2 from rfl] at hkk
          have e : opT G (TX G m) rt x = (TX G m).O rt (kp x 0) ++ [32, 91] ++ ([32] ++ (TX G m).E rt (kp x 1)) ++ [32, 93] := by simp [opT, hK]
          have k0 := (KE 0 (by omega) (by rw [hK]; rfl) _ hrt).2
          have k1 := (KE 1 (by omega) (by rw [hK]; rfl) _ hrt).1
          have hw := wN_2 (m := m) (x := x) (by omega)
          rw [e]
          simp only [List.length_append, List.length_cons, List.length_nil]
          omega
        · have e : opT G (TX G m) rt x = rdT (exA G (TX G m) rt x) := by simp [opT, hK]
          rw [e, rd_len]
          exact hEX (Or.inr hK)
      refine ⟨?_, hOP⟩
      by_cases hK : x.kind = 5 ∨ x.kind = 6
      · have e : (TX G (m + 1)).E rt x = exA G (TX G m) rt x := if_pos hK
        rw [e]
        have := hEX hK
        omega
      · have e : (TX G (m + 1)).E rt x = opT G (TX G m) rt x := if_neg hK
        rw [e]
        exact hOP
theorem size_le_w {m : Nat} {x : Nd} : sizeN m x ≤ wN m x := by
  induction m generalizing x with
  | zero => exact Nat.le_refl _
  | succ m ih =>
    have h : sumUp (fun i => sizeN m (nAt x.kids i)) x.kids.length ≤ sumUp (fun i => wN m (nAt x.kids i)) x.kids.length := by
      generalize x.kids.length = L
      induction L with
      | zero => exact Nat.le_refl _
      | succ L ihL =>
        have := ih (x := nAt x.kids L)
        simp only [sumUp]
        omega
    show 1 + sumUp (fun i => sizeN m (nAt x.kids i)) x.kids.length ≤ 1 + x.lit.cells.length + sumUp (fun i => wN m (nAt x.kids i)) x.kids.length
    omega
/-- What came in, of that weight, is what a machine holds. -/
theorem snd_of {m n lo : Nat} {w : World} {x : Nd} {v : Value} (hx : NdIn m n lo w x v) (h6 : ∀ k, i6N k x) (hw : wN m x ≤ 100000) : sndA x := by
  induction m generalizing x v with
  | zero => exact hx.elim
  | succ m ih =>
    obtain ⟨m', hm', a1, c1, a2, c2, ak, ck, rfl, hA, hl, hs, hK⟩ := hx.letters
    obtain rfl : m = m' := by omega
    have hc : 1 + x.lit.cells.length ≤ wN (m + 1) x := Nat.le_add_right _ _
    refine sndA_mk (h6 1).1 (by omega) (h6 1).2.1 (fun i hi => ?_)
    obtain ⟨b, off, d1, e1, d2, e2, dk, ek, ha, hlo, hb, hk⟩ := kid_at hK hi
    have hwk := wN_kid (m := m) i hi
    exact ih (hk w (Below.refl _ _)).2 (fun k => (h6 (k + 1)).2.2 i hi) (by show wN m (kp x i) ≤ _; omega)
end Go.Proofs.YtneblkdkhlgmcaaDoor
namespace Go.Proofs.YtneblkdkhlgmcaaDoor
open Go.ChangeShapes Go.WideShapes Go.ChangeAt Go.RowKit
set_option linter.unusedVariables false
set_option maxRecDepth 100000
theorem cells2' : Tryd.prog.cellsOf 2 = 1 := by kernel_rfl
theorem cells43' : Tryd.prog.cellsOf 43 = 1 := by kernel_rfl
theorem cellsL : Tryd.prog.cellsOf 124 = 4 := by kernel_rfl
theorem cellsP : Tryd.prog.cellsOf 96 = 20 := by kernel_rfl
theorem gLeast : Tryd.prog.globalNamed "triglyph/runes.leasts" = some 3 := by kernel_rfl
theorem gPow : Tryd.prog.globalNamed "internal/strconv.uint64pow10" = some 0 := by kernel_rfl
theorem tLeast : (Tryd.prog.globals[3]?).map (·.type) = some 124 := by kernel_rfl
theorem tPow : (Tryd.prog.globals[0]?).map (·.type) = some 96 := by kernel_rfl
theorem var_lt {W : World} {n : String} {g : Nat} {cs : Array Value} (hg : Tryd.prog.globalNamed n = some g) (h : W.var? Tryd.prog n = some cs) : g < W.heap.size := by
  unfold World.var? at h
  simp only [hg, Option.bind_some] at h
  rcases Nat.lt_or_ge g W.heap.size with h' | h'
  · exact h'
  · simp [Array.getElem?_eq_none h'] at h
structure Glb (w : World) : Prop where
  tab : Rn.Tab w
  pw : Pw w
theorem glb_of {W : World} (h : laidMetH Tryd.prog Rows.spellNumbersRow.laid W) : Glb W := by
  obtain ⟨ps, ⟨-, -, -, -, -, -, -, -, -, -, ⟨-, -, -, -, -, -, -, -, -, -, ⟨g3, t3, cs3, f3, p3, q3, hg3, ht3, hv3, hd3, ⟨g4, t4, cs4, f4, p4, q4, hg4, ht4, hv4, hd4, -, -⟩, -⟩, -⟩, -⟩, -⟩ := h
  obtain rfl := Option.some.inj (gPow.symm.trans hg3)
  obtain rfl := Option.some.inj (gLeast.symm.trans hg4)
  obtain rfl := Option.some.inj (tPow.symm.trans ht3)
  obtain rfl := Option.some.inj (tLeast.symm.trans ht4)
  have hc4 := Lib.cells_of_tab (zs := [0, 128, 2048, 65536]) Tryd.underlying124 Tryd.underlying2 cells2' cellsL hd4
  have hc3 := Lib.cells_of_tab (zs := Lib.pow10Tab) Tryd.underlying96 Tryd.underlying43 cells43' cellsP hd3
  refine ⟨⟨var_lt gLeast hv4, fun k hk => ?_⟩, ?_⟩
  · have := World.var?_cell gLeast hv4 k
    rw [this]
    have e : cs4.toList[k]? = some (.int .i64 (Rn.least k)) := by
      rw [hc4]
      rcases (by omega : k = 0 ∨ k = 1 ∨ k = 2 ∨ k = 3) with rfl | rfl | rfl | rfl <;> rfl
    simpa using e
  · show Lib.TabIs _ _ _ _ _
    unfold Lib.TabIs
    rw [hv3, ← hc3]
/-- A world for the witness: the settled one, each listed variable as its text lays it. -/
noncomputable def laidWorld (os : Os) : World := World.laidAll Tryd.prog os Rows.spellNumbersRow.laid
theorem bounds_i64 {n : Int} (h : (Lit.int .i64 n).wf = true) : -9223372036854775808 ≤ n ∧ n ≤ 9223372036854775807 := by
  simp only [Lit.wf, Bool.and_eq_true, decide_eq_true_eq] at h
  exact h
end Go.Proofs.YtneblkdkhlgmcaaDoor
namespace Go.Proofs.YtneblkdkhlgmcaaDoor
open Go.ChangeShapes Go.WideShapes Go.ChangeAt Go.RowKit Go.Deep
set_option maxRecDepth 100000
set_option linter.unusedVariables false
set_option linter.unusedSimpArgs false
theorem cells27 : Tryd.prog.cellsOf 27 = 14 := by kernel_rfl
theorem cells25s : Tryd.prog.cellsOf 25 = 1 := by kernel_rfl
theorem cells4b : Tryd.prog.cellsOf 4 = 1 := by kernel_rfl
section
variable {H : Type} {enc : TypeId × Value → H} {W : World} {sp : Nat → Bool} {held : Bool}
theorem trod_struct14 {P : Program} {w : World} {base : Nat} {spare : Nat → Bool} {t : TypeId} {f0 f1 f2 f3 f4 f5 f6 f7 f8 f9 f10 f11 f12 f13 : Field} {fuel : Nat} {cs : List Value} {x : DataW H × List MemPlace} (ht : P.underlying t = some (.struct #[f0, f1, f2, f3, f4, f5, f6, f7, f8, f9, f10, f11, f12, f13])) (h : DataW.trod enc P w base spare held fuel t cs = some x) :
    ∃ y0 y1 y2 y3 y4 y5 y6 y7 y8 y9 y10 y11 y12 y13 n, x.1 = .agg [y0.1, y1.1, y2.1, y3.1, y4.1, y5.1, y6.1, y7.1, y8.1, y9.1, y10.1, y11.1, y12.1, y13.1] ∧ cs.length = P.cellsOf t ∧ DataW.trod enc P w base spare held n f0.type ((cs.drop f0.offset).take (P.cellsOf f0.type)) = some y0 ∧ DataW.trod enc P w base spare held n f1.type ((cs.drop f1.offset).take (P.cellsOf f1.type)) = some y1 ∧ DataW.trod enc P w base spare held n f2.type ((cs.drop f2.offset).take (P.cellsOf f2.type)) = some y2 ∧ DataW.trod enc P w base spare held n f3.type ((cs.drop f3.offset).take (P.cellsOf f3.type)) = some y3 ∧ DataW.trod enc P w base spare held n f4.type ((cs.drop f4.offset).take (P.cellsOf f4.type)) = some y4 ∧ DataW.trod enc P w base spare held n f5.type ((cs.drop f5.offset).take (P.cellsOf f5.type)) = some y5 ∧ DataW.trod enc P w base spare held n f6.type ((cs.drop f6.offset).take (P.cellsOf f6.type)) = some y6 ∧ DataW.trod enc P w base spare held n f7.type ((cs.drop f7.offset).take (P.cellsOf f7.type)) = some y7 ∧ DataW.trod enc P w base spare held n f8.type ((cs.drop f8.offset).take (P.cellsOf f8.type)) = some y8 ∧ DataW.trod enc P w base spare held n f9.type ((cs.drop f9.offset).take (P.cellsOf f9.type)) = some y9 ∧ DataW.trod enc P w base spare held n f10.type ((cs.drop f10.offset).take (P.cellsOf f10.type)) = some y10 ∧ DataW.trod enc P w base spare held n f11.type ((cs.drop f11.offset).take (P.cellsOf f11.type)) = some y11 ∧ DataW.trod enc P w base spare held n f12.type ((cs.drop f12.offset).take (P.cellsOf f12.type)) = some y12 ∧ DataW.trod enc P w base spare held n f13.type ((cs.drop f13.offset).take (P.cellsOf f13.type)) = some y13 := by
  obtain ⟨xs, n, _, rfl, hl, hlen, hf⟩ := DataW.trod_struct ht h
  match xs, hlen with
  | [y0, y1, y2, y3, y4, y5, y6, y7, y8, y9, y10, y11, y12, y13], _ => exact ⟨y0, y1, y2, y3, y4, y5, y6, y7, y8, y9, y10, y11, y12, y13, n, by simp, hl, by simpa using hf 0 f0 rfl, by simpa using hf 1 f1 rfl, by simpa using hf 2 f2 rfl, by simpa using hf 3 f3 rfl, by simpa using hf 4 f4 rfl, by simpa using hf 5 f5 rfl, by simpa using hf 6 f6 rfl, by simpa using hf 7 f7 rfl, by simpa using hf 8 f8 rfl, by simpa using hf 9 f9 rfl, by simpa using hf 10 f10 rfl, by simpa using hf 11 f11 rfl, by simpa using hf 12 f12 rfl, by simpa using hf 13 f13 rfl⟩
theorem fit_gram {H : Type} {d0 d1 d2 d3 d4 d5 d6 d7 d8 d9 d10 d11 d12 d13 : DataW H} (h : Fit 27 (.agg [d0, d1, d2, d3, d4, d5, d6, d7, d8, d9, d10, d11, d12, d13])) : Fit 9 d3 ∧ Fit 9 d4 ∧ Fit 9 d5 ∧ Fit 9 d6 ∧ Fit 9 d7 ∧ Fit 9 d8 ∧ Fit 9 d9 ∧ Fit 9 d10 := by
  unfold Fit at *
  simp only [DataW.weights, Tryd.underlying27, DataW.weightsEach, List.map_cons, List.map_nil, List.append_nil, List.mem_append] at h
  exact ⟨fun n hn => h n (Or.inr (Or.inr (Or.inr (Or.inl hn)))), fun n hn => h n (Or.inr (Or.inr (Or.inr (Or.inr (Or.inl hn))))), fun n hn => h n (Or.inr (Or.inr (Or.inr (Or.inr (Or.inr (Or.inl hn)))))), fun n hn => h n (Or.inr (Or.inr (Or.inr (Or.inr (Or.inr (Or.inr (Or.inl hn))))))), fun n hn => h n (Or.inr (Or.inr (Or.inr (Or.inr (Or.inr (Or.inr (Or.inr (Or.inl hn)))))))), fun n hn => h n (Or.inr (Or.inr (Or.inr (Or.inr (Or.inr (Or.inr (Or.inr (Or.inr (Or.inl hn))))))))), fun n hn => h n (Or.inr (Or.inr (Or.inr (Or.inr (Or.inr (Or.inr (Or.inr (Or.inr (Or.inr (Or.inl hn)))))))))), fun n hn => h n (Or.inr (Or.inr (Or.inr (Or.inr (Or.inr (Or.inr (Or.inr (Or.inr (Or.inr (Or.inr (Or.inl hn)))))))))))⟩
theorem one_bool {P : Program} {w : World} {base : Nat} {spare : Nat → Bool} {t : TypeId} {fuel : Nat} {cs : List Value} {x : DataW H × List MemPlace} (ht : P.underlying t = some .bool) (h : DataW.trod enc P w base spare held fuel t cs = some x) : ∃ b, cs = [.bool b] := by
  obtain ⟨b, hb, -⟩ := DataW.trod_bool ht h
  exact ⟨b, hb⟩
theorem one_string {fuel : Nat} {cs : List Value} {x : DataW H × List MemPlace} (h : DataW.trod enc Tryd.prog W 0 sp held fuel 9 cs = some x) (hf : Fit 9 x.1) : ∃ b : ByteArray, cs = [.string b] ∧ b.size ≤ 140737488355328 := by
  obtain ⟨b, hb, r2, -⟩ := DataW.trod_string Tryd.underlying9 h
  refine ⟨b, hb, ?_⟩
  have hh := hf b.data.toList.length (by rw [r2]; simp [DataW.weights])
  have h3 : b.data.toList.length = b.size := Array.length_toList
  unfold reachBytes at hh
  omega
theorem one_slice {fuel : Nat} {cs : List Value} {x : DataW H × List MemPlace} (h : DataW.trod enc Tryd.prog W 0 sp held fuel 25 cs = some x) : ∃ v, cs = [v] ∧ ∃ a n c, v = .slice a n c := by
  rcases open_slice Tryd.underlying25 h with ⟨hcs, hx⟩ | ⟨a, len, cap, mm, n, D, Pl, hcs, _, hlc, hm, hmm, hx, hel⟩
  · exact ⟨_, hcs, _, _, _, rfl⟩
  · exact ⟨_, hcs, _, _, _, rfl⟩
/-- A grammar that came in. -/
theorem open_gram {fuel : Nat} {x : DataW H × List MemPlace} {cs : List Value} (h : DataW.trod enc Tryd.prog W 0 sp held fuel 27 cs = some x) (hf : Fit 27 x.1) :
    ∃ G : Gs, cs = (gV G).cells.toList ∧ Lg G ∧ (∃ a n c, G.s1 = .slice a n c) ∧ (∃ a n c, G.s2 = .slice a n c) ∧ ∃ a n c, G.s3 = .slice a n c := by
  obtain ⟨y0, y1, y2, y3, y4, y5, y6, y7, y8, y9, y10, y11, y12, y13, n, hx0, hl, h0, h1, h2, h3, h4, h5, h6, h7, h8, h9, h10, h11, h12, h13⟩ := trod_struct14 Tryd.underlying27 h
  rw [cells27] at hl
  match cs, hl with
  | [v0, v1, v2, v3, v4, v5, v6, v7, v8, v9, v10, v11, v12, v13], _ =>
      simp only [cells4b, cells9, cells25s, List.drop_zero, List.take_succ_cons, List.take_zero, List.drop_succ_cons] at h0 h1 h2 h3 h4 h5 h6 h7 h8 h9 h10 h11 h12 h13
      rw [hx0] at hf
      obtain ⟨f3, f4, f5, f6, f7, f8, f9, f10⟩ := fit_gram hf
      obtain ⟨s0, e0, q0⟩ := one_slice h0
      obtain ⟨s1, e1, q1⟩ := one_slice h1
      obtain ⟨s2, e2, q2⟩ := one_slice h2
      obtain ⟨s3, e3, z3⟩ := one_string h3 f3
      obtain ⟨s4, e4, z4⟩ := one_string h4 f4
      obtain ⟨s5, e5, z5⟩ := one_string h5 f5
      obtain ⟨s6, e6, z6⟩ := one_string h6 f6
      obtain ⟨s7, e7, z7⟩ := one_string h7 f7
      obtain ⟨s8, e8, z8⟩ := one_string h8 f8
      obtain ⟨s9, e9, z9⟩ := one_string h9 f9
      obtain ⟨s10, e10, z10⟩ := one_string h10 f10
      obtain ⟨s11, e11⟩ := one_bool Tryd.underlying4 h11
      obtain ⟨s12, e12⟩ := one_bool Tryd.underlying4 h12
      obtain ⟨s13, e13⟩ := one_bool Tryd.underlying4 h13
      simp only [List.cons.injEq, and_true] at e0 e1 e2 e3 e4 e5 e6 e7 e8 e9 e10 e11 e12 e13
      subst e0 e1 e2 e3 e4 e5 e6 e7 e8 e9 e10 e11 e12 e13
      exact ⟨⟨v0, v1, v2, s3, s4, s5, s6, s7, s8, s9, s10, s11, s12, s13⟩, rfl, ⟨z9, z10, z3, z4, z5, z6, z7, z8⟩, q0, q1, q2⟩
end
theorem agg_of {v : Value} {l : List Value} (h : v.cells.toList = l) (h2 : 2 ≤ l.length) : v = .agg l.toArray := by
  cases v with
  | agg a => simp [Value.cells] at h; rw [← h]
  | _ => simp [Value.cells] at h; subst h; exact absurd h2 (by simp)
theorem fit_of {H : Type} {ts : List TypeId} {ds : List (DataW H)} {j : Nat} {t : TypeId} {d : DataW H} (hsz : (DataW.weightsEach Tryd.prog ts ds).all (· ≤ reachBytes) = true) (ht : ts[j]? = some t) (hd : ds[j]? = some d) : Fit t d := fun n hn => by
  have := List.all_eq_true.1 hsz n (DataW.weights_mem_each ht hd n hn)
  simpa using this
end Go.Proofs.YtneblkdkhlgmcaaDoor
