/-
  The contract of the document's Fixed: the first of some words that stands at a place; for all texts and words.
  The contract of the document's fixed: words that are always the same; for all texts.
  The contract of the document's Word: letters and digits from a place on; for all texts.
  The contract of the document's Quoted: a text between quotes; for all texts.
  The contract of the document's one: the word at a place; for all texts.
  Words in memory while they are read one behind the other; all words of a text, as mathematics.
-/
import Derived.Test.YtnaejfoighmfeaaM6
import Derived.Laws.BitsAllLaws
import Derived.Lib.Bits
import Derived.Test.YtnaejfoighmfeaaChecked
import GoSem.Claim
import GoSem.ClaimJoined
import GoSem.ClaimMapViews
import Derived.JoinedTies
import Derived.KernelRfl
import Derived.WalkKit
import Derived.ProofKit
import Derived.Below
import Derived.Deep.QuietTactic
import Derived.BigQuiet
import Derived.Lib.SlBytesConst
import Derived.Laws.BytesArg
import Derived.Laws.MakeOwn
import Derived.Deep.RegionHeld3
import Derived.Laws.AppendOwnNone
import Derived.BigFrame
import Derived.OpenShut
import Derived.ChangeOld
import Derived.SizedLaws
import Derived.Deep.DeepHandedRow
import Derived.Lib.LaidTab
import Derived.Deep.OwnRows
import Derived.Deep.RegionWith
import Derived.Deep.Slices
import Derived.Deep.Strs
import Derived.Deep.LoopGhost
import Derived.Lib.ConvBytes
import Derived.Deep.RegionLaw
import Derived.Deep.CutRange
import Derived.Lib.SliceRun
import Derived.WalkLawsBesides
import Derived.Maps.AppendAt
import Derived.Deep.MidRow
import Derived.Defers
import Derived.Recover
import Derived.Deep.Cut
import Derived.ChangeMaps5
namespace Go.Proofs.Ytnaejfoighmfeaa.Rn
open Go.ChangeShapes Go.WideShapes Go.ChangeAt Go.RowKit
set_option maxRecDepth 100000
set_option linter.unusedVariables false
set_option linter.unusedSimpArgs false
/-- The first of some words that stands there. -/
def fxD (l : List Int) (L : List ByteArray) : Option ByteArray := L.find? fun t => hasP l (numsS t)
def tkF (k : Int) (a : Nat) : Option ByteArray → Value
  | some t => .tuple #[.agg #[.int .i64 k, .string t, .slice none 0 0, .slice none 0 0, .int .i64 (a : Int)], .bool true]
  | none => .tuple #[.agg #[.int .i64 0, .string ⟨#[]⟩, .slice none 0 0, .slice none 0 0, .int .i64 0], .bool false]
/-- Words in a row. -/
def WsIn (w : World) (b : Nat) (L : List ByteArray) : Prop := b < w.heap.size ∧ ∀ j t, L[j]? = some t → w.cell? ⟨b, j, none⟩ = some (.string t)
theorem WsIn.next {w w' : World} {b : Nat} {L : List ByteArray} (h : WsIn w b L) (hb : Below w.heap.size w w') : WsIn w' b L :=
  ⟨Nat.lt_of_lt_of_le h.1 hb.size, fun j t ht => (hb.cell (p := ⟨b, j, none⟩) h.1).trans (h.2 j t ht)⟩
theorem WsIn.new (w : World) (L : List ByteArray) (ty : TypeId) : WsIn (w.alloc (.cells (L.map Value.string).toArray ty)) w.heap.size L :=
  ⟨by simp, fun j t ht => cell_new0 w _ ty j _ (by simp [ht])⟩
set_option maxHeartbeats 4000000 in
theorem fixed78 (s : ByteArray) (a : Nat) (ha : a ≤ s.size) (hs : s.size ≤ 8192) (L : List ByteArray) (hL : L.length ≤ 1000) (hT : ∀ t ∈ L, t.size ≤ 1000) (b c : Nat) (k : Int) (w : World) (hW : WsIn w b L) :
    Calls Try.prog 78 #[.string s, .int .i64 (a : Int), .slice (some ⟨b, 0, none⟩) L.length c, .int .i64 k] w fun e w' => e = .returned (tkF k a (fxD ((numsS s).drop a) L)) ∧ Below w.heap.size w w' := by
  obtain ⟨W1, hW1⟩ : ∃ W1, w.alloc (.cells #[.int .i64 0, .string ⟨#[]⟩, .slice none 0 0, .slice none 0 0, .int .i64 0] 43) = W1 := ⟨_, rfl⟩
  have b1 : Below w.heap.size w W1 := by rw [← hW1]; exact one_alloc _ _
  have R1 : Cs W1 w.heap.size [.int .i64 0, .string ⟨#[]⟩, .slice none 0 0, .slice none 0 0, .int .i64 0] := by rw [← hW1]; exact Cs.new w [.int .i64 0, .string ⟨#[]⟩, .slice none 0 0, .slice none 0 0, .int .i64 0] 43
  have HC := hide (fun j t (ht : L[j]? = some t) => (hW.next b1).2 j t ht)
  have HS := hide (fun t (ht : t ∈ L) W => starts25 s t a ha (by omega) (hT t ht) W)
  obtain ⟨F, hF⟩ : ∃ F, fxD ((numsS s).drop a) L = F := ⟨_, rfl⟩
  have HF := hide hF
  have HW1 := hide hW1
  have HB1 := hide b1
  have HR1 := hide R1
  rw [hF]
  obtain ⟨LN, hLN⟩ : ∃ LN, L.length = LN := ⟨_, rfl⟩
  have HLN := hide hLN
  rw [hLN] at hL ⊢
  clear hW hT ha hs hF hW1 b1 R1 hLN
  go_enter Try.func78, Try.ntmps78
  go_wp2
  rw [HW1.out]
  go_loopg [10] (LN + 1) (fun g iv wr => ∃ j : Nat, g + j = LN + 1 ∧ j ≤ LN ∧ iv = .int .i64 (j : Int) ∧ fxD ((numsS s).drop a) (L.drop j) = F ∧ wr = W1)
  case atStart => exact ⟨0, by omega, by omega, rfl, HF.out, rfl⟩
  case round =>
    clear HF HW1
    obtain ⟨j, hj, hjl, rfl, hf, rfl⟩ := hrel
    have HF := hide hf
    clear hf
    by_cases hlt : j < LN
    · obtain ⟨t, ht⟩ : ∃ t, L[j]? = some t := ⟨_, List.getElem?_eq_getElem (by rw [HLN.out]; exact hlt)⟩
      have hc := HC.out j t ht
      have HST := hide (HS.out t (List.mem_of_getElem? ht))
      have hdr : L.drop j = t :: L.drop (j + 1) := by
        obtain ⟨hl, he⟩ := List.getElem?_eq_some_iff.1 ht
        rw [List.drop_eq_getElem_cons hl, he]
      have HD := hide hdr
      cases hp : hasP ((numsS s).drop a) (numsS t) with
      | true =>
        have HE := hide (show F = some t by rw [← HF.out, HD.out]; unfold fxD; rw [List.find?_cons, hp])
        rw [hp] at HST
        obtain ⟨W9, hW9⟩ : ∃ W9, wr.setCells w.heap.size 0 [.int .i64 k, .string t, .slice none 0 0, .slice none 0 0, .int .i64 (a : Int)] = W9 := ⟨_, rfl⟩
        have HW9 : Hid (wr.setCells w.heap.size 0 (#[.int .i64 k, .string t, .slice none 0 0, .slice none 0 0, .int .i64 (a : Int)] : Array Value).toList = W9) := hW9
        obtain ⟨C9, B9⟩ := HR1.out.put (us := [.int .i64 k, .string t, .slice none 0 0, .slice none 0 0, .int .i64 (a : Int)]) (by simp) hW9
        have HTH := hide (HR1.out.there (n := 5) (by simp))
        have HC9 := hide C9
        have HB9 := hide (HB1.out.trans (B9.below HB1.out.size fun k hk => by omega))
        clear HC HS HF HR1 HB1 HD hdr hp ht C9 B9 hW9
        go_wp2_with fail
        refine (HST.out _).mono ?_
        rintro e w2 ⟨rfl, rfl⟩
        clear HST
        go_wp2_with (first | (refine wpList_store_mid rfl 43 (.tmp 8) (.tmp 30) rfl w.heap.size 0 #[.int .i64 k, .string t, .slice none 0 0, .slice none 0 0, .int .i64 (a : Int)] rfl rfl HTH.out (by kernel_rfl) (by simp [Value.oneCell']) ?_; rw [HW9.out]))
        have r0 := HC9.out.c 0 _ rfl
        have r1 := HC9.out.c 1 _ rfl
        have r2 := HC9.out.c 2 _ rfl
        have r3 := HC9.out.c 3 _ rfl
        have r4 := HC9.out.c 4 _ rfl
        exact bodyPost_ret (v := .tuple #[.agg #[.int .i64 k, .string t, .slice none 0 0, .slice none 0 0, .int .i64 (a : Int)], .bool true]) (by simp [results, Try.results78, go_sem, r0, r1, r2, r3, r4]) rfl ⟨by rw [HE.out]; rfl, HB9.out⟩
      | false =>
        have HE := hide (show fxD ((numsS s).drop a) (L.drop (j + 1)) = F by rw [← HF.out, HD.out]; unfold fxD; rw [List.find?_cons, hp])
        rw [hp] at HST
        clear HC HS HF HD hdr hp ht
        go_wp2_with fail
        refine (HST.out _).mono ?_
        rintro e w2 ⟨rfl, rfl⟩
        clear HST
        go_wp2
        go_roundg (LN + 1 - (j + 1))
        case rel => exact ⟨j + 1, by omega, by omega, by go_num, HE.out, rfl⟩
        case measure => omega
    · obtain rfl : j = LN := by omega
      have hnil : L.drop j = [] := List.drop_eq_nil_of_le (by rw [HLN.out]; exact Nat.le_refl _)
      have HE := hide (show F = none by rw [← HF.out, hnil]; rfl)
      clear hnil
      obtain ⟨W9, hW9⟩ : ∃ W9, wr.setCells w.heap.size 0 [.int .i64 0, .string ⟨#[]⟩, .slice none 0 0, .slice none 0 0, .int .i64 0] = W9 := ⟨_, rfl⟩
      have HW9 : Hid (wr.setCells w.heap.size 0 (#[.int .i64 0, .string ⟨#[]⟩, .slice none 0 0, .slice none 0 0, .int .i64 0] : Array Value).toList = W9) := hW9
      obtain ⟨C9, B9⟩ := HR1.out.put (us := [.int .i64 0, .string ⟨#[]⟩, .slice none 0 0, .slice none 0 0, .int .i64 0]) (by simp) hW9
      have HTH := hide (HR1.out.there (n := 5) (by simp))
      have HC9 := hide C9
      have HB9 := hide (HB1.out.trans (B9.below HB1.out.size fun k hk => by omega))
      clear HC HS HF HR1 HB1 C9 B9 hW9
      go_wp2_with (first | (refine wpList_store_mid rfl 43 (.tmp 8) (.tmp 31) rfl w.heap.size 0 #[.int .i64 0, .string ⟨#[]⟩, .slice none 0 0, .slice none 0 0, .int .i64 0] rfl rfl HTH.out (by kernel_rfl) (by simp [Value.oneCell']) ?_; rw [HW9.out]))
      have r0 := HC9.out.c 0 _ rfl
      have r1 := HC9.out.c 1 _ rfl
      have r2 := HC9.out.c 2 _ rfl
      have r3 := HC9.out.c 3 _ rfl
      have r4 := HC9.out.c 4 _ rfl
      exact bodyPost_ret (v := .tuple #[.agg #[.int .i64 0, .string ⟨#[]⟩, .slice none 0 0, .slice none 0 0, .int .i64 0], .bool false]) (by simp [results, Try.results78, go_sem, r0, r1, r2, r3, r4]) rfl ⟨by rw [HE.out]; rfl, HB9.out⟩
end Go.Proofs.Ytnaejfoighmfeaa.Rn
namespace Go.Proofs.Ytnaejfoighmfeaa.Rn
open Go.ChangeShapes Go.WideShapes Go.ChangeAt Go.RowKit
set_option maxRecDepth 100000
set_option linter.unusedVariables false
set_option linter.unusedSimpArgs false
def fxL0 : List ByteArray := [⟨#[226, 142, 149, 73, 79]⟩, ⟨#[226, 141, 186]⟩, ⟨#[226, 141, 181]⟩]
def fxL1 : List ByteArray := [⟨#[226, 134, 144]⟩]
def fxL2 : List ByteArray := [⟨#[40]⟩, ⟨#[123]⟩, ⟨#[91]⟩]
def fxL3 : List ByteArray := [⟨#[41]⟩, ⟨#[125]⟩, ⟨#[93]⟩]
def fxL4 : List ByteArray := [⟨#[43]⟩, ⟨#[45]⟩, ⟨#[195, 151]⟩, ⟨#[124]⟩, ⟨#[126]⟩, ⟨#[226, 141, 179]⟩, ⟨#[226, 141, 180]⟩, ⟨#[226, 137, 162]⟩, ⟨#[44]⟩, ⟨#[226, 138, 150]⟩, ⟨#[226, 140, 189]⟩, ⟨#[226, 141, 137]⟩, ⟨#[226, 141, 139]⟩, ⟨#[226, 141, 146]⟩, ⟨#[226, 136, 170]⟩, ⟨#[226, 138, 130]⟩, ⟨#[226, 138, 131]⟩, ⟨#[195, 183]⟩, ⟨#[226, 140, 138]⟩, ⟨#[226, 140, 136]⟩, ⟨#[61]⟩, ⟨#[226, 137, 160]⟩, ⟨#[60]⟩, ⟨#[62]⟩, ⟨#[226, 137, 164]⟩, ⟨#[226, 137, 165]⟩, ⟨#[226, 134, 145]⟩, ⟨#[226, 134, 147]⟩, ⟨#[226, 141, 170]⟩, ⟨#[226, 136, 138]⟩, ⟨#[226, 140, 191]⟩, ⟨#[47]⟩, ⟨#[92]⟩, ⟨#[226, 141, 128]⟩, ⟨#[226, 140, 183]⟩, ⟨#[226, 141, 168]⟩, ⟨#[226, 141, 163]⟩, ⟨#[226, 139, 132]⟩, ⟨#[226, 136, 152, 46]⟩]
def fixD (l : List Int) : Option (Int × ByteArray) := match fxD l fxL0 with
  | some t => some (3, t)
  | none => match fxD l fxL1 with
    | some t => some (7, t)
    | none => match fxD l fxL2 with
      | some t => some (5, t)
      | none => match fxD l fxL3 with
        | some t => some (6, t)
        | none => match fxD l fxL4 with
          | some t => some (4, t)
          | none => none
def tkG (a : Nat) : Option (Int × ByteArray) → Value
  | some (k, t) => tkF k a (some t)
  | none => tkF 0 a none
set_option maxHeartbeats 4000000 in
theorem verbs79 (w : World) : Calls Try.prog 79 #[] w fun e w' => e = .returned (.slice (some ⟨w.heap.size, 0, none⟩) 39 39) ∧ w' = w.alloc (.cells #[.string ⟨#[43]⟩, .string ⟨#[45]⟩, .string ⟨#[195, 151]⟩, .string ⟨#[124]⟩, .string ⟨#[126]⟩, .string ⟨#[226, 141, 179]⟩, .string ⟨#[226, 141, 180]⟩, .string ⟨#[226, 137, 162]⟩, .string ⟨#[44]⟩, .string ⟨#[226, 138, 150]⟩, .string ⟨#[226, 140, 189]⟩, .string ⟨#[226, 141, 137]⟩, .string ⟨#[226, 141, 139]⟩, .string ⟨#[226, 141, 146]⟩, .string ⟨#[226, 136, 170]⟩, .string ⟨#[226, 138, 130]⟩, .string ⟨#[226, 138, 131]⟩, .string ⟨#[195, 183]⟩, .string ⟨#[226, 140, 138]⟩, .string ⟨#[226, 140, 136]⟩, .string ⟨#[61]⟩, .string ⟨#[226, 137, 160]⟩, .string ⟨#[60]⟩, .string ⟨#[62]⟩, .string ⟨#[226, 137, 164]⟩, .string ⟨#[226, 137, 165]⟩, .string ⟨#[226, 134, 145]⟩, .string ⟨#[226, 134, 147]⟩, .string ⟨#[226, 141, 170]⟩, .string ⟨#[226, 136, 138]⟩, .string ⟨#[226, 140, 191]⟩, .string ⟨#[47]⟩, .string ⟨#[92]⟩, .string ⟨#[226, 141, 128]⟩, .string ⟨#[226, 140, 183]⟩, .string ⟨#[226, 141, 168]⟩, .string ⟨#[226, 141, 163]⟩, .string ⟨#[226, 139, 132]⟩, .string ⟨#[226, 136, 152, 46]⟩] 9) := by
  go_enter Try.func79, Try.ntmps79
  go_wp2
  go_ret
  exact ⟨rfl, rfl⟩
set_option maxHeartbeats 8000000 in
theorem fixed51 (s : ByteArray) (a : Nat) (ha : a ≤ s.size) (hs : s.size ≤ 8192) (w : World) :
    Calls Try.prog 51 #[.string s, .int .i64 (a : Int)] w fun e w' => e = .returned (tkG a (fixD ((numsS s).drop a))) ∧ Below w.heap.size w w' := by
  have HF := hide (fun L hL hT b c k W hW => fixed78 s a ha hs L hL hT b c k W hW)
  obtain ⟨W0, hW0⟩ : ∃ W0, w.alloc (.cells #[.int .i64 0, .string ⟨#[]⟩, .slice none 0 0, .slice none 0 0, .int .i64 0] 43) = W0 := ⟨_, rfl⟩
  have b0 : Below w.heap.size w W0 := by rw [← hW0]; exact one_alloc _ _
  have R0 : Cs W0 w.heap.size [.int .i64 0, .string ⟨#[]⟩, .slice none 0 0, .slice none 0 0, .int .i64 0] := by rw [← hW0]; exact Cs.new w [.int .i64 0, .string ⟨#[]⟩, .slice none 0 0, .slice none 0 0, .int .i64 0] 43
  have s0 : W0.heap.size = w.heap.size + 1 := by rw [← hW0]; simp
  obtain ⟨RES, hRES⟩ : ∃ RES, fixD ((numsS s).drop a) = RES := ⟨_, rfl⟩
  have HRES := hide hRES
  rw [hRES]
  clear hRES
  have HW0 := hide hW0
  have HB0 := hide b0
  have HR0 := hide R0
  have HS0 := hide s0
  clear hW0 b0 R0 s0 ha hs
  go_enter Try.func51, Try.ntmps51
  go_upto_region 1 with fail
  rw [HW0.out]
  obtain ⟨V, hV⟩ : ∃ V, W0.alloc (.cells #[.string ⟨#[226, 142, 149, 73, 79]⟩, .string ⟨#[226, 141, 186]⟩, .string ⟨#[226, 141, 181]⟩] 9) = V := ⟨_, rfl⟩
  have bv : Below W0.heap.size W0 V := by rw [← hV]; exact one_alloc _ _
  have HC := hide (HF.out fxL0 (by decide) (by decide) W0.heap.size 3 3 V (by rw [← hV]; exact WsIn.new W0 fxL0 9))
  have HVI := hide hV
  have HBV := hide bv
  clear bv
  go_wp2_with fail
  clear hV
  refine HC.out.mono ?_
  rintro e U ⟨rfl, hbu⟩
  have HBU := hide (HBV.out.trans (hbu.mono HBV.out.size))
  clear hbu HC HVI HBV
  cases hf : fxD ((numsS s).drop a) fxL0 with
  | some t =>
    simp only [tkF]
    have HE := hide (show RES = some (3, t) by rw [← HRES.out]; unfold fixD; simp [hf])
    have bq := one_alloc U (.cells #[.int .i64 3, .string t, .slice none 0 0, .slice none 0 0, .int .i64 (a : Int)] 43)
    have D := Cs.new U [.int .i64 3, .string t, .slice none 0 0, .slice none 0 0, .int .i64 (a : Int)] 43
    obtain ⟨W1, hX⟩ : ∃ W1, U.alloc (.cells #[.int .i64 3, .string t, .slice none 0 0, .slice none 0 0, .int .i64 (a : Int)] 43) = W1 := ⟨_, rfl⟩
    rw [hX] at bq
    have D' : Cs W1 U.heap.size [.int .i64 3, .string t, .slice none 0 0, .slice none 0 0, .int .i64 (a : Int)] := by rw [← hX]; exact D
    have hsu := HBU.out.size
    have RX := (HR0.out.next (HBU.out.trans (bq.mono hsu)) HR0.out.lt)
    have c0 := D'.c 0 _ rfl
    have c1 := D'.c 1 _ rfl
    have c2 := D'.c 2 _ rfl
    have c3 := D'.c 3 _ rfl
    have c4 := D'.c 4 _ rfl
    obtain ⟨W9, hW9⟩ : ∃ W9, W1.setCells w.heap.size 0 [.int .i64 3, .string t, .slice none 0 0, .slice none 0 0, .int .i64 (a : Int)] = W9 := ⟨_, rfl⟩
    have HW9 : Hid (W1.setCells w.heap.size 0 (#[.int .i64 3, .string t, .slice none 0 0, .slice none 0 0, .int .i64 (a : Int)] : Array Value).toList = W9) := hW9
    obtain ⟨C9, B9⟩ := RX.put (us := [.int .i64 3, .string t, .slice none 0 0, .slice none 0 0, .int .i64 (a : Int)]) (by simp) hW9
    have HTH := hide (RX.there (n := 5) (by simp))
    have HC9 := hide C9
    have hbx := HB0.out.trans ((HBU.out.trans (bq.mono hsu)).mono HB0.out.size)
    have HB9 := hide (hbx.trans (B9.below hbx.size fun k hk => by omega))
    clear HF D D' RX C9 B9 hW9 bq hbx hsu HR0 HB0 HBU HS0 hf
    go_wp2_with (first | (refine wpList_store_mid rfl 43 (.tmp 4) (.tmp 22) rfl w.heap.size 0 #[.int .i64 3, .string t, .slice none 0 0, .slice none 0 0, .int .i64 (a : Int)] rfl rfl HTH.out (by kernel_rfl) (by simp [Value.oneCell']) ?_; rw [HW9.out]))
    have r0 := HC9.out.c 0 _ rfl
    have r1 := HC9.out.c 1 _ rfl
    have r2 := HC9.out.c 2 _ rfl
    have r3 := HC9.out.c 3 _ rfl
    have r4 := HC9.out.c 4 _ rfl
    exact bodyPost_ret (v := .tuple #[.agg #[.int .i64 3, .string t, .slice none 0 0, .slice none 0 0, .int .i64 (a : Int)], .bool true]) (by simp [results, Try.results51, go_sem, r0, r1, r2, r3, r4]) rfl ⟨by rw [HE.out]; rfl, HB9.out⟩
  | none =>
    simp only [tkF]
    obtain ⟨W1, hX⟩ : ∃ W1, U.alloc (.cells #[.int .i64 0, .string ⟨#[]⟩, .slice none 0 0, .slice none 0 0, .int .i64 0] 43) = W1 := ⟨_, rfl⟩
    have bq : Below U.heap.size U W1 := by rw [← hX]; exact one_alloc _ _
    have hsu := HBU.out.size
    have HR1 := hide (HR0.out.next (HBU.out.trans (bq.mono hsu)) HR0.out.lt)
    have HB1 := hide (HB0.out.trans ((HBU.out.trans (bq.mono hsu)).mono HB0.out.size))
    have HX := hide hX
    have HN0 := hide hf
    clear bq hsu HR0 HB0 HBU HS0 hf hX
    go_upto_region 4 with fail
    rw [HX.out]
    have HS1 : Hid True := trivial
    obtain ⟨V, hV⟩ : ∃ V, W1.alloc (.cells #[.string ⟨#[226, 134, 144]⟩] 9) = V := ⟨_, rfl⟩
    have bv : Below W1.heap.size W1 V := by rw [← hV]; exact one_alloc _ _
    have HC := hide (HF.out fxL1 (by decide) (by decide) W1.heap.size 1 7 V (by rw [← hV]; exact WsIn.new W1 fxL1 9))
    have HVI := hide hV
    have HBV := hide bv
    clear bv
    go_wp2_with fail
    clear hV
    refine HC.out.mono ?_
    rintro e U ⟨rfl, hbu⟩
    have HBU := hide (HBV.out.trans (hbu.mono HBV.out.size))
    clear hbu HC HVI HBV
    cases hf : fxD ((numsS s).drop a) fxL1 with
    | some t =>
      simp only [tkF]
      have HE := hide (show RES = some (7, t) by rw [← HRES.out]; unfold fixD; simp [hf, HN0.out])
      have bq := one_alloc U (.cells #[.int .i64 7, .string t, .slice none 0 0, .slice none 0 0, .int .i64 (a : Int)] 43)
      have D := Cs.new U [.int .i64 7, .string t, .slice none 0 0, .slice none 0 0, .int .i64 (a : Int)] 43
      obtain ⟨W2, hX⟩ : ∃ W2, U.alloc (.cells #[.int .i64 7, .string t, .slice none 0 0, .slice none 0 0, .int .i64 (a : Int)] 43) = W2 := ⟨_, rfl⟩
      rw [hX] at bq
      have D' : Cs W2 U.heap.size [.int .i64 7, .string t, .slice none 0 0, .slice none 0 0, .int .i64 (a : Int)] := by rw [← hX]; exact D
      have hsu := HBU.out.size
      have RX := (HR1.out.next (HBU.out.trans (bq.mono hsu)) HR1.out.lt)
      have c0 := D'.c 0 _ rfl
      have c1 := D'.c 1 _ rfl
      have c2 := D'.c 2 _ rfl
      have c3 := D'.c 3 _ rfl
      have c4 := D'.c 4 _ rfl
      obtain ⟨W9, hW9⟩ : ∃ W9, W2.setCells w.heap.size 0 [.int .i64 7, .string t, .slice none 0 0, .slice none 0 0, .int .i64 (a : Int)] = W9 := ⟨_, rfl⟩
      have HW9 : Hid (W2.setCells w.heap.size 0 (#[.int .i64 7, .string t, .slice none 0 0, .slice none 0 0, .int .i64 (a : Int)] : Array Value).toList = W9) := hW9
      obtain ⟨C9, B9⟩ := RX.put (us := [.int .i64 7, .string t, .slice none 0 0, .slice none 0 0, .int .i64 (a : Int)]) (by simp) hW9
      have HTH := hide (RX.there (n := 5) (by simp))
      have HC9 := hide C9
      have hbx := HB1.out.trans ((HBU.out.trans (bq.mono hsu)).mono HB1.out.size)
      have HB9 := hide (hbx.trans (B9.below hbx.size fun k hk => by omega))
      clear HF D D' RX C9 B9 hW9 bq hbx hsu HR1 HB1 HBU HS1 hf
      go_wp2_with (first | (refine wpList_store_mid rfl 43 (.tmp 4) (.tmp 31) rfl w.heap.size 0 #[.int .i64 7, .string t, .slice none 0 0, .slice none 0 0, .int .i64 (a : Int)] rfl rfl HTH.out (by kernel_rfl) (by simp [Value.oneCell']) ?_; rw [HW9.out]))
      have r0 := HC9.out.c 0 _ rfl
      have r1 := HC9.out.c 1 _ rfl
      have r2 := HC9.out.c 2 _ rfl
      have r3 := HC9.out.c 3 _ rfl
      have r4 := HC9.out.c 4 _ rfl
      exact bodyPost_ret (v := .tuple #[.agg #[.int .i64 7, .string t, .slice none 0 0, .slice none 0 0, .int .i64 (a : Int)], .bool true]) (by simp [results, Try.results51, go_sem, r0, r1, r2, r3, r4]) rfl ⟨by rw [HE.out]; rfl, HB9.out⟩
    | none =>
      simp only [tkF]
      obtain ⟨W2, hX⟩ : ∃ W2, U.alloc (.cells #[.int .i64 0, .string ⟨#[]⟩, .slice none 0 0, .slice none 0 0, .int .i64 0] 43) = W2 := ⟨_, rfl⟩
      have bq : Below U.heap.size U W2 := by rw [← hX]; exact one_alloc _ _
      have hsu := HBU.out.size
      have HR2 := hide (HR1.out.next (HBU.out.trans (bq.mono hsu)) HR1.out.lt)
      have HB2 := hide (HB1.out.trans ((HBU.out.trans (bq.mono hsu)).mono HB1.out.size))
      have HX := hide hX
      have HN1 := hide hf
      clear bq hsu HR1 HB1 HBU HS1 hf hX
      go_upto_region 7 with fail
      rw [HX.out]
      have HS2 : Hid True := trivial
      obtain ⟨V, hV⟩ : ∃ V, W2.alloc (.cells #[.string ⟨#[40]⟩, .string ⟨#[123]⟩, .string ⟨#[91]⟩] 9) = V := ⟨_, rfl⟩
      have bv : Below W2.heap.size W2 V := by rw [← hV]; exact one_alloc _ _
      have HC := hide (HF.out fxL2 (by decide) (by decide) W2.heap.size 3 5 V (by rw [← hV]; exact WsIn.new W2 fxL2 9))
      have HVI := hide hV
      have HBV := hide bv
      clear bv
      go_wp2_with fail
      clear hV
      refine HC.out.mono ?_
      rintro e U ⟨rfl, hbu⟩
      have HBU := hide (HBV.out.trans (hbu.mono HBV.out.size))
      clear hbu HC HVI HBV
      cases hf : fxD ((numsS s).drop a) fxL2 with
      | some t =>
        simp only [tkF]
        have HE := hide (show RES = some (5, t) by rw [← HRES.out]; unfold fixD; simp [hf, HN0.out, HN1.out])
        have bq := one_alloc U (.cells #[.int .i64 5, .string t, .slice none 0 0, .slice none 0 0, .int .i64 (a : Int)] 43)
        have D := Cs.new U [.int .i64 5, .string t, .slice none 0 0, .slice none 0 0, .int .i64 (a : Int)] 43
        obtain ⟨W3, hX⟩ : ∃ W3, U.alloc (.cells #[.int .i64 5, .string t, .slice none 0 0, .slice none 0 0, .int .i64 (a : Int)] 43) = W3 := ⟨_, rfl⟩
        rw [hX] at bq
        have D' : Cs W3 U.heap.size [.int .i64 5, .string t, .slice none 0 0, .slice none 0 0, .int .i64 (a : Int)] := by rw [← hX]; exact D
        have hsu := HBU.out.size
        have RX := (HR2.out.next (HBU.out.trans (bq.mono hsu)) HR2.out.lt)
        have c0 := D'.c 0 _ rfl
        have c1 := D'.c 1 _ rfl
        have c2 := D'.c 2 _ rfl
        have c3 := D'.c 3 _ rfl
        have c4 := D'.c 4 _ rfl
        obtain ⟨W9, hW9⟩ : ∃ W9, W3.setCells w.heap.size 0 [.int .i64 5, .string t, .slice none 0 0, .slice none 0 0, .int .i64 (a : Int)] = W9 := ⟨_, rfl⟩
        have HW9 : Hid (W3.setCells w.heap.size 0 (#[.int .i64 5, .string t, .slice none 0 0, .slice none 0 0, .int .i64 (a : Int)] : Array Value).toList = W9) := hW9
        obtain ⟨C9, B9⟩ := RX.put (us := [.int .i64 5, .string t, .slice none 0 0, .slice none 0 0, .int .i64 (a : Int)]) (by simp) hW9
        have HTH := hide (RX.there (n := 5) (by simp))
        have HC9 := hide C9
        have hbx := HB2.out.trans ((HBU.out.trans (bq.mono hsu)).mono HB2.out.size)
        have HB9 := hide (hbx.trans (B9.below hbx.size fun k hk => by omega))
        clear HF D D' RX C9 B9 hW9 bq hbx hsu HR2 HB2 HBU HS2 hf
        go_wp2_with (first | (refine wpList_store_mid rfl 43 (.tmp 4) (.tmp 40) rfl w.heap.size 0 #[.int .i64 5, .string t, .slice none 0 0, .slice none 0 0, .int .i64 (a : Int)] rfl rfl HTH.out (by kernel_rfl) (by simp [Value.oneCell']) ?_; rw [HW9.out]))
        have r0 := HC9.out.c 0 _ rfl
        have r1 := HC9.out.c 1 _ rfl
        have r2 := HC9.out.c 2 _ rfl
        have r3 := HC9.out.c 3 _ rfl
        have r4 := HC9.out.c 4 _ rfl
        exact bodyPost_ret (v := .tuple #[.agg #[.int .i64 5, .string t, .slice none 0 0, .slice none 0 0, .int .i64 (a : Int)], .bool true]) (by simp [results, Try.results51, go_sem, r0, r1, r2, r3, r4]) rfl ⟨by rw [HE.out]; rfl, HB9.out⟩
      | none =>
        simp only [tkF]
        obtain ⟨W3, hX⟩ : ∃ W3, U.alloc (.cells #[.int .i64 0, .string ⟨#[]⟩, .slice none 0 0, .slice none 0 0, .int .i64 0] 43) = W3 := ⟨_, rfl⟩
        have bq : Below U.heap.size U W3 := by rw [← hX]; exact one_alloc _ _
        have hsu := HBU.out.size
        have HR3 := hide (HR2.out.next (HBU.out.trans (bq.mono hsu)) HR2.out.lt)
        have HB3 := hide (HB2.out.trans ((HBU.out.trans (bq.mono hsu)).mono HB2.out.size))
        have HX := hide hX
        have HN2 := hide hf
        clear bq hsu HR2 HB2 HBU HS2 hf hX
        go_upto_region 10 with fail
        rw [HX.out]
        have HS3 : Hid True := trivial
        obtain ⟨V, hV⟩ : ∃ V, W3.alloc (.cells #[.string ⟨#[41]⟩, .string ⟨#[125]⟩, .string ⟨#[93]⟩] 9) = V := ⟨_, rfl⟩
        have bv : Below W3.heap.size W3 V := by rw [← hV]; exact one_alloc _ _
        have HC := hide (HF.out fxL3 (by decide) (by decide) W3.heap.size 3 6 V (by rw [← hV]; exact WsIn.new W3 fxL3 9))
        have HVI := hide hV
        have HBV := hide bv
        clear bv
        go_wp2_with fail
        clear hV
        refine HC.out.mono ?_
        rintro e U ⟨rfl, hbu⟩
        have HBU := hide (HBV.out.trans (hbu.mono HBV.out.size))
        clear hbu HC HVI HBV
        cases hf : fxD ((numsS s).drop a) fxL3 with
        | some t =>
          simp only [tkF]
          have HE := hide (show RES = some (6, t) by rw [← HRES.out]; unfold fixD; simp [hf, HN0.out, HN1.out, HN2.out])
          have bq := one_alloc U (.cells #[.int .i64 6, .string t, .slice none 0 0, .slice none 0 0, .int .i64 (a : Int)] 43)
          have D := Cs.new U [.int .i64 6, .string t, .slice none 0 0, .slice none 0 0, .int .i64 (a : Int)] 43
          obtain ⟨W4, hX⟩ : ∃ W4, U.alloc (.cells #[.int .i64 6, .string t, .slice none 0 0, .slice none 0 0, .int .i64 (a : Int)] 43) = W4 := ⟨_, rfl⟩
          rw [hX] at bq
          have D' : Cs W4 U.heap.size [.int .i64 6, .string t, .slice none 0 0, .slice none 0 0, .int .i64 (a : Int)] := by rw [← hX]; exact D
          have hsu := HBU.out.size
          have RX := (HR3.out.next (HBU.out.trans (bq.mono hsu)) HR3.out.lt)
          have c0 := D'.c 0 _ rfl
          have c1 := D'.c 1 _ rfl
          have c2 := D'.c 2 _ rfl
          have c3 := D'.c 3 _ rfl
          have c4 := D'.c 4 _ rfl
          obtain ⟨W9, hW9⟩ : ∃ W9, W4.setCells w.heap.size 0 [.int .i64 6, .string t, .slice none 0 0, .slice none 0 0, .int .i64 (a : Int)] = W9 := ⟨_, rfl⟩
          have HW9 : Hid (W4.setCells w.heap.size 0 (#[.int .i64 6, .string t, .slice none 0 0, .slice none 0 0, .int .i64 (a : Int)] : Array Value).toList = W9) := hW9
          obtain ⟨C9, B9⟩ := RX.put (us := [.int .i64 6, .string t, .slice none 0 0, .slice none 0 0, .int .i64 (a : Int)]) (by simp) hW9
          have HTH := hide (RX.there (n := 5) (by simp))
          have HC9 := hide C9
          have hbx := HB3.out.trans ((HBU.out.trans (bq.mono hsu)).mono HB3.out.size)
          have HB9 := hide (hbx.trans (B9.below hbx.size fun k hk => by omega))
          clear HF D D' RX C9 B9 hW9 bq hbx hsu HR3 HB3 HBU HS3 hf
          go_wp2_with (first | (refine wpList_store_mid rfl 43 (.tmp 4) (.tmp 49) rfl w.heap.size 0 #[.int .i64 6, .string t, .slice none 0 0, .slice none 0 0, .int .i64 (a : Int)] rfl rfl HTH.out (by kernel_rfl) (by simp [Value.oneCell']) ?_; rw [HW9.out]))
          have r0 := HC9.out.c 0 _ rfl
          have r1 := HC9.out.c 1 _ rfl
          have r2 := HC9.out.c 2 _ rfl
          have r3 := HC9.out.c 3 _ rfl
          have r4 := HC9.out.c 4 _ rfl
          exact bodyPost_ret (v := .tuple #[.agg #[.int .i64 6, .string t, .slice none 0 0, .slice none 0 0, .int .i64 (a : Int)], .bool true]) (by simp [results, Try.results51, go_sem, r0, r1, r2, r3, r4]) rfl ⟨by rw [HE.out]; rfl, HB9.out⟩
        | none =>
          simp only [tkF]
          obtain ⟨W4, hX⟩ : ∃ W4, U.alloc (.cells #[.int .i64 0, .string ⟨#[]⟩, .slice none 0 0, .slice none 0 0, .int .i64 0] 43) = W4 := ⟨_, rfl⟩
          have bq : Below U.heap.size U W4 := by rw [← hX]; exact one_alloc _ _
          have hsu := HBU.out.size
          have HR4 := hide (HR3.out.next (HBU.out.trans (bq.mono hsu)) HR3.out.lt)
          have HB4 := hide (HB3.out.trans ((HBU.out.trans (bq.mono hsu)).mono HB3.out.size))
          have HX := hide hX
          have HN3 := hide hf
          clear bq hsu HR3 HB3 HBU HS3 hf hX
          go_upto_region 13 with fail
          rw [HX.out]
          have HS4 : Hid True := trivial
          have HVB := hide (verbs79 W4)
          have bv := one_alloc W4 (.cells #[.string ⟨#[43]⟩, .string ⟨#[45]⟩, .string ⟨#[195, 151]⟩, .string ⟨#[124]⟩, .string ⟨#[126]⟩, .string ⟨#[226, 141, 179]⟩, .string ⟨#[226, 141, 180]⟩, .string ⟨#[226, 137, 162]⟩, .string ⟨#[44]⟩, .string ⟨#[226, 138, 150]⟩, .string ⟨#[226, 140, 189]⟩, .string ⟨#[226, 141, 137]⟩, .string ⟨#[226, 141, 139]⟩, .string ⟨#[226, 141, 146]⟩, .string ⟨#[226, 136, 170]⟩, .string ⟨#[226, 138, 130]⟩, .string ⟨#[226, 138, 131]⟩, .string ⟨#[195, 183]⟩, .string ⟨#[226, 140, 138]⟩, .string ⟨#[226, 140, 136]⟩, .string ⟨#[61]⟩, .string ⟨#[226, 137, 160]⟩, .string ⟨#[60]⟩, .string ⟨#[62]⟩, .string ⟨#[226, 137, 164]⟩, .string ⟨#[226, 137, 165]⟩, .string ⟨#[226, 134, 145]⟩, .string ⟨#[226, 134, 147]⟩, .string ⟨#[226, 141, 170]⟩, .string ⟨#[226, 136, 138]⟩, .string ⟨#[226, 140, 191]⟩, .string ⟨#[47]⟩, .string ⟨#[92]⟩, .string ⟨#[226, 141, 128]⟩, .string ⟨#[226, 140, 183]⟩, .string ⟨#[226, 141, 168]⟩, .string ⟨#[226, 141, 163]⟩, .string ⟨#[226, 139, 132]⟩, .string ⟨#[226, 136, 152, 46]⟩] 9)
          have HC := hide (HF.out fxL4 (by decide) (by decide) W4.heap.size 39 4 _ (WsIn.new W4 fxL4 9))
          obtain ⟨V, hV⟩ : ∃ V, W4.alloc (.cells #[.string ⟨#[43]⟩, .string ⟨#[45]⟩, .string ⟨#[195, 151]⟩, .string ⟨#[124]⟩, .string ⟨#[126]⟩, .string ⟨#[226, 141, 179]⟩, .string ⟨#[226, 141, 180]⟩, .string ⟨#[226, 137, 162]⟩, .string ⟨#[44]⟩, .string ⟨#[226, 138, 150]⟩, .string ⟨#[226, 140, 189]⟩, .string ⟨#[226, 141, 137]⟩, .string ⟨#[226, 141, 139]⟩, .string ⟨#[226, 141, 146]⟩, .string ⟨#[226, 136, 170]⟩, .string ⟨#[226, 138, 130]⟩, .string ⟨#[226, 138, 131]⟩, .string ⟨#[195, 183]⟩, .string ⟨#[226, 140, 138]⟩, .string ⟨#[226, 140, 136]⟩, .string ⟨#[61]⟩, .string ⟨#[226, 137, 160]⟩, .string ⟨#[60]⟩, .string ⟨#[62]⟩, .string ⟨#[226, 137, 164]⟩, .string ⟨#[226, 137, 165]⟩, .string ⟨#[226, 134, 145]⟩, .string ⟨#[226, 134, 147]⟩, .string ⟨#[226, 141, 170]⟩, .string ⟨#[226, 136, 138]⟩, .string ⟨#[226, 140, 191]⟩, .string ⟨#[47]⟩, .string ⟨#[92]⟩, .string ⟨#[226, 141, 128]⟩, .string ⟨#[226, 140, 183]⟩, .string ⟨#[226, 141, 168]⟩, .string ⟨#[226, 141, 163]⟩, .string ⟨#[226, 139, 132]⟩, .string ⟨#[226, 136, 152, 46]⟩] 9) = V := ⟨_, rfl⟩
          rw [hV] at HVB bv
          have HC2 : Hid (Calls Try.prog 78 #[.string s, .int .i64 (a : Int), .slice (some ⟨W4.heap.size, 0, none⟩) 39 39, .int .i64 4] V fun e w' => e = .returned (tkF 4 a (fxD ((numsS s).drop a) fxL4)) ∧ Below V.heap.size V w') := by rw [← hV]; exact HC.out
          have HBV := hide bv
          clear bv hV HC HF
          go_wp2_with fail
          refine HVB.out.mono ?_
          rintro e U ⟨rfl, rfl⟩
          go_wp2_with fail
          refine HC2.out.mono ?_
          rintro e X ⟨rfl, hbx⟩
          have HBX := hide (HBV.out.trans (hbx.mono HBV.out.size))
          have RX := HR4.out.next HBX.out HR4.out.lt
          have hbw := HB4.out.trans (HBX.out.mono HB4.out.size)
          clear hbx HC2 HVB HBV
          cases hf : fxD ((numsS s).drop a) fxL4 with
          | some t =>
            simp only [tkF]
            have HE := hide (show RES = some (4, t) by rw [← HRES.out]; unfold fixD; simp [hf, HN0.out, HN1.out, HN2.out, HN3.out])
            obtain ⟨W9, hW9⟩ : ∃ W9, X.setCells w.heap.size 0 [.int .i64 4, .string t, .slice none 0 0, .slice none 0 0, .int .i64 (a : Int)] = W9 := ⟨_, rfl⟩
            have HW9 : Hid (X.setCells w.heap.size 0 (#[.int .i64 4, .string t, .slice none 0 0, .slice none 0 0, .int .i64 (a : Int)] : Array Value).toList = W9) := hW9
            obtain ⟨C9, B9⟩ := RX.put (us := [.int .i64 4, .string t, .slice none 0 0, .slice none 0 0, .int .i64 (a : Int)]) (by simp) hW9
            have HTH := hide (RX.there (n := 5) (by simp))
            have HC9 := hide C9
            have HB9 := hide (hbw.trans (B9.below hbw.size fun k hk => by omega))
            clear RX C9 B9 hW9 hbw HR4 HB4 HBX hf
            go_wp2_with (first | (refine wpList_store_mid rfl 43 (.tmp 4) (.tmp 54) rfl w.heap.size 0 #[.int .i64 4, .string t, .slice none 0 0, .slice none 0 0, .int .i64 (a : Int)] rfl rfl HTH.out (by kernel_rfl) (by simp [Value.oneCell']) ?_; rw [HW9.out]))
            have r0 := HC9.out.c 0 _ rfl
            have r1 := HC9.out.c 1 _ rfl
            have r2 := HC9.out.c 2 _ rfl
            have r3 := HC9.out.c 3 _ rfl
            have r4 := HC9.out.c 4 _ rfl
            exact bodyPost_ret (v := .tuple #[.agg #[.int .i64 4, .string t, .slice none 0 0, .slice none 0 0, .int .i64 (a : Int)], .bool true]) (by simp [results, Try.results51, go_sem, r0, r1, r2, r3, r4]) rfl ⟨by rw [HE.out]; rfl, HB9.out⟩
          | none =>
            simp only [tkF]
            have HE := hide (show RES = none by rw [← HRES.out]; unfold fixD; simp [hf, HN0.out, HN1.out, HN2.out, HN3.out])
            obtain ⟨W9, hW9⟩ : ∃ W9, X.setCells w.heap.size 0 [.int .i64 0, .string ⟨#[]⟩, .slice none 0 0, .slice none 0 0, .int .i64 0] = W9 := ⟨_, rfl⟩
            have HW9 : Hid (X.setCells w.heap.size 0 (#[.int .i64 0, .string ⟨#[]⟩, .slice none 0 0, .slice none 0 0, .int .i64 0] : Array Value).toList = W9) := hW9
            obtain ⟨C9, B9⟩ := RX.put (us := [.int .i64 0, .string ⟨#[]⟩, .slice none 0 0, .slice none 0 0, .int .i64 0]) (by simp) hW9
            have HTH := hide (RX.there (n := 5) (by simp))
            have HC9 := hide C9
            have HB9 := hide (hbw.trans (B9.below hbw.size fun k hk => by omega))
            clear RX C9 B9 hW9 hbw HR4 HB4 HBX hf
            go_wp2_with (first | (refine wpList_store_mid rfl 43 (.tmp 4) (.tmp 54) rfl w.heap.size 0 #[.int .i64 0, .string ⟨#[]⟩, .slice none 0 0, .slice none 0 0, .int .i64 0] rfl rfl HTH.out (by kernel_rfl) (by simp [Value.oneCell']) ?_; rw [HW9.out]))
            have r0 := HC9.out.c 0 _ rfl
            have r1 := HC9.out.c 1 _ rfl
            have r2 := HC9.out.c 2 _ rfl
            have r3 := HC9.out.c 3 _ rfl
            have r4 := HC9.out.c 4 _ rfl
            exact bodyPost_ret (v := .tuple #[.agg #[.int .i64 0, .string ⟨#[]⟩, .slice none 0 0, .slice none 0 0, .int .i64 0], .bool false]) (by simp [results, Try.results51, go_sem, r0, r1, r2, r3, r4]) rfl ⟨by rw [HE.out]; rfl, HB9.out⟩
end Go.Proofs.Ytnaejfoighmfeaa.Rn
namespace Go.Proofs.Ytnaejfoighmfeaa.Rn
open Go.ChangeShapes Go.WideShapes Go.ChangeAt Go.RowKit
set_option maxRecDepth 100000
set_option linter.unusedVariables false
set_option linter.unusedSimpArgs false
/-- Where a word of letters and digits ends. -/
def wrdE (s : ByteArray) (a : Nat) : Nat := a + 1 + lead nmB ((numsS s).drop (a + 1))
set_option maxHeartbeats 4000000 in
theorem word50 (s : ByteArray) (a : Nat) (ha : a < s.size) (hs : s.size ≤ 8192) (w : World) :
    Calls Try.prog 50 #[.string s, .int .i64 (a : Int)] w fun e w' => e = .returned (.tuple #[.agg #[.int .i64 3, .string (cutS s a (wrdE s a)), .slice none 0 0, .slice none 0 0, .int .i64 (a : Int)], .int .i64 (wrdE s a : Int)]) ∧ Below w.heap.size w w' := by
  obtain ⟨W1, hW1⟩ : ∃ W1, w.alloc (.cells #[.int .i64 0, .string ⟨#[]⟩, .slice none 0 0, .slice none 0 0, .int .i64 0] 43) = W1 := ⟨_, rfl⟩
  have b1 : Below w.heap.size w W1 := by rw [← hW1]; exact one_alloc _ _
  have R1 : Cs W1 w.heap.size [.int .i64 0, .string ⟨#[]⟩, .slice none 0 0, .slice none 0 0, .int .i64 0] := by rw [← hW1]; exact Cs.new w [.int .i64 0, .string ⟨#[]⟩, .slice none 0 0, .slice none 0 0, .int .i64 0] 43
  have HX : Hid (∀ j, j < s.size → ∀ W, (Instr.index 9 (.string s) (.int .i64 (j : Int))).run Try.prog W = .ok (.int .u8 (byt s j)) W) := fun j h W => byt_run s j h W
  have HY := hide (fun j hj => lead_at s nmB j hj)
  have HZ := hide (fun j hj => lead_end s nmB j hj)
  have hle := lead_le nmB ((numsS s).drop (a + 1))
  rw [List.length_drop, numsS_len] at hle
  obtain ⟨E, hE⟩ : ∃ E, wrdE s a = E := ⟨_, rfl⟩
  have hEE : E = a + 1 + lead nmB ((numsS s).drop (a + 1)) := hE.symm
  have hEl : a + 1 ≤ E ∧ E ≤ s.size := by omega
  have HCUT := hide (fun (x : Int) (h : x = (E : Int)) W => cut_run s a E (by omega) hEl.2 (a : Int) x rfl h W)
  rw [hE]
  obtain ⟨CS, hCS⟩ : ∃ CS, cutS s a E = CS := ⟨_, rfl⟩
  rw [hCS] at HCUT ⊢
  obtain ⟨F, hF⟩ : ∃ F : Nat → Nat, ∀ j, lead nmB ((numsS s).drop j) = F j := ⟨_, fun _ => rfl⟩
  simp only [hF] at HY HZ hEE hle
  have HLE := hide (fun c W => letter49 c W)
  have HDI := hide (fun c W => digit73 c W)
  have HW1 := hide hW1
  have HB1 := hide b1
  have HR1 := hide R1
  have HEE := hide hEE
  obtain ⟨L, hL⟩ : ∃ L, L = s.size := ⟨_, rfl⟩
  have HL := hide hL
  rw [← hL] at HX HY HZ hs ha hEl
  generalize hB : byt s = Bt at *
  clear hF hCS hE hEE hW1 b1 R1 hle hB
  go_enter Try.func50, Try.ntmps50
  go_wp2
  rw [HW1.out]
  go_loopg [6] (L - (a + 1)) (fun g iv wr => ∃ j : Nat, g + j = L ∧ a + 1 ≤ j ∧ iv = .int .i64 (j : Int) ∧ j + F j = E ∧ wr = W1)
  case atStart => exact ⟨a + 1, by omega, by omega, by go_num, HEE.out.symm, rfl⟩
  case round =>
    clear HW1 HEE
    obtain ⟨j, hj, haj, rfl, hf, rfl⟩ := hrel
    have HF := hide hf
    clear hf
    by_cases hlt : j < L
    · have hx := HX.out j hlt
      have hy := HY.out j hlt
      have hlt2 : (j : Int) < (s.size : Int) := by omega
      have HL1 := hide (HLE.out (Bt j))
      have HD1 := hide (HDI.out (Bt j))
      clear HX HY HZ HLE HDI
      generalize Bt j = c at *
      cases hl : ltB c with
      | true =>
        have HG := hide (show j + 1 + F (j + 1) = E by rw [← HF.out, hy]; simp [nmB, hl]; omega)
        simp only [hl] at HL1
        clear hy HF hL HD1 hl HCUT
        go_wp2_with fail
        refine (HL1.out _).mono ?_
        rintro e w2 ⟨rfl, rfl⟩
        clear HL1
        go_wp2
        go_roundg (L - (j + 1))
        case rel => exact ⟨j + 1, by omega, by omega, by go_num, HG.out, rfl⟩
        case measure => omega
      | false =>
        cases hd : dgB c with
        | true =>
          have HG := hide (show j + 1 + F (j + 1) = E by rw [← HF.out, hy]; simp [nmB, hl, hd]; omega)
          simp only [hl] at HL1
          simp only [hd] at HD1
          clear hy HF hL hl hd HCUT
          go_wp2_with fail
          refine (HL1.out _).mono ?_
          rintro e w2 ⟨rfl, rfl⟩
          clear HL1
          go_wp2_with fail
          refine (HD1.out _).mono ?_
          rintro e w2 ⟨rfl, rfl⟩
          clear HD1
          go_wp2
          go_roundg (L - (j + 1))
          case rel => exact ⟨j + 1, by omega, by omega, by go_num, HG.out, rfl⟩
          case measure => omega
        | false =>
          have hje : j = E := by rw [← HF.out, hy]; simp [nmB, hl, hd]
          simp only [hl] at HL1
          simp only [hd] at HD1
          clear hy HF hl hd
          subst hje
          have hcut := HCUT.out (j : Int) rfl
          obtain ⟨W9, hW9⟩ : ∃ W9, wr.setCells w.heap.size 0 [.int .i64 3, .string CS, .slice none 0 0, .slice none 0 0, .int .i64 (a : Int)] = W9 := ⟨_, rfl⟩
          have HW9 : Hid (wr.setCells w.heap.size 0 (#[.int .i64 3, .string CS, .slice none 0 0, .slice none 0 0, .int .i64 (a : Int)] : Array Value).toList = W9) := hW9
          obtain ⟨C9, B9⟩ := HR1.out.put (us := [.int .i64 3, .string CS, .slice none 0 0, .slice none 0 0, .int .i64 (a : Int)]) (by simp) hW9
          have HTH := hide (HR1.out.there (n := 5) (by simp))
          have HC9 := hide C9
          have HB9 := hide (HB1.out.trans (B9.below HB1.out.size fun k hk => by omega))
          clear C9 B9 hW9 HB1 HR1 hL HCUT
          go_wp2_with fail
          refine (HL1.out _).mono ?_
          rintro e w2 ⟨rfl, rfl⟩
          clear HL1
          go_wp2_with fail
          refine (HD1.out _).mono ?_
          rintro e w2 ⟨rfl, rfl⟩
          clear HD1
          go_wp2_with (first | (refine wpList_store_mid rfl 43 (.tmp 4) (.tmp 32) rfl w.heap.size 0 #[.int .i64 3, .string CS, .slice none 0 0, .slice none 0 0, .int .i64 (a : Int)] rfl rfl HTH.out (by kernel_rfl) (by simp [Value.oneCell']) ?_; rw [HW9.out]))
          have r0 := HC9.out.c 0 _ rfl
          have r1 := HC9.out.c 1 _ rfl
          have r2 := HC9.out.c 2 _ rfl
          have r3 := HC9.out.c 3 _ rfl
          have r4 := HC9.out.c 4 _ rfl
          exact bodyPost_ret (v := .tuple #[.agg #[.int .i64 3, .string CS, .slice none 0 0, .slice none 0 0, .int .i64 (a : Int)], .int .i64 (j : Int)]) (by simp [results, Try.results50, go_sem, r0, r1, r2, r3, r4]) rfl ⟨rfl, HB9.out⟩
    · have hz := HZ.out j hlt
      have hlt2 : ¬ (j : Int) < (s.size : Int) := by omega
      have hje : j = E := by rw [← HF.out, hz]; rfl
      clear HX HY HZ HLE HDI hz HF
      subst hje
      have hcut := HCUT.out (j : Int) rfl
      obtain ⟨W9, hW9⟩ : ∃ W9, wr.setCells w.heap.size 0 [.int .i64 3, .string CS, .slice none 0 0, .slice none 0 0, .int .i64 (a : Int)] = W9 := ⟨_, rfl⟩
      have HW9 : Hid (wr.setCells w.heap.size 0 (#[.int .i64 3, .string CS, .slice none 0 0, .slice none 0 0, .int .i64 (a : Int)] : Array Value).toList = W9) := hW9
      obtain ⟨C9, B9⟩ := HR1.out.put (us := [.int .i64 3, .string CS, .slice none 0 0, .slice none 0 0, .int .i64 (a : Int)]) (by simp) hW9
      have HTH := hide (HR1.out.there (n := 5) (by simp))
      have HC9 := hide C9
      have HB9 := hide (HB1.out.trans (B9.below HB1.out.size fun k hk => by omega))
      clear C9 B9 hW9 HB1 HR1 hL HCUT
      go_wp2_with (first | (refine wpList_store_mid rfl 43 (.tmp 4) (.tmp 32) rfl w.heap.size 0 #[.int .i64 3, .string CS, .slice none 0 0, .slice none 0 0, .int .i64 (a : Int)] rfl rfl HTH.out (by kernel_rfl) (by simp [Value.oneCell']) ?_; rw [HW9.out]))
      have r0 := HC9.out.c 0 _ rfl
      have r1 := HC9.out.c 1 _ rfl
      have r2 := HC9.out.c 2 _ rfl
      have r3 := HC9.out.c 3 _ rfl
      have r4 := HC9.out.c 4 _ rfl
      exact bodyPost_ret (v := .tuple #[.agg #[.int .i64 3, .string CS, .slice none 0 0, .slice none 0 0, .int .i64 (a : Int)], .int .i64 (j : Int)]) (by simp [results, Try.results50, go_sem, r0, r1, r2, r3, r4]) rfl ⟨rfl, HB9.out⟩
end Go.Proofs.Ytnaejfoighmfeaa.Rn
namespace Go.Proofs.Ytnaejfoighmfeaa.Rn
open Go.ChangeShapes Go.WideShapes Go.ChangeAt Go.RowKit
set_option maxRecDepth 100000
set_option linter.unusedVariables false
set_option linter.unusedSimpArgs false
def stpD (n : Int) (k : Nat) : Nat := if n = 39 then 2 else k
/-- A text's signs, from behind its first quote on: which, how far, the error (0: none; -1: it does not end). -/
def quoD : Nat → List Int → List Int × Nat × Int
  | 0, _ => ([], 0, -1)
  | f + 1, l => if l = [] then ([], 0, -1) else match oneF l with
    | none => ([], 0, 3)
    | some (n, k) => if n = 39 ∧ hasP l [39, 39] = false then ([], 0, 0) else if n < 32 ∨ n = 127 then ([], 0, 2) else
      (n :: (quoD f (l.drop (stpD n k))).1, (quoD f (l.drop (stpD n k))).2.1 + stpD n k, (quoD f (l.drop (stpD n k))).2.2)
theorem oneF_len {l : List Int} {n : Int} {k : Nat} (h : oneF l = some (n, k)) : 1 ≤ k ∧ k ≤ l.length := by
  cases l with
  | nil => cases h
  | cons c t =>
    simp only [oneF] at h
    split at h
    · cases h
    · split at h
      · cases h
      · split at h
        · simp at h; simp; omega
        · cases h
theorem stpD_len {l : List Int} {n : Int} {k : Nat} (h : oneF l = some (n, k)) (hq : ¬ (n = 39 ∧ hasP l [39, 39] = false)) : 1 ≤ stpD n k ∧ stpD n k ≤ l.length := by
  have := oneF_len h
  unfold stpD
  split
  · rename_i h39
    cases hp : hasP l [39, 39] with
    | false => exact absurd ⟨h39, hp⟩ hq
    | true =>
      have := hasP_len hp
      simp at this
      omega
  · exact this
theorem quoD_fuel (f : Nat) : ∀ f' l, l.length < f → l.length < f' → quoD f' l = quoD f l := by
  induction f with
  | zero => intro f' l h; omega
  | succ f ih =>
    intro f' l hf hf'
    obtain ⟨f', rfl⟩ : ∃ g, f' = g + 1 := ⟨f' - 1, by omega⟩
    rw [quoD, quoD]
    split
    · rfl
    · rename_i hl
      split
      · rfl
      · rename_i n k hk
        split
        · rfl
        · rename_i hq
          have hs := stpD_len hk hq
          split
          · rfl
          · rw [ih f' _ (by rw [List.length_drop]; omega) (by rw [List.length_drop]; omega)]
def QD (l : List Int) : List Int × Nat × Int := quoD (l.length + 1) l
def TotQ (p j : Nat) (xs : List Int) (S : List Int × Nat × Int) : List Int × Nat × Int := (xs ++ S.1, j - p + S.2.1, S.2.2)
theorem QD_nil : QD [] = ([], 0, -1) := rfl
theorem QD_none {l : List Int} (hl : l ≠ []) (h : oneF l = none) : QD l = ([], 0, 3) := by
  unfold QD; rw [quoD, if_neg hl, h]
theorem QD_end {l : List Int} {k : Nat} (hl : l ≠ []) (h : oneF l = some (39, k)) (hp : hasP l [39, 39] = false) : QD l = ([], 0, 0) := by
  unfold QD; rw [quoD, if_neg hl, h]; simp [hp]
theorem QD_bad {l : List Int} {n : Int} {k : Nat} (hl : l ≠ []) (h : oneF l = some (n, k)) (hq : ¬ (n = 39 ∧ hasP l [39, 39] = false)) (hb : n < 32 ∨ n = 127) : QD l = ([], 0, 2) := by
  unfold QD; rw [quoD, if_neg hl, h]; simp only; rw [if_neg hq, if_pos hb]
theorem QD_go {l : List Int} {n : Int} {k : Nat} (hl : l ≠ []) (h : oneF l = some (n, k)) (hq : ¬ (n = 39 ∧ hasP l [39, 39] = false)) (hb : ¬ (n < 32 ∨ n = 127)) (p j : Nat) (xs : List Int) (hpj : p ≤ j) :
    TotQ p j xs (QD l) = TotQ p (j + stpD n k) (xs ++ [n]) (QD (l.drop (stpD n k))) := by
  have hs := stpD_len h hq
  have e : QD l = (n :: (QD (l.drop (stpD n k))).1, (QD (l.drop (stpD n k))).2.1 + stpD n k, (QD (l.drop (stpD n k))).2.2) := by
    unfold QD
    rw [quoD, if_neg hl, h]
    simp only
    rw [if_neg hq, if_neg hb, quoD_fuel ((l.drop (stpD n k)).length + 1) l.length _ (by omega) (by rw [List.length_drop]; omega)]
  rw [e]
  generalize QD (l.drop (stpD n k)) = S
  obtain ⟨x, y, z⟩ := S
  unfold TotQ
  exact Prod.ext (by simp) (Prod.ext (by simp; omega) rfl)
/-- What Quoted tells. -/
def GvQ (T : List Int × Nat × Int) (a : Nat) (w : World) (e : Ending) (w' : World) : Prop := Below w.heap.size w w' ∧
  if T.2.2 = 0 then ∃ z1 m1 z2 m2, e = .returned (.tuple #[.agg #[.int .i64 2, .string ⟨#[]⟩, .slice z1 (textA T.1).shape.length m1, .slice z2 (textA T.1).cells.length m2, .int .i64 (a : Int)], .int .i64 ((a + 1 + T.2.1 : Nat) + 1 : Int), .agg #[.int .i64 0, .int .i64 0, .int .i64 0]]) ∧ ArIn 1 w.heap.size w' (textA T.1) (.agg #[.slice z1 (textA T.1).shape.length m1, .slice z2 (textA T.1).cells.length m2])
  else ∃ pl : Nat, e = .returned (.tuple #[.agg #[.int .i64 2, .string ⟨#[]⟩, .slice none 0 0, .slice none 0 0, .int .i64 (a : Int)], .int .i64 ((a + 1 + T.2.1 : Nat) : Int), .agg #[.int .i64 (if T.2.2 = -1 then 2 else T.2.2), .int .i64 (pl : Int), .int .i64 0]]) ∧ pl = if T.2.2 = -1 then a else a + 1 + T.2.1
set_option maxHeartbeats 16000000 in
theorem quoted48 (s : ByteArray) (a : Nat) (ha : a < s.size) (hs : s.size ≤ 8192) (w : World) :
    Calls Try.prog 48 #[.string s, .int .i64 (a : Int)] w fun e w' => GvQ (QD ((numsS s).drop (a + 1))) a w e w' := by
  obtain ⟨i0, hi, hz0, hz1, hz2⟩ := info_parts info2
  obtain ⟨T, hTT⟩ : ∃ T, QD ((numsS s).drop (a + 1)) = T := ⟨_, rfl⟩
  rw [hTT]
  obtain ⟨W3, hW3⟩ : ∃ W3, ((w.alloc (.cells #[.int .i64 0, .string ⟨#[]⟩, .slice none 0 0, .slice none 0 0, .int .i64 0] 43)).alloc (.cells #[.int .i64 0, .int .i64 0, .int .i64 0] 28)).alloc (.cells #[.int .i64 2, .string ⟨#[]⟩, .slice none 0 0, .slice none 0 0, .int .i64 (a : Int)] 43) = W3 := ⟨_, rfl⟩
  have hs1 : (w.alloc (.cells #[.int .i64 0, .string ⟨#[]⟩, .slice none 0 0, .slice none 0 0, .int .i64 0] 43)).heap.size = w.heap.size + 1 := by simp
  have hs2 : ((w.alloc (.cells #[.int .i64 0, .string ⟨#[]⟩, .slice none 0 0, .slice none 0 0, .int .i64 0] 43)).alloc (.cells #[.int .i64 0, .int .i64 0, .int .i64 0] 28)).heap.size = w.heap.size + 2 := by simp
  have b3 : Below w.heap.size w W3 := by rw [← hW3]; exact (two_allocs _ _ _).trans ((one_alloc _ _).mono (by omega))
  have s3 : W3.heap.size = w.heap.size + 3 := by rw [← hW3]; simp
  have R3 : Cs W3 w.heap.size [.int .i64 0, .string ⟨#[]⟩, .slice none 0 0, .slice none 0 0, .int .i64 0] := by
    rw [← hW3]
    exact ((Cs.new w [.int .i64 0, .string ⟨#[]⟩, .slice none 0 0, .slice none 0 0, .int .i64 0] 43).next (one_alloc _ _) (by simp)).next (one_alloc _ _) (by omega)
  have F3 : Cs W3 (w.heap.size + 1) [.int .i64 0, .int .i64 0, .int .i64 0] := by
    have h := Cs.new (w.alloc (.cells #[.int .i64 0, .string ⟨#[]⟩, .slice none 0 0, .slice none 0 0, .int .i64 0] 43)) [.int .i64 0, .int .i64 0, .int .i64 0] 28
    rw [hs1] at h
    rw [← hW3]
    exact h.next (one_alloc _ _) (by omega)
  have D3 : Cs W3 (w.heap.size + 2) [.int .i64 2, .string ⟨#[]⟩, .slice none 0 0, .slice none 0 0, .int .i64 (a : Int)] := by
    have h := Cs.new ((w.alloc (.cells #[.int .i64 0, .string ⟨#[]⟩, .slice none 0 0, .slice none 0 0, .int .i64 0] 43)).alloc (.cells #[.int .i64 0, .int .i64 0, .int .i64 0] 28)) [.int .i64 2, .string ⟨#[]⟩, .slice none 0 0, .slice none 0 0, .int .i64 (a : Int)] 43
    rw [hs2] at h
    rw [← hW3]
    exact h
  have HSTATE : Hid (∀ wr, Below (w.heap.size + 3) W3 wr → Cs wr w.heap.size [.int .i64 0, .string ⟨#[]⟩, .slice none 0 0, .slice none 0 0, .int .i64 0] ∧ Cs wr (w.heap.size + 1) [.int .i64 0, .int .i64 0, .int .i64 0] ∧ Cs wr (w.heap.size + 2) [.int .i64 2, .string ⟨#[]⟩, .slice none 0 0, .slice none 0 0, .int .i64 (a : Int)] ∧ Below w.heap.size w wr ∧ w.heap.size + 3 ≤ wr.heap.size) := fun wr h =>
    ⟨R3.next h (by omega), F3.next h (by omega), D3.next h (by omega), b3.trans (h.mono (by omega)), by have := h.size; omega⟩
  have HNX0 : Hid (Below (w.heap.size + 3) W3 W3) := Below.refl _ _
  have HOWN : Hid (W3.ownsRow (w.heap.size + 3) 2 1 (.slice none 0 0) 0 (iv [])) := World.ownsRow_nil _ _ _ _
  have HSG := hide (fun j (hj : j ≤ s.size) W => sign45 s j hj (by omega) W)
  have HQQ := hide (fun j (hj : j ≤ s.size) W => starts25 s ⟨#[39, 39]⟩ j hj (by omega) (by decide) W)
  have hqq : numsS ⟨#[39, 39]⟩ = [39, 39] := by decide
  rw [hqq] at HQQ
  have HNE := hide (fun j (hj : j < s.size) => (show (numsS s).drop j ≠ [] from fun h => by
    have := congrArg List.length h
    rw [List.length_drop, numsS_len] at this
    simp at this
    omega))
  have HNL := hide (fun j (hj : ¬ j < s.size) => (show (numsS s).drop j = [] from List.drop_eq_nil_of_le (by rw [numsS_len]; omega)))
  have HDR := hide (fun j k => (show ((numsS s).drop j).drop k = (numsS s).drop (j + k) from List.drop_drop))
  have HLN := hide (fun j => (show ((numsS s).drop j).length = s.size - j by rw [List.length_drop, numsS_len]))
  have HT0 := hide (show TotQ (a + 1) (a + 1) [] (QD ((numsS s).drop (a + 1))) = T from by rw [← hTT]; unfold TotQ; refine Prod.ext (by simp) (Prod.ext (by simp) rfl))
  obtain ⟨RS, hRS⟩ : ∃ RS : Nat → List Int, ∀ j, (numsS s).drop j = RS j := ⟨_, fun _ => rfl⟩
  simp only [hRS] at HSG HQQ HNE HNL HDR HLN HT0
  have HW3 := hide hW3
  have HA0 := hide ha
  have HSZ := hide hs
  have ha9 : a ≤ 8192 := by omega
  clear hRS hTT hW3 hs1 hs2 b3 s3 R3 F3 D3 ha hs hqq
  go_enter Try.func48, Try.ntmps48
  go_wp2
  rw [HW3.out]
  go_loopg [8, 9] (s.size - a) (fun g lv iv' wr => ∃ (j : Nat) (xs : List Int), g + j = s.size + 1 ∧ j ≤ s.size ∧ a + 1 ≤ j ∧ xs.length ≤ j ∧ iv' = .int .i64 (j : Int) ∧ wr.ownsRow (w.heap.size + 3) 2 1 lv xs.length (iv xs) ∧ Below (w.heap.size + 3) W3 wr ∧ TotQ (a + 1) j xs (QD (RS j)) = T)
  case atStart => exact ⟨a + 1, [], by have := HA0.out; omega, HA0.out, Nat.le_refl _, by simp, by go_num, HOWN.out, HNX0.out, HT0.out⟩
  case round =>
    clear HOWN HNX0 HT0 HW3
    obtain ⟨j, xs, hg, hjs, haj, hxj, rfl, hown, hnx, htot⟩ := hrel
    have hs9 := HSZ.out
    have HOW := hide hown
    have HNX := hide hnx
    have HTO := hide htot
    clear hown hnx htot
    by_cases hlt : j < s.size
    · have HS1 := hide (HSG.out j hjs)
      have hne := HNE.out j hlt
      have HQ1 := hide (HQQ.out j hjs)
      have hln := HLN.out j
      clear HSG HQQ HNE HNL HLN
      have hlt2 : (j : Int) < (s.size : Int) := by omega
      cases ho : oneF (RS j) with
      | none =>
        have HE := hide (show T = (xs, j - (a + 1), 3) by rw [← HTO.out, QD_none hne ho]; unfold TotQ; exact Prod.ext (by simp) (Prod.ext (by simp) rfl))
        have hon : oneN (RS j) = 0 ∧ oneK (RS j) = 0 := by unfold oneN oneK; rw [ho]; exact ⟨rfl, rfl⟩
        rw [hon.1, hon.2] at HS1
        clear hon ho HQ1 HTO HDR hne
        go_wp2_with fail
        refine (HS1.out _).mono ?_
        rintro e w1 ⟨rfl, hb1⟩
        have HNX := hide (HNX.out.trans (hb1.mono (HSTATE.out _ HNX.out).2.2.2.2))
        clear hb1 HS1 HOW
        obtain ⟨hrt, hrf, hwd, hbw, hl3⟩ := HSTATE.out w1 HNX.out
        have c0 := hwd.c 0 _ rfl
        have c1 := hwd.c 1 _ rfl
        have c2 := hwd.c 2 _ rfl
        have c3 := hwd.c 3 _ rfl
        have c4 := hwd.c 4 _ rfl
        obtain ⟨W8, hW8⟩ : ∃ W8, w1.setCells w.heap.size 0 [.int .i64 2, .string ⟨#[]⟩, .slice none 0 0, .slice none 0 0, .int .i64 (a : Int)] = W8 := ⟨_, rfl⟩
        have HW8 : Hid (w1.setCells w.heap.size 0 (#[.int .i64 2, .string ⟨#[]⟩, .slice none 0 0, .slice none 0 0, .int .i64 (a : Int)] : Array Value).toList = W8) := hW8
        obtain ⟨C8, B8⟩ := hrt.put (us := [.int .i64 2, .string ⟨#[]⟩, .slice none 0 0, .slice none 0 0, .int .i64 (a : Int)]) (by simp) hW8
        have F8 := hrf.but B8 (by omega)
        obtain ⟨W9, hW9⟩ : ∃ W9, W8.setCells (w.heap.size + 1) 0 [.int .i64 3, .int .i64 (j : Int), .int .i64 0] = W9 := ⟨_, rfl⟩
        have HW9 : Hid (W8.setCells (w.heap.size + 1) 0 (#[.int .i64 3, .int .i64 (j : Int), .int .i64 0] : Array Value).toList = W9) := hW9
        obtain ⟨C9, B9⟩ := F8.put (us := [.int .i64 3, .int .i64 (j : Int), .int .i64 0]) (by simp) hW9
        have D9 := C8.but B9 (by omega)
        have HTH8 := hide (hrt.there (n := 5) (by simp))
        have HTH9 := hide (F8.there (n := 3) (by simp))
        have HC9 := hide C9
        have HD9 := hide D9
        have HB9 := hide ((hbw.trans (B8.below hbw.size fun k hk => by omega)).trans (B9.below (by have := hbw.size; have := B8.size; omega) fun k hk => by omega))
        clear HSTATE hrt hrf hwd hbw hl3 C8 B8 F8 C9 B9 D9 hW8 hW9
        go_wp2_with (first | (refine wpList_store_mid rfl 43 (.tmp 4) (.tmp 28) rfl w.heap.size 0 #[.int .i64 2, .string ⟨#[]⟩, .slice none 0 0, .slice none 0 0, .int .i64 (a : Int)] rfl rfl HTH8.out (by kernel_rfl) (by simp [Value.oneCell']) ?_; rw [HW8.out]) | (refine wpList_store_mid rfl 28 (.tmp 6) (.tmp 31) rfl (w.heap.size + 1) 0 #[.int .i64 3, .int .i64 (j : Int), .int .i64 0] rfl rfl HTH9.out (by kernel_rfl) (by simp [Value.oneCell']) ?_; rw [HW9.out]))
        have r0 := HD9.out.c 0 _ rfl
        have r1 := HD9.out.c 1 _ rfl
        have r2 := HD9.out.c 2 _ rfl
        have r3 := HD9.out.c 3 _ rfl
        have r4 := HD9.out.c 4 _ rfl
        have q0 := HC9.out.c 0 _ rfl
        have q1 := HC9.out.c 1 _ rfl
        have q2 := HC9.out.c 2 _ rfl
        exact bodyPost_ret (v := .tuple #[.agg #[.int .i64 2, .string ⟨#[]⟩, .slice none 0 0, .slice none 0 0, .int .i64 (a : Int)], .int .i64 (j : Int), .agg #[.int .i64 3, .int .i64 (j : Int), .int .i64 0]]) (by simp [results, Try.results48, go_sem, r0, r1, r2, r3, r4, q0, q1, q2]) rfl (by
            rw [HE.out]
            refine ⟨HB9.out, ?_⟩
            rw [if_neg (by show ¬ ((3 : Int) = 0); decide)]
            refine ⟨j, ?_, ?_⟩
            · rw [if_neg (by show ¬ ((3 : Int) = -1); decide), show a + 1 + (j - (a + 1)) = j by omega]
            · rw [if_neg (by show ¬ ((3 : Int) = -1); decide)]; show j = a + 1 + (j - (a + 1)); omega)
      | some p =>
        obtain ⟨n, k⟩ := p
        have hon : oneN (RS j) = n ∧ oneK (RS j) = k := by unfold oneN oneK; rw [ho]; exact ⟨rfl, rfl⟩
        rw [hon.1, hon.2] at HS1
        have hkl := oneF_len ho
        rw [hln] at hkl
        have hk0 : ((k : Int) == 0) = false := beq_eq_false_iff_ne.2 (by omega)
        have hst := fun hq => stpD_len ho hq
        rw [hln] at hst
        have HQE := hide (fun (h39 : n = 39) (hp : hasP (RS j) [39, 39] = false) => QD_end (k := k) hne (by rw [ho, h39]) hp)
        have HQB := hide (fun hq hb => QD_bad hne ho hq hb)
        have HQG := hide (fun hq hb => QD_go hne ho hq hb (a + 1) j xs haj)
        rw [HDR.out] at HQG
        clear hon ho HDR hne hln
        by_cases h39 : n = 39
        · subst h39
          cases hp : hasP (RS j) [39, 39] with
          | false =>
            rw [hp] at HQ1
            have HE := hide (show T = (xs, j - (a + 1), 0) by rw [← HTO.out, HQE.out rfl hp]; unfold TotQ; exact Prod.ext (by simp) (Prod.ext (by simp) rfl))
            clear HQE HQB HQG HTO hst hp
            go_wp2_with fail
            refine (HS1.out _).mono ?_
            rintro e w1 ⟨rfl, hb1⟩
            have HNX1 := hide (HNX.out.trans (hb1.mono (HSTATE.out _ HNX.out).2.2.2.2))
            have HOW1 := hide (owns_next HOW.out hb1)
            clear hb1 HS1 HOW HNX
            go_wp2_with fail
            refine (HQ1.out _).mono ?_
            rintro e w2 ⟨rfl, rfl⟩
            clear HQ1
            obtain ⟨pa, pc, rfl, hrow⟩ := row_owned (lo := w.heap.size + 3) HOW1.out (by omega) (Nat.le_refl _)
            have HTX := hide (rtext_any 0 xs pa pc w2 hrow (by omega))
            obtain ⟨hrt, hrf, hwd, hbw, hl3⟩ := HSTATE.out w2 HNX1.out
            have HRT := hide hrt
            have HRF := hide hrf
            have HWD := hide hwd
            have HBW := hide hbw
            have HL3 := hide hl3
            clear hrt hrf hwd hbw hl3 HSTATE HNX1 HOW1 hrow
            go_wp2_with fail
            refine HTX.out.mono ?_
            rintro e w7 ⟨⟨vv, rfl, hin⟩, hb7⟩
            clear HTX
            have HIN := hide hin
            obtain ⟨y1, n1, y2, n2, hvv, -⟩ := hin
            obtain ⟨SH, hSH⟩ : ∃ SH, (textA xs).shape.length = SH := ⟨_, rfl⟩
            obtain ⟨CL, hCL⟩ : ∃ CL, (textA xs).cells.length = CL := ⟨_, rfl⟩
            have HSH := hide hSH
            have HCL := hide hCL
            have hv2 : vv = .agg #[.slice y1 SH n1, .slice y2 CL n2] := by rw [← hSH, ← hCL]; exact hvv
            subst hv2
            clear hSH hCL hvv
            have D7 := HWD.out.next hb7 HWD.out.lt
            obtain ⟨D8, B8⟩ := D7.set2 (b2 := .slice y1 SH n1) (b3 := .slice y2 CL n2)
            have R8 := (HRT.out.next hb7 HRT.out.lt).but B8 (by omega)
            have F8 := (HRF.out.next hb7 HRF.out.lt).but B8 (by omega)
            have HBW8 := hide ((HBW.out.trans (hb7.mono HBW.out.size)).trans (B8.below (by have := HL3.out; have := hb7.size; omega) fun k hk => by omega))
            have hl8 : w.heap.size + 3 ≤ ((w7.setCell ⟨w.heap.size + 2, 2, none⟩ (.slice y1 SH n1)).setCell ⟨w.heap.size + 2, 3, none⟩ (.slice y2 CL n2)).heap.size := by have := B8.size; have := hb7.size; have := HL3.out; omega
            have e2 := D7.c 2 _ rfl
            have e3 := D7.c 3 _ rfl
            have h2 := D7.z 2
            have h3 := D7.z 3
            obtain ⟨W6, hW6⟩ : ∃ W6, (w7.setCell ⟨w.heap.size + 2, 2, none⟩ (.slice y1 SH n1)).setCell ⟨w.heap.size + 2, 3, none⟩ (.slice y2 CL n2) = W6 := ⟨_, rfl⟩
            rw [hW6] at D8 B8 R8 F8 HBW8 hl8
            have c0 := D8.c 0 _ rfl
            have c1 := D8.c 1 _ rfl
            have c2 := D8.c 2 _ rfl
            have c3 := D8.c 3 _ rfl
            have c4 := D8.c 4 _ rfl
            obtain ⟨W8, hW8⟩ : ∃ W8, W6.setCells w.heap.size 0 [.int .i64 2, .string ⟨#[]⟩, .slice y1 SH n1, .slice y2 CL n2, .int .i64 (a : Int)] = W8 := ⟨_, rfl⟩
            have HW8 : Hid (W6.setCells w.heap.size 0 (#[.int .i64 2, .string ⟨#[]⟩, .slice y1 SH n1, .slice y2 CL n2, .int .i64 (a : Int)] : Array Value).toList = W8) := hW8
            obtain ⟨C9, B9⟩ := R8.put (us := [.int .i64 2, .string ⟨#[]⟩, .slice y1 SH n1, .slice y2 CL n2, .int .i64 (a : Int)]) (by simp) hW8
            have F9 := F8.but B9 (by omega)
            obtain ⟨W9, hW9⟩ : ∃ W9, W8.setCells (w.heap.size + 1) 0 [.int .i64 0, .int .i64 0, .int .i64 0] = W9 := ⟨_, rfl⟩
            have HW9 : Hid (W8.setCells (w.heap.size + 1) 0 (#[.int .i64 0, .int .i64 0, .int .i64 0] : Array Value).toList = W9) := hW9
            obtain ⟨G9, B10⟩ := F9.put (us := [.int .i64 0, .int .i64 0, .int .i64 0]) (by simp) hW9
            have E9 := C9.but B10 (by omega)
            have HTH8 := hide (R8.there (n := 5) (by simp))
            have HTH9 := hide (F9.there (n := 3) (by simp))
            have HC9 := hide G9
            have HD9 := hide E9
            have HINN : Hid (ArIn 1 w.heap.size W9 (textA xs) (.agg #[.slice y1 SH n1, .slice y2 CL n2])) := by
              have hs7 := hb7.size
              exact arIn_low (((HIN.out.keeps (but_keeps B8 (by have := HL3.out; omega))).keeps (but_keeps B9 (by have := HL3.out; omega))).keeps (but_keeps B10 (by have := HL3.out; omega))) (by have := HL3.out; omega)
            have HB9 := hide ((HBW8.out.trans (B9.below HBW8.out.size fun k hk => by omega)).trans (B10.below (by have := HBW8.out.size; have := B9.size; omega) fun k hk => by omega))
            clear D7 D8 B8 R8 F8 hb7 HRT HRF HWD HIN C9 B9 F9 G9 B10 E9 hW8 hW9 HBW HBW8 hl8
            go_wp2_with (first | (refine wpList_store_mid rfl 43 (.tmp 4) (.tmp 41) rfl w.heap.size 0 #[.int .i64 2, .string ⟨#[]⟩, .slice y1 SH n1, .slice y2 CL n2, .int .i64 (a : Int)] rfl rfl HTH8.out (by kernel_rfl) (by simp [Value.oneCell']) ?_; rw [HW8.out]) | (refine wpList_store_mid rfl 28 (.tmp 6) (.tmp 44) rfl (w.heap.size + 1) 0 #[.int .i64 0, .int .i64 0, .int .i64 0] rfl rfl HTH9.out (by kernel_rfl) (by simp [Value.oneCell']) ?_; rw [HW9.out]))
            have r0 := HD9.out.c 0 _ rfl
            have r1 := HD9.out.c 1 _ rfl
            have r2 := HD9.out.c 2 _ rfl
            have r3 := HD9.out.c 3 _ rfl
            have r4 := HD9.out.c 4 _ rfl
            have q0 := HC9.out.c 0 _ rfl
            have q1 := HC9.out.c 1 _ rfl
            have q2 := HC9.out.c 2 _ rfl
            exact bodyPost_ret (v := .tuple #[.agg #[.int .i64 2, .string ⟨#[]⟩, .slice y1 SH n1, .slice y2 CL n2, .int .i64 (a : Int)], .int .i64 ((j : Int) + 1), .agg #[.int .i64 0, .int .i64 0, .int .i64 0]]) (by simp [results, Try.results48, go_sem, r0, r1, r2, r3, r4, q0, q1, q2]) rfl (by
              rw [HE.out]
              refine ⟨HB9.out, ?_⟩
              rw [if_pos (show ((0 : Int) = 0) from rfl)]
              refine ⟨y1, n1, y2, n2, ?_, ?_⟩
              · show _ = Ending.returned (.tuple #[.agg #[.int .i64 2, .string ⟨#[]⟩, .slice y1 (textA xs).shape.length n1, .slice y2 (textA xs).cells.length n2, .int .i64 (a : Int)], .int .i64 ((a + 1 + (j - (a + 1)) : Nat) + 1 : Int), .agg #[.int .i64 0, .int .i64 0, .int .i64 0]])
                rw [HSH.out, HCL.out, show a + 1 + (j - (a + 1)) = j by omega]
              · show ArIn 1 w.heap.size W9 (textA xs) (.agg #[.slice y1 (textA xs).shape.length n1, .slice y2 (textA xs).cells.length n2])
                rw [HSH.out, HCL.out]; exact HINN.out)
          | true =>
            rw [hp] at HQ1
            have hnq : ¬ ((39 : Int) = 39 ∧ hasP (RS j) [39, 39] = false) := by simp [hp]
            have hs2 : j + 2 ≤ s.size := by have := hst hnq; unfold stpD at this; simp at this; omega
            have hown1 := HQG.out hnq (by omega)
            have hTG : TotQ (a + 1) (j + 2) (xs ++ [39]) (QD (RS (j + 2))) = T := by rw [← HTO.out, hown1]; rfl
            have HTG := hide hTG
            clear HQE HQB HQG HTO hst hp hnq hown1 hTG
            go_wp2_with fail
            refine (HS1.out _).mono ?_
            rintro e w1 ⟨rfl, hb1⟩
            have HNX1 := hide (HNX.out.trans (hb1.mono (HSTATE.out _ HNX.out).2.2.2.2))
            have HOW1 := hide (owns_next HOW.out hb1)
            clear hb1 HS1 HOW HNX
            go_wp2_with fail
            refine (HQ1.out _).mono ?_
            rintro e w2 ⟨rfl, rfl⟩
            clear HQ1
            have hown2 := HOW1.out
            have hlt3 := (HSTATE.out w2 HNX1.out).2.2.2.2
            go_wp2_with (at_builtin; refine wpList_append_own _ rfl _ _ 109 rfl (w.heap.size + 3) 2 i0 (.int .i64 0) 1 8 Try.underlying109 hi hz0 hz1 hz2 rfl (by decide) _ _ _ rfl (hown2.alloc _) ⟨w2.heap.size, 0, none⟩ 1 1 [.int .i64 39] rfl rfl ?c1 ?c2 ?c3 ?c4 ?c5 ?_)
            case c1 =>
              intro j u hj
              match j, hj with
              | 0, hj => simp at hj; subst hj; simp [Addr.add]
            case c2 => intro u hu; simp at hu; subst hu; rfl
            case c3 => unfold maxLen; omega
            case c4 => omega
            case c5 => simp; omega
            intro v' w3 hown' hgrow _
            have hown3 : w3.ownsRow (w.heap.size + 3) 2 1 v' (xs ++ [39]).length (iv (xs ++ [39])) := by
              rw [List.length_append, show iv (xs ++ [39]) = iv xs ++ [.int .i64 39] from List.map_append]; exact hown'
            have HNX3 := hide ((HNX1.out.alloc (show w.heap.size + 3 ≤ w2.heap.size by omega) _).grown hgrow (by simp; omega) (fun q hq => (hown2.lt q hq).1))
            have HOW3 := hide hown3
            clear hown' hgrow hown2 HNX1 HOW1 hown3
            go_wp2
            go_roundg (s.size + 1 - (j + 2))
            case rel => exact ⟨j + 2, xs ++ [39], by omega, hs2, by omega, by rw [List.length_append]; simp; omega, by go_num, HOW3.out, HNX3.out, HTG.out⟩
            case measure => omega
        · have hnq : ¬ (n = 39 ∧ hasP (RS j) [39, 39] = false) := fun h => h39 h.1
          have hn39 : (n == 39) = false := beq_eq_false_iff_ne.2 h39
          have hstk : stpD n k = k := by unfold stpD; rw [if_neg h39]
          by_cases hbad : n < 32 ∨ n = 127
          · have HE := hide (show T = (xs, j - (a + 1), 2) by rw [← HTO.out, HQB.out hnq hbad]; unfold TotQ; exact Prod.ext (by simp) (Prod.ext (by simp) rfl))
            have hbb : n < 32 ∨ (¬ n < 32 ∧ n = 127) := by omega
            clear HQE HQB HQG HTO hst hnq HQ1 hbad
            rcases hbb with hlow | ⟨hnl, h127⟩
            · go_wp2_with fail
              refine (HS1.out _).mono ?_
              rintro e w1 ⟨rfl, hb1⟩
              have HNX := hide (HNX.out.trans (hb1.mono (HSTATE.out _ HNX.out).2.2.2.2))
              clear hb1 HS1 HOW
              obtain ⟨hrt, hrf, hwd, hbw, hl3⟩ := HSTATE.out w1 HNX.out
              have c0 := hwd.c 0 _ rfl
              have c1 := hwd.c 1 _ rfl
              have c2 := hwd.c 2 _ rfl
              have c3 := hwd.c 3 _ rfl
              have c4 := hwd.c 4 _ rfl
              obtain ⟨W8, hW8⟩ : ∃ W8, w1.setCells w.heap.size 0 [.int .i64 2, .string ⟨#[]⟩, .slice none 0 0, .slice none 0 0, .int .i64 (a : Int)] = W8 := ⟨_, rfl⟩
              have HW8 : Hid (w1.setCells w.heap.size 0 (#[.int .i64 2, .string ⟨#[]⟩, .slice none 0 0, .slice none 0 0, .int .i64 (a : Int)] : Array Value).toList = W8) := hW8
              obtain ⟨C8, B8⟩ := hrt.put (us := [.int .i64 2, .string ⟨#[]⟩, .slice none 0 0, .slice none 0 0, .int .i64 (a : Int)]) (by simp) hW8
              have F8 := hrf.but B8 (by omega)
              obtain ⟨W9, hW9⟩ : ∃ W9, W8.setCells (w.heap.size + 1) 0 [.int .i64 2, .int .i64 (j : Int), .int .i64 0] = W9 := ⟨_, rfl⟩
              have HW9 : Hid (W8.setCells (w.heap.size + 1) 0 (#[.int .i64 2, .int .i64 (j : Int), .int .i64 0] : Array Value).toList = W9) := hW9
              obtain ⟨C9, B9⟩ := F8.put (us := [.int .i64 2, .int .i64 (j : Int), .int .i64 0]) (by simp) hW9
              have D9 := C8.but B9 (by omega)
              have HTH8 := hide (hrt.there (n := 5) (by simp))
              have HTH9 := hide (F8.there (n := 3) (by simp))
              have HC9 := hide C9
              have HD9 := hide D9
              have HB9 := hide ((hbw.trans (B8.below hbw.size fun k hk => by omega)).trans (B9.below (by have := hbw.size; have := B8.size; omega) fun k hk => by omega))
              clear HSTATE hrt hrf hwd hbw hl3 C8 B8 F8 C9 B9 D9 hW8 hW9
              go_wp2_with (first | (refine wpList_store_mid rfl 43 (.tmp 4) (.tmp 51) rfl w.heap.size 0 #[.int .i64 2, .string ⟨#[]⟩, .slice none 0 0, .slice none 0 0, .int .i64 (a : Int)] rfl rfl HTH8.out (by kernel_rfl) (by simp [Value.oneCell']) ?_; rw [HW8.out]) | (refine wpList_store_mid rfl 28 (.tmp 6) (.tmp 54) rfl (w.heap.size + 1) 0 #[.int .i64 2, .int .i64 (j : Int), .int .i64 0] rfl rfl HTH9.out (by kernel_rfl) (by simp [Value.oneCell']) ?_; rw [HW9.out]))
              have r0 := HD9.out.c 0 _ rfl
              have r1 := HD9.out.c 1 _ rfl
              have r2 := HD9.out.c 2 _ rfl
              have r3 := HD9.out.c 3 _ rfl
              have r4 := HD9.out.c 4 _ rfl
              have q0 := HC9.out.c 0 _ rfl
              have q1 := HC9.out.c 1 _ rfl
              have q2 := HC9.out.c 2 _ rfl
              exact bodyPost_ret (v := .tuple #[.agg #[.int .i64 2, .string ⟨#[]⟩, .slice none 0 0, .slice none 0 0, .int .i64 (a : Int)], .int .i64 (j : Int), .agg #[.int .i64 2, .int .i64 (j : Int), .int .i64 0]]) (by simp [results, Try.results48, go_sem, r0, r1, r2, r3, r4, q0, q1, q2]) rfl (by
                  rw [HE.out]
                  refine ⟨HB9.out, ?_⟩
                  rw [if_neg (by show ¬ ((2 : Int) = 0); decide)]
                  refine ⟨j, ?_, ?_⟩
                  · rw [if_neg (by show ¬ ((2 : Int) = -1); decide), show a + 1 + (j - (a + 1)) = j by omega]
                  · rw [if_neg (by show ¬ ((2 : Int) = -1); decide)]; show j = a + 1 + (j - (a + 1)); omega)
            · subst h127
              go_wp2_with fail
              refine (HS1.out _).mono ?_
              rintro e w1 ⟨rfl, hb1⟩
              have HNX := hide (HNX.out.trans (hb1.mono (HSTATE.out _ HNX.out).2.2.2.2))
              clear hb1 HS1 HOW
              obtain ⟨hrt, hrf, hwd, hbw, hl3⟩ := HSTATE.out w1 HNX.out
              have c0 := hwd.c 0 _ rfl
              have c1 := hwd.c 1 _ rfl
              have c2 := hwd.c 2 _ rfl
              have c3 := hwd.c 3 _ rfl
              have c4 := hwd.c 4 _ rfl
              obtain ⟨W8, hW8⟩ : ∃ W8, w1.setCells w.heap.size 0 [.int .i64 2, .string ⟨#[]⟩, .slice none 0 0, .slice none 0 0, .int .i64 (a : Int)] = W8 := ⟨_, rfl⟩
              have HW8 : Hid (w1.setCells w.heap.size 0 (#[.int .i64 2, .string ⟨#[]⟩, .slice none 0 0, .slice none 0 0, .int .i64 (a : Int)] : Array Value).toList = W8) := hW8
              obtain ⟨C8, B8⟩ := hrt.put (us := [.int .i64 2, .string ⟨#[]⟩, .slice none 0 0, .slice none 0 0, .int .i64 (a : Int)]) (by simp) hW8
              have F8 := hrf.but B8 (by omega)
              obtain ⟨W9, hW9⟩ : ∃ W9, W8.setCells (w.heap.size + 1) 0 [.int .i64 2, .int .i64 (j : Int), .int .i64 0] = W9 := ⟨_, rfl⟩
              have HW9 : Hid (W8.setCells (w.heap.size + 1) 0 (#[.int .i64 2, .int .i64 (j : Int), .int .i64 0] : Array Value).toList = W9) := hW9
              obtain ⟨C9, B9⟩ := F8.put (us := [.int .i64 2, .int .i64 (j : Int), .int .i64 0]) (by simp) hW9
              have D9 := C8.but B9 (by omega)
              have HTH8 := hide (hrt.there (n := 5) (by simp))
              have HTH9 := hide (F8.there (n := 3) (by simp))
              have HC9 := hide C9
              have HD9 := hide D9
              have HB9 := hide ((hbw.trans (B8.below hbw.size fun k hk => by omega)).trans (B9.below (by have := hbw.size; have := B8.size; omega) fun k hk => by omega))
              clear HSTATE hrt hrf hwd hbw hl3 C8 B8 F8 C9 B9 D9 hW8 hW9
              go_wp2_with (first | (refine wpList_store_mid rfl 43 (.tmp 4) (.tmp 51) rfl w.heap.size 0 #[.int .i64 2, .string ⟨#[]⟩, .slice none 0 0, .slice none 0 0, .int .i64 (a : Int)] rfl rfl HTH8.out (by kernel_rfl) (by simp [Value.oneCell']) ?_; rw [HW8.out]) | (refine wpList_store_mid rfl 28 (.tmp 6) (.tmp 54) rfl (w.heap.size + 1) 0 #[.int .i64 2, .int .i64 (j : Int), .int .i64 0] rfl rfl HTH9.out (by kernel_rfl) (by simp [Value.oneCell']) ?_; rw [HW9.out]))
              have r0 := HD9.out.c 0 _ rfl
              have r1 := HD9.out.c 1 _ rfl
              have r2 := HD9.out.c 2 _ rfl
              have r3 := HD9.out.c 3 _ rfl
              have r4 := HD9.out.c 4 _ rfl
              have q0 := HC9.out.c 0 _ rfl
              have q1 := HC9.out.c 1 _ rfl
              have q2 := HC9.out.c 2 _ rfl
              exact bodyPost_ret (v := .tuple #[.agg #[.int .i64 2, .string ⟨#[]⟩, .slice none 0 0, .slice none 0 0, .int .i64 (a : Int)], .int .i64 (j : Int), .agg #[.int .i64 2, .int .i64 (j : Int), .int .i64 0]]) (by simp [results, Try.results48, go_sem, r0, r1, r2, r3, r4, q0, q1, q2]) rfl (by
                  rw [HE.out]
                  refine ⟨HB9.out, ?_⟩
                  rw [if_neg (by show ¬ ((2 : Int) = 0); decide)]
                  refine ⟨j, ?_, ?_⟩
                  · rw [if_neg (by show ¬ ((2 : Int) = -1); decide), show a + 1 + (j - (a + 1)) = j by omega]
                  · rw [if_neg (by show ¬ ((2 : Int) = -1); decide)]; show j = a + 1 + (j - (a + 1)); omega)
          · have hnl : ¬ n < 32 := fun h => hbad (Or.inl h)
            have hn127 : (n == 127) = false := beq_eq_false_iff_ne.2 (fun h => hbad (Or.inr h))
            have hgo := HQG.out hnq hbad
            rw [hstk] at hgo
            have HTG := hide (hgo.symm.trans HTO.out)
            have hs2 : j + k ≤ s.size := by omega
            clear HQE HQB HQG HTO hst hnq HQ1 hbad hgo hstk
            go_wp2_with fail
            refine (HS1.out _).mono ?_
            rintro e w2 ⟨rfl, hb1⟩
            have HNX1 := hide (HNX.out.trans (hb1.mono (HSTATE.out _ HNX.out).2.2.2.2))
            have HOW1 := hide (owns_next HOW.out hb1)
            clear hb1 HS1 HOW HNX
            have hown2 := HOW1.out
            have hlt3 := (HSTATE.out w2 HNX1.out).2.2.2.2
            go_wp2_with (at_builtin; refine wpList_append_own _ rfl _ _ 109 rfl (w.heap.size + 3) 2 i0 (.int .i64 0) 1 8 Try.underlying109 hi hz0 hz1 hz2 rfl (by decide) _ _ _ rfl (hown2.alloc _) ⟨w2.heap.size, 0, none⟩ 1 1 [.int .i64 n] rfl rfl ?c1 ?c2 ?c3 ?c4 ?c5 ?_)
            case c1 =>
              intro j u hj
              match j, hj with
              | 0, hj => simp at hj; subst hj; simp [Addr.add]
            case c2 => intro u hu; simp at hu; subst hu; rfl
            case c3 => unfold maxLen; omega
            case c4 => omega
            case c5 => simp; omega
            intro v' w3 hown' hgrow _
            have hown3 : w3.ownsRow (w.heap.size + 3) 2 1 v' (xs ++ [n]).length (iv (xs ++ [n])) := by
              rw [List.length_append, show iv (xs ++ [n]) = iv xs ++ [.int .i64 n] from List.map_append]; exact hown'
            have HNX3 := hide ((HNX1.out.alloc (show w.heap.size + 3 ≤ w2.heap.size by omega) _).grown hgrow (by simp; omega) (fun q hq => (hown2.lt q hq).1))
            have HOW3 := hide hown3
            clear hown' hgrow hown2 HNX1 HOW1 hown3
            go_wp2
            go_roundg (s.size + 1 - (j + k))
            case rel => exact ⟨j + k, xs ++ [n], by omega, hs2, by omega, by rw [List.length_append]; simp; omega, by go_num, HOW3.out, HNX3.out, HTG.out⟩
            case measure => omega
    · have hE0 : T = (xs, j - (a + 1), -1) := by rw [← HTO.out, HNL.out j hlt]; unfold TotQ; exact Prod.ext (by simp [QD_nil]) (Prod.ext (by simp [QD_nil]) rfl)
      have HE := hide hE0
      have hlt2 : ¬ (j : Int) < (s.size : Int) := by omega
      clear HSG HQQ HNE HNL HLN HDR HTO HOW hE0
      obtain ⟨hrt, hrf, hwd, hbw, hl3⟩ := HSTATE.out wr HNX.out
      have c0 := hwd.c 0 _ rfl
      have c1 := hwd.c 1 _ rfl
      have c2 := hwd.c 2 _ rfl
      have c3 := hwd.c 3 _ rfl
      have c4 := hwd.c 4 _ rfl
      obtain ⟨W8, hW8⟩ : ∃ W8, wr.setCells w.heap.size 0 [.int .i64 2, .string ⟨#[]⟩, .slice none 0 0, .slice none 0 0, .int .i64 (a : Int)] = W8 := ⟨_, rfl⟩
      have HW8 : Hid (wr.setCells w.heap.size 0 (#[.int .i64 2, .string ⟨#[]⟩, .slice none 0 0, .slice none 0 0, .int .i64 (a : Int)] : Array Value).toList = W8) := hW8
      obtain ⟨C8, B8⟩ := hrt.put (us := [.int .i64 2, .string ⟨#[]⟩, .slice none 0 0, .slice none 0 0, .int .i64 (a : Int)]) (by simp) hW8
      have F8 := hrf.but B8 (by omega)
      obtain ⟨W9, hW9⟩ : ∃ W9, W8.setCells (w.heap.size + 1) 0 [.int .i64 2, .int .i64 (a : Int), .int .i64 0] = W9 := ⟨_, rfl⟩
      have HW9 : Hid (W8.setCells (w.heap.size + 1) 0 (#[.int .i64 2, .int .i64 (a : Int), .int .i64 0] : Array Value).toList = W9) := hW9
      obtain ⟨C9, B9⟩ := F8.put (us := [.int .i64 2, .int .i64 (a : Int), .int .i64 0]) (by simp) hW9
      have D9 := C8.but B9 (by omega)
      have HTH8 := hide (hrt.there (n := 5) (by simp))
      have HTH9 := hide (F8.there (n := 3) (by simp))
      have HC9 := hide C9
      have HD9 := hide D9
      have HB9 := hide ((hbw.trans (B8.below hbw.size fun k hk => by omega)).trans (B9.below (by have := hbw.size; have := B8.size; omega) fun k hk => by omega))
      clear HSTATE hrt hrf hwd hbw hl3 C8 B8 F8 C9 B9 D9 hW8 hW9
      go_wp2_with (first | (refine wpList_store_mid rfl 43 (.tmp 4) (.tmp 62) rfl w.heap.size 0 #[.int .i64 2, .string ⟨#[]⟩, .slice none 0 0, .slice none 0 0, .int .i64 (a : Int)] rfl rfl HTH8.out (by kernel_rfl) (by simp [Value.oneCell']) ?_; rw [HW8.out]) | (refine wpList_store_mid rfl 28 (.tmp 6) (.tmp 65) rfl (w.heap.size + 1) 0 #[.int .i64 2, .int .i64 (a : Int), .int .i64 0] rfl rfl HTH9.out (by kernel_rfl) (by simp [Value.oneCell']) ?_; rw [HW9.out]))
      have r0 := HD9.out.c 0 _ rfl
      have r1 := HD9.out.c 1 _ rfl
      have r2 := HD9.out.c 2 _ rfl
      have r3 := HD9.out.c 3 _ rfl
      have r4 := HD9.out.c 4 _ rfl
      have q0 := HC9.out.c 0 _ rfl
      have q1 := HC9.out.c 1 _ rfl
      have q2 := HC9.out.c 2 _ rfl
      exact bodyPost_ret (v := .tuple #[.agg #[.int .i64 2, .string ⟨#[]⟩, .slice none 0 0, .slice none 0 0, .int .i64 (a : Int)], .int .i64 (j : Int), .agg #[.int .i64 2, .int .i64 (a : Int), .int .i64 0]]) (by simp [results, Try.results48, go_sem, r0, r1, r2, r3, r4, q0, q1, q2]) rfl (by
          rw [HE.out]
          refine ⟨HB9.out, ?_⟩
          rw [if_neg (by show ¬ ((-1 : Int) = 0); decide)]
          refine ⟨a, ?_, ?_⟩
          · rw [if_pos (show ((-1 : Int) = -1) from rfl), show a + 1 + (j - (a + 1)) = j by omega]
          · rw [if_pos (show ((-1 : Int) = -1) from rfl)])
end Go.Proofs.Ytnaejfoighmfeaa.Rn
namespace Go.Proofs.Ytnaejfoighmfeaa.Rn
open Go.ChangeShapes Go.WideShapes Go.ChangeAt Go.RowKit
set_option maxRecDepth 100000
set_option linter.unusedVariables false
set_option linter.unusedSimpArgs false
/-- What is read at a place. -/
structure Wd1 where
  kind : Int
  text : ByteArray
  lit : Ar
  stop : Nat
  err : Int
  ea : Nat
def nilA : Ar := .mk [] []
def nilT : ByteArray := ⟨#[]⟩
def oneW (s : ByteArray) (a : Nat) : Wd1 :=
  if oneK ((numsS s).drop a) = 0 then ⟨0, nilT, nilA, 0, 3, a⟩
  else if begD minL ((numsS s).drop a) then match (SD minL ((numsS s).drop a)).2.2 with
    | some j => ⟨1, nilT, nilA, 0, 2, a + j⟩
    | none => ⟨1, nilT, litD (SD minL ((numsS s).drop a)).1, a + (SD minL ((numsS s).drop a)).2.1, 0, 0⟩
  else if byt s a = 39 then (if (QD ((numsS s).drop (a + 1))).2.2 = 0 then ⟨2, nilT, textA (QD ((numsS s).drop (a + 1))).1, a + 1 + (QD ((numsS s).drop (a + 1))).2.1 + 1, 0, 0⟩
    else ⟨2, nilT, nilA, 0, if (QD ((numsS s).drop (a + 1))).2.2 = -1 then 2 else (QD ((numsS s).drop (a + 1))).2.2, if (QD ((numsS s).drop (a + 1))).2.2 = -1 then a else a + 1 + (QD ((numsS s).drop (a + 1))).2.1⟩)
  else if ltB (byt s a) then (if 8 < (cutS s a (wrdE s a)).size then ⟨3, nilT, nilA, 0, 2, a⟩ else ⟨3, cutS s a (wrdE s a), nilA, wrdE s a, 0, 0⟩)
  else match fixD ((numsS s).drop a) with
    | none => ⟨0, nilT, nilA, 0, 2, a⟩
    | some (k, t) => ⟨k, t, nilA, a + t.size, 0, 0⟩
/-- What one tells. -/
def GvO (r : Wd1) (a : Nat) (w : World) (e : Ending) (w' : World) : Prop := Below w.heap.size w w' ∧ ∃ (kd : Int) (tx : ByteArray) (z1 z2 : Option Addr) (l1 m1 l2 m2 : Nat) (at' : Int) (st : Int) (pl : Int), e = .returned (.tuple #[.agg #[.int .i64 kd, .string tx, .slice z1 l1 m1, .slice z2 l2 m2, .int .i64 at'], .int .i64 st, .agg #[.int .i64 r.err, .int .i64 pl, .int .i64 0]]) ∧
  (r.err = 0 → kd = r.kind ∧ tx = r.text ∧ at' = (a : Int) ∧ st = (r.stop : Int) ∧ pl = 0 ∧ l1 = r.lit.shape.length ∧ l2 = r.lit.cells.length ∧ ArIn 1 w.heap.size w' r.lit (.agg #[.slice z1 l1 m1, .slice z2 l2 m2])) ∧ (¬ r.err = 0 → pl = (r.ea : Int))
theorem nilA_in (n lo : Nat) (w : World) : ArIn (n + 1) lo w nilA (.agg #[.slice none 0 0, .slice none 0 0]) := arIn_mk (x := nilA) (row_nil _ _ _) (by simp [nilA, Ar.cells]) (Or.inl rfl) rfl rfl
theorem GvO.bad {r : Wd1} {a : Nat} {w w' : World} {kd at' st er pl : Int} {tx : ByteArray} {z1 z2 : Option Addr} {l1 m1 l2 m2 : Nat} (hb : Below w.heap.size w w') (he : r.err = er) (h0 : ¬ er = 0) (hp : pl = (r.ea : Int)) :
    GvO r a w (.returned (.tuple #[.agg #[.int .i64 kd, .string tx, .slice z1 l1 m1, .slice z2 l2 m2, .int .i64 at'], .int .i64 st, .agg #[.int .i64 er, .int .i64 pl, .int .i64 0]])) w' :=
  ⟨hb, kd, tx, z1, z2, l1, m1, l2, m2, at', st, pl, by rw [he], fun h => absurd (he ▸ h) h0, fun _ => hp⟩
theorem GvO.good {r : Wd1} {a : Nat} {w w' : World} {kd st : Int} {tx : ByteArray} {z1 z2 : Option Addr} {l1 m1 l2 m2 : Nat} (hb : Below w.heap.size w w') (he : r.err = 0) (hk : kd = r.kind) (ht : tx = r.text) (hs : st = (r.stop : Int)) (h1 : l1 = r.lit.shape.length) (h2 : l2 = r.lit.cells.length) (hin : ArIn 1 w.heap.size w' r.lit (.agg #[.slice z1 l1 m1, .slice z2 l2 m2])) :
    GvO r a w (.returned (.tuple #[.agg #[.int .i64 kd, .string tx, .slice z1 l1 m1, .slice z2 l2 m2, .int .i64 (a : Int)], .int .i64 st, .agg #[.int .i64 0, .int .i64 0, .int .i64 0]])) w' :=
  ⟨hb, kd, tx, z1, z2, l1, m1, l2, m2, a, st, 0, by rw [he], fun _ => ⟨hk, ht, rfl, hs, rfl, h1, h2, hin⟩, fun h => absurd he h⟩
theorem w9drew (W : World) : Below W.heap.size W W.drew := (Below.refl _ _).drew
theorem fxD_mem {l : List Int} {L : List ByteArray} {t : ByteArray} (h : fxD l L = some t) : t ∈ L := List.mem_of_find?_eq_some h
theorem fixD_size {l : List Int} {k : Int} {t : ByteArray} (h : fixD l = some (k, t)) : t.size ≤ 8192 := by
  have hh : ∀ L : List ByteArray, (∀ t ∈ L, t.size ≤ 8192) → ∀ t, fxD l L = some t → t.size ≤ 8192 := fun L hL t ht => hL t (fxD_mem ht)
  unfold fixD at h
  split at h
  · rename_i u hu; cases h; exact hh fxL0 (by decide) _ hu
  · split at h
    · rename_i u hu; cases h; exact hh fxL1 (by decide) _ hu
    · split at h
      · rename_i u hu; cases h; exact hh fxL2 (by decide) _ hu
      · split at h
        · rename_i u hu; cases h; exact hh fxL3 (by decide) _ hu
        · split at h
          · rename_i u hu; cases h; exact hh fxL4 (by decide) _ hu
          · cases h
set_option maxHeartbeats 16000000 in
theorem one26 (s : ByteArray) (a : Nat) (ha : a < s.size) (hs : s.size ≤ 8192) (w : World) :
    Calls Try.prog 26 #[.string s, .int .i64 (a : Int)] w fun e w' => GvO (oneW s a) a w e w' := by
  obtain ⟨W2, hW2⟩ : ∃ W2, (w.alloc (.cells #[.int .i64 0, .string ⟨#[]⟩, .slice none 0 0, .slice none 0 0, .int .i64 0] 43)).alloc (.cells #[.int .i64 0, .int .i64 0, .int .i64 0] 28) = W2 := ⟨_, rfl⟩
  have hs1 : (w.alloc (.cells #[.int .i64 0, .string ⟨#[]⟩, .slice none 0 0, .slice none 0 0, .int .i64 0] 43)).heap.size = w.heap.size + 1 := by simp
  have b2 : Below w.heap.size w W2 := by rw [← hW2]; exact two_allocs _ _ _
  have s2 : W2.heap.size = w.heap.size + 2 := by rw [← hW2]; simp
  have R2 : Cs W2 w.heap.size [.int .i64 0, .string ⟨#[]⟩, .slice none 0 0, .slice none 0 0, .int .i64 0] := by
    rw [← hW2]
    exact (Cs.new w [.int .i64 0, .string ⟨#[]⟩, .slice none 0 0, .slice none 0 0, .int .i64 0] 43).next (one_alloc _ _) (by simp)
  have F2 : Cs W2 (w.heap.size + 1) [.int .i64 0, .int .i64 0, .int .i64 0] := by
    have h := Cs.new (w.alloc (.cells #[.int .i64 0, .string ⟨#[]⟩, .slice none 0 0, .slice none 0 0, .int .i64 0] 43)) [.int .i64 0, .int .i64 0, .int .i64 0] 28
    rw [hs1] at h
    rw [← hW2]
    exact h
  have HB2 := hide b2
  have HS2 := hide s2
  have HR2 := hide R2
  have HF2 := hide F2
  have HW2 := hide hW2
  have hmin : numsS ⟨#[194, 175]⟩ = minL := by decide
  have HSG := hide (sign45 s a (by omega) (by omega) W2)
  have HBE := hide (fun W => begins46 s ⟨#[194, 175]⟩ a (by omega) (by omega) (by decide) W)
  have HST := hide (fun hb W => strand47 s ⟨#[194, 175]⟩ a (by omega) hs (by decide) hb W)
  have HQU := hide (fun W => quoted48 s a ha hs W)
  have HLE := hide (fun W => letter49 (byt s a) W)
  have HWO := hide (fun W => word50 s a ha hs W)
  have HFI := hide (fun W => fixed51 s a (by omega) hs W)
  have HX := hide (fun W => byt_run s a ha W)
  rw [hmin] at HBE HST
  obtain ⟨r, hr⟩ : ∃ r, oneW s a = r := ⟨_, rfl⟩
  have HR := hide hr
  rw [hr]
  unfold oneW at HR
  have hbnd : a ≤ 8192 := by omega
  clear hW2 hs1 b2 s2 R2 F2 hr ha hs hmin
  go_enter Try.func26, Try.ntmps26
  go_upto_region 1 with fail
  rw [HW2.out]
  clear HW2
  generalize oneN ((numsS s).drop a) = on at *
  generalize hok : oneK ((numsS s).drop a) = ok at *
  go_wp2_with fail
  refine HSG.out.mono ?_
  rintro e U ⟨rfl, hbu⟩
  have HBU := hide hbu
  have HBU0 := hide hbu
  clear HSG hbu
  by_cases h0 : ok = 0
  · subst h0
    have HE := hide (show r = ⟨0, nilT, nilA, 0, 3, a⟩ by rw [← HR.out]; rw [if_pos rfl])
    clear HR HBE HST HQU HLE HWO HFI HX hok
    have hbu2 := HBU.out
    have hl2 := HS2.out
    have RU := HR2.out.next hbu2 HR2.out.lt
    have FU := HF2.out.next hbu2 HF2.out.lt
    have hbw := HB2.out.trans (hbu2.mono HB2.out.size)
    have hlu := hbu2.size
    have RX := RU
    have FX := FU
    have hbx := hbw
    have hlx : U.heap.size ≤ U.heap.size := Nat.le_refl _
    obtain ⟨W8, hW8⟩ : ∃ W8, U.setCells w.heap.size 0 [.int .i64 0, .string ⟨#[]⟩, .slice none 0 0, .slice none 0 0, .int .i64 0] = W8 := ⟨_, rfl⟩
    have HW8 : Hid (U.setCells w.heap.size 0 (#[.int .i64 0, .string ⟨#[]⟩, .slice none 0 0, .slice none 0 0, .int .i64 0] : Array Value).toList = W8) := hW8
    obtain ⟨C8, B8⟩ := RX.put (us := [.int .i64 0, .string ⟨#[]⟩, .slice none 0 0, .slice none 0 0, .int .i64 0]) (by simp) hW8
    have F8 := FX.but B8 (by omega)
    obtain ⟨W9, hW9⟩ : ∃ W9, W8.setCells (w.heap.size + 1) 0 [.int .i64 3, .int .i64 (a : Int), .int .i64 0] = W9 := ⟨_, rfl⟩
    have HW9 : Hid (W8.setCells (w.heap.size + 1) 0 (#[.int .i64 3, .int .i64 (a : Int), .int .i64 0] : Array Value).toList = W9) := hW9
    obtain ⟨C9, B9⟩ := F8.put (us := [.int .i64 3, .int .i64 (a : Int), .int .i64 0]) (by simp) hW9
    have D9 := C8.but B9 (by omega)
    have HTH8 := hide (RX.there (n := 5) (by simp))
    have HTH9 := hide (F8.there (n := 3) (by simp))
    have HC9 := hide C9
    have HD9 := hide D9
    have HB9 := hide ((hbx.trans (B8.below hbx.size fun k hk => by omega)).trans (B9.below (by have := hbx.size; have := B8.size; omega) fun k hk => by omega))
    clear RU FU hbw RX FX hbx C8 B8 F8 C9 B9 D9 hW8 hW9 HBU hbu2 hlx hlu
    go_wp2_with (first | (refine wpList_store_mid rfl 43 (.tmp 4) (.tmp 24) rfl w.heap.size 0 #[.int .i64 0, .string ⟨#[]⟩, .slice none 0 0, .slice none 0 0, .int .i64 0] rfl rfl HTH8.out (by kernel_rfl) (by simp [Value.oneCell']) ?_; rw [HW8.out]) | (refine wpList_store_mid rfl 28 (.tmp 6) (.tmp 27) rfl (w.heap.size + 1) 0 #[.int .i64 3, .int .i64 (a : Int), .int .i64 0] rfl rfl HTH9.out (by kernel_rfl) (by simp [Value.oneCell']) ?_; rw [HW9.out]))
    have r0 := HD9.out.c 0 _ rfl
    have r1 := HD9.out.c 1 _ rfl
    have r2 := HD9.out.c 2 _ rfl
    have r3 := HD9.out.c 3 _ rfl
    have r4 := HD9.out.c 4 _ rfl
    have q0 := HC9.out.c 0 _ rfl
    have q1 := HC9.out.c 1 _ rfl
    have q2 := HC9.out.c 2 _ rfl
    exact bodyPost_ret (v := .tuple #[.agg #[.int .i64 0, .string ⟨#[]⟩, .slice none 0 0, .slice none 0 0, .int .i64 0], .int .i64 ((a : Int)), .agg #[.int .i64 3, .int .i64 (a : Int), .int .i64 0]]) (by simp [results, Try.results26, go_sem, r0, r1, r2, r3, r4, q0, q1, q2]) rfl (by rw [HE.out]; exact GvO.bad HB9.out rfl (by decide) rfl)
  · have hk0 : ((ok : Int) == 0) = false := beq_eq_false_iff_ne.2 (by omega)
    rw [if_neg h0] at HR
    clear hok
    have HBE1 := hide (HBE.out U)
    clear HBE
    cases hbg : begD minL ((numsS s).drop a) with
    | true =>
      rw [hbg] at HBE1 HR
      simp only [if_true] at HR
      have HST1 := hide (HST.out hbg U)
      clear HST HQU HLE HWO HFI HX hbg
      go_wp2_with fail
      refine HBE1.out.mono ?_
      rintro e w1 ⟨rfl, rfl⟩
      clear HBE1
      go_wp2_with fail
      refine HST1.out.mono ?_
      rintro e w3 ⟨hb3, hT⟩
      have HBU := hide (HBU.out.trans (hb3.mono HBU.out.size))
      have HTT := hide hT
      have HLO := hide (show w.heap.size + 2 ≤ w1.heap.size by have := HS2.out; have := HBU0.out.size; omega)
      clear HST1 hb3 hT
      obtain ⟨T, hT⟩ : ∃ T, SD minL ((numsS s).drop a) = T := ⟨_, rfl⟩
      rw [hT] at HTT HR
      clear hT
      obtain ⟨xs, st, bd⟩ := T
      cases bd with
      | some j =>
        obtain rfl := HTT.out
        have HE := hide (show r = ⟨1, nilT, nilA, 0, 2, a + j⟩ from HR.out.symm)
        clear HR HTT
        have hbu2 := HBU.out
        have hl2 := HS2.out
        have RU := HR2.out.next hbu2 HR2.out.lt
        have FU := HF2.out.next hbu2 HF2.out.lt
        have hbw := HB2.out.trans (hbu2.mono HB2.out.size)
        have hlu := hbu2.size
        obtain ⟨X, hX⟩ : ∃ X, w3.alloc (.cells #[.int .i64 1, .string ⟨#[]⟩, .slice none 0 0, .slice none 0 0, .int .i64 (a : Int)] 43) = X := ⟨_, rfl⟩
        have bq : Below w3.heap.size w3 X := by rw [← hX]; exact one_alloc _ _
        have DX : Cs X w3.heap.size [.int .i64 1, .string ⟨#[]⟩, .slice none 0 0, .slice none 0 0, .int .i64 (a : Int)] := by rw [← hX]; exact Cs.new w3 [.int .i64 1, .string ⟨#[]⟩, .slice none 0 0, .slice none 0 0, .int .i64 (a : Int)] 43
        have RX := RU.next bq (by omega)
        have FX := FU.next bq (by omega)
        have hbx := hbw.trans (bq.mono hbw.size)
        have hlx := bq.size
        have c0 := DX.c 0 _ rfl
        have c1 := DX.c 1 _ rfl
        have c2 := DX.c 2 _ rfl
        have c3 := DX.c 3 _ rfl
        have c4 := DX.c 4 _ rfl
        obtain ⟨W8, hW8⟩ : ∃ W8, X.setCells w.heap.size 0 [.int .i64 1, .string ⟨#[]⟩, .slice none 0 0, .slice none 0 0, .int .i64 (a : Int)] = W8 := ⟨_, rfl⟩
        have HW8 : Hid (X.setCells w.heap.size 0 (#[.int .i64 1, .string ⟨#[]⟩, .slice none 0 0, .slice none 0 0, .int .i64 (a : Int)] : Array Value).toList = W8) := hW8
        obtain ⟨C8, B8⟩ := RX.put (us := [.int .i64 1, .string ⟨#[]⟩, .slice none 0 0, .slice none 0 0, .int .i64 (a : Int)]) (by simp) hW8
        have F8 := FX.but B8 (by omega)
        obtain ⟨W9, hW9⟩ : ∃ W9, W8.setCells (w.heap.size + 1) 0 [.int .i64 2, .int .i64 ((a + j : Nat) : Int), .int .i64 0] = W9 := ⟨_, rfl⟩
        have HW9 : Hid (W8.setCells (w.heap.size + 1) 0 (#[.int .i64 2, .int .i64 ((a + j : Nat) : Int), .int .i64 0] : Array Value).toList = W9) := hW9
        obtain ⟨C9, B9⟩ := F8.put (us := [.int .i64 2, .int .i64 ((a + j : Nat) : Int), .int .i64 0]) (by simp) hW9
        have D9 := C8.but B9 (by omega)
        have HTH8 := hide (RX.there (n := 5) (by simp))
        have HTH9 := hide (F8.there (n := 3) (by simp))
        have HC9 := hide C9
        have HD9 := hide D9
        have HB9 := hide ((hbx.trans (B8.below hbx.size fun k hk => by omega)).trans (B9.below (by have := hbx.size; have := B8.size; omega) fun k hk => by omega))
        clear RU FU hbw RX FX hbx C8 B8 F8 C9 B9 D9 hW8 hW9 HBU hbu2 hlx hlu bq DX
        go_wp2_with (first | (refine wpList_store_mid rfl 43 (.tmp 4) (.tmp 40) rfl w.heap.size 0 #[.int .i64 1, .string ⟨#[]⟩, .slice none 0 0, .slice none 0 0, .int .i64 (a : Int)] rfl rfl HTH8.out (by kernel_rfl) (by simp [Value.oneCell']) ?_; rw [HW8.out]) | (refine wpList_store_mid rfl 28 (.tmp 6) (.tmp 43) rfl (w.heap.size + 1) 0 #[.int .i64 2, .int .i64 ((a + j : Nat) : Int), .int .i64 0] rfl rfl HTH9.out (by kernel_rfl) (by simp [Value.oneCell']) ?_; rw [HW9.out]))
        have r0 := HD9.out.c 0 _ rfl
        have r1 := HD9.out.c 1 _ rfl
        have r2 := HD9.out.c 2 _ rfl
        have r3 := HD9.out.c 3 _ rfl
        have r4 := HD9.out.c 4 _ rfl
        have q0 := HC9.out.c 0 _ rfl
        have q1 := HC9.out.c 1 _ rfl
        have q2 := HC9.out.c 2 _ rfl
        exact bodyPost_ret (v := .tuple #[.agg #[.int .i64 1, .string ⟨#[]⟩, .slice none 0 0, .slice none 0 0, .int .i64 (a : Int)], .int .i64 (((a + j : Nat) : Int)), .agg #[.int .i64 2, .int .i64 ((a + j : Nat) : Int), .int .i64 0]]) (by simp [results, Try.results26, go_sem, r0, r1, r2, r3, r4, q0, q1, q2]) rfl (by rw [HE.out]; exact GvO.bad HB9.out rfl (by decide) rfl)
      | none =>
        obtain ⟨z1, m1, z2, m2, rfl, hin⟩ := HTT.out
        have HE := hide (show r = ⟨1, nilT, litD xs, a + st, 0, 0⟩ from HR.out.symm)
        have HIN := hide hin
        obtain ⟨l1, hl1⟩ : ∃ l1, (litD xs).shape.length = l1 := ⟨_, rfl⟩
        obtain ⟨l2, hl2⟩ : ∃ l2, (litD xs).cells.length = l2 := ⟨_, rfl⟩
        have HL1 := hide hl1
        have HL2 := hide hl2
        simp only [hl1, hl2] at HIN ⊢
        clear HR HTT hin hl1 hl2
        have hbu2 := HBU.out
        have hl2 := HS2.out
        have RU := HR2.out.next hbu2 HR2.out.lt
        have FU := HF2.out.next hbu2 HF2.out.lt
        have hbw := HB2.out.trans (hbu2.mono HB2.out.size)
        have hlu := hbu2.size
        obtain ⟨X, hX⟩ : ∃ X, w3.alloc (.cells #[.int .i64 1, .string ⟨#[]⟩, .slice z1 l1 m1, .slice z2 l2 m2, .int .i64 (a : Int)] 43) = X := ⟨_, rfl⟩
        have bq : Below w3.heap.size w3 X := by rw [← hX]; exact one_alloc _ _
        have DX : Cs X w3.heap.size [.int .i64 1, .string ⟨#[]⟩, .slice z1 l1 m1, .slice z2 l2 m2, .int .i64 (a : Int)] := by rw [← hX]; exact Cs.new w3 [.int .i64 1, .string ⟨#[]⟩, .slice z1 l1 m1, .slice z2 l2 m2, .int .i64 (a : Int)] 43
        have RX := RU.next bq (by omega)
        have FX := FU.next bq (by omega)
        have hbx := hbw.trans (bq.mono hbw.size)
        have hlx := bq.size
        have c0 := DX.c 0 _ rfl
        have c1 := DX.c 1 _ rfl
        have c2 := DX.c 2 _ rfl
        have c3 := DX.c 3 _ rfl
        have c4 := DX.c 4 _ rfl
        obtain ⟨W8, hW8⟩ : ∃ W8, X.setCells w.heap.size 0 [.int .i64 1, .string ⟨#[]⟩, .slice z1 l1 m1, .slice z2 l2 m2, .int .i64 (a : Int)] = W8 := ⟨_, rfl⟩
        have HW8 : Hid (X.setCells w.heap.size 0 (#[.int .i64 1, .string ⟨#[]⟩, .slice z1 l1 m1, .slice z2 l2 m2, .int .i64 (a : Int)] : Array Value).toList = W8) := hW8
        obtain ⟨C8, B8⟩ := RX.put (us := [.int .i64 1, .string ⟨#[]⟩, .slice z1 l1 m1, .slice z2 l2 m2, .int .i64 (a : Int)]) (by simp) hW8
        have F8 := FX.but B8 (by omega)
        obtain ⟨W9, hW9⟩ : ∃ W9, W8.setCells (w.heap.size + 1) 0 [.int .i64 0, .int .i64 0, .int .i64 0] = W9 := ⟨_, rfl⟩
        have HW9 : Hid (W8.setCells (w.heap.size + 1) 0 (#[.int .i64 0, .int .i64 0, .int .i64 0] : Array Value).toList = W9) := hW9
        obtain ⟨C9, B9⟩ := F8.put (us := [.int .i64 0, .int .i64 0, .int .i64 0]) (by simp) hW9
        have D9 := C8.but B9 (by omega)
        have HTH8 := hide (RX.there (n := 5) (by simp))
        have HTH9 := hide (F8.there (n := 3) (by simp))
        have HC9 := hide C9
        have HD9 := hide D9
        have HB9 := hide ((hbx.trans (B8.below hbx.size fun k hk => by omega)).trans (B9.below (by have := hbx.size; have := B8.size; omega) fun k hk => by omega))
        have HINN : Hid (ArIn 1 w.heap.size W9 (litD xs) (.agg #[.slice z1 l1 m1, .slice z2 l2 m2])) := arIn_low (((HIN.out.next bq).keeps (but_keeps B8 (by have := HLO.out; omega))).keeps (but_keeps B9 (by have := HLO.out; omega))) (by have := HLO.out; omega)
        clear RU FU hbw RX FX hbx C8 B8 F8 C9 B9 D9 hW8 hW9 HBU hbu2 hlx hlu bq DX
        go_wp2_with (first | (refine wpList_store_mid rfl 43 (.tmp 4) (.tmp 44) rfl w.heap.size 0 #[.int .i64 1, .string ⟨#[]⟩, .slice z1 l1 m1, .slice z2 l2 m2, .int .i64 (a : Int)] rfl rfl HTH8.out (by kernel_rfl) (by simp [Value.oneCell']) ?_; rw [HW8.out]) | (refine wpList_store_mid rfl 28 (.tmp 6) (.tmp 46) rfl (w.heap.size + 1) 0 #[.int .i64 0, .int .i64 0, .int .i64 0] rfl rfl HTH9.out (by kernel_rfl) (by simp [Value.oneCell']) ?_; rw [HW9.out]))
        have r0 := HD9.out.c 0 _ rfl
        have r1 := HD9.out.c 1 _ rfl
        have r2 := HD9.out.c 2 _ rfl
        have r3 := HD9.out.c 3 _ rfl
        have r4 := HD9.out.c 4 _ rfl
        have q0 := HC9.out.c 0 _ rfl
        have q1 := HC9.out.c 1 _ rfl
        have q2 := HC9.out.c 2 _ rfl
        exact bodyPost_ret (v := .tuple #[.agg #[.int .i64 1, .string ⟨#[]⟩, .slice z1 l1 m1, .slice z2 l2 m2, .int .i64 (a : Int)], .int .i64 (((a + st : Nat) : Int)), .agg #[.int .i64 0, .int .i64 0, .int .i64 0]]) (by simp [results, Try.results26, go_sem, r0, r1, r2, r3, r4, q0, q1, q2]) rfl (by rw [HE.out]; exact GvO.good HB9.out rfl rfl rfl rfl HL1.out.symm HL2.out.symm HINN.out)
    | false =>
      rw [hbg] at HBE1 HR
      simp only [Bool.false_eq_true, if_false] at HR
      clear HST hbg
      have hx := HX.out
      clear HX
      by_cases h39 : byt s a = 39
      · rw [if_pos h39] at HR
        rw [h39] at hx
        have HQ1 := hide (HQU.out U)
        clear HQU HLE HWO HFI h39
        go_wp2_with fail
        refine HBE1.out.mono ?_
        rintro e w1 ⟨rfl, rfl⟩
        clear HBE1
        go_wp2_with fail
        refine HQ1.out.mono ?_
        rintro e w3 ⟨hb3, hT⟩
        have HBU := hide (HBU.out.trans (hb3.mono HBU.out.size))
        have HTT := hide hT
        have HLO := hide (show w.heap.size + 2 ≤ w1.heap.size by have := HS2.out; have := HBU0.out.size; omega)
        clear HQ1 hb3 hT
        obtain ⟨T, hT⟩ : ∃ T, QD ((numsS s).drop (a + 1)) = T := ⟨_, rfl⟩
        rw [hT] at HTT HR
        clear hT
        obtain ⟨xs, st, er⟩ := T
        by_cases he0 : er = 0
        · subst he0
          have hq := HTT.out
          rw [if_pos rfl] at hq
          obtain ⟨z1, m1, z2, m2, rfl, hin⟩ := hq
          have HE := hide (show r = ⟨2, nilT, textA xs, a + 1 + st + 1, 0, 0⟩ from HR.out.symm)
          have HIN := hide hin
          obtain ⟨l1, hl1⟩ : ∃ l1, (textA xs).shape.length = l1 := ⟨_, rfl⟩
          obtain ⟨l2, hl2⟩ : ∃ l2, (textA xs).cells.length = l2 := ⟨_, rfl⟩
          have HL1 := hide hl1
          have HL2 := hide hl2
          simp only [hl1, hl2] at HIN ⊢
          clear HR HTT hin hl1 hl2
          have hbu2 := HBU.out
          have hl2 := HS2.out
          have RU := HR2.out.next hbu2 HR2.out.lt
          have FU := HF2.out.next hbu2 HF2.out.lt
          have hbw := HB2.out.trans (hbu2.mono HB2.out.size)
          have hlu := hbu2.size
          have RX := RU
          have FX := FU
          have hbx := hbw
          have hlx : w3.heap.size ≤ w3.heap.size := Nat.le_refl _
          obtain ⟨W8, hW8⟩ : ∃ W8, w3.setCells w.heap.size 0 [.int .i64 2, .string ⟨#[]⟩, .slice z1 l1 m1, .slice z2 l2 m2, .int .i64 (a : Int)] = W8 := ⟨_, rfl⟩
          have HW8 : Hid (w3.setCells w.heap.size 0 (#[.int .i64 2, .string ⟨#[]⟩, .slice z1 l1 m1, .slice z2 l2 m2, .int .i64 (a : Int)] : Array Value).toList = W8) := hW8
          obtain ⟨C8, B8⟩ := RX.put (us := [.int .i64 2, .string ⟨#[]⟩, .slice z1 l1 m1, .slice z2 l2 m2, .int .i64 (a : Int)]) (by simp) hW8
          have F8 := FX.but B8 (by omega)
          obtain ⟨W9, hW9⟩ : ∃ W9, W8.setCells (w.heap.size + 1) 0 [.int .i64 0, .int .i64 0, .int .i64 0] = W9 := ⟨_, rfl⟩
          have HW9 : Hid (W8.setCells (w.heap.size + 1) 0 (#[.int .i64 0, .int .i64 0, .int .i64 0] : Array Value).toList = W9) := hW9
          obtain ⟨C9, B9⟩ := F8.put (us := [.int .i64 0, .int .i64 0, .int .i64 0]) (by simp) hW9
          have D9 := C8.but B9 (by omega)
          have HTH8 := hide (RX.there (n := 5) (by simp))
          have HTH9 := hide (F8.there (n := 3) (by simp))
          have HC9 := hide C9
          have HD9 := hide D9
          have HB9 := hide ((hbx.trans (B8.below hbx.size fun k hk => by omega)).trans (B9.below (by have := hbx.size; have := B8.size; omega) fun k hk => by omega))
          have HINN : Hid (ArIn 1 w.heap.size W9 (textA xs) (.agg #[.slice z1 l1 m1, .slice z2 l2 m2])) := arIn_low (((HIN.out).keeps (but_keeps B8 (by have := HLO.out; omega))).keeps (but_keeps B9 (by have := HLO.out; omega))) (by have := HLO.out; omega)
          clear RU FU hbw RX FX hbx C8 B8 F8 C9 B9 D9 hW8 hW9 HBU hbu2 hlx hlu
          go_wp2_with (first | (refine wpList_store_mid rfl 43 (.tmp 4) (.tmp 54) rfl w.heap.size 0 #[.int .i64 2, .string ⟨#[]⟩, .slice z1 l1 m1, .slice z2 l2 m2, .int .i64 (a : Int)] rfl rfl HTH8.out (by kernel_rfl) (by simp [Value.oneCell']) ?_; rw [HW8.out]) | (refine wpList_store_mid rfl 28 (.tmp 6) (.tmp 56) rfl (w.heap.size + 1) 0 #[.int .i64 0, .int .i64 0, .int .i64 0] rfl rfl HTH9.out (by kernel_rfl) (by simp [Value.oneCell']) ?_; rw [HW9.out]))
          have r0 := HD9.out.c 0 _ rfl
          have r1 := HD9.out.c 1 _ rfl
          have r2 := HD9.out.c 2 _ rfl
          have r3 := HD9.out.c 3 _ rfl
          have r4 := HD9.out.c 4 _ rfl
          have q0 := HC9.out.c 0 _ rfl
          have q1 := HC9.out.c 1 _ rfl
          have q2 := HC9.out.c 2 _ rfl
          exact bodyPost_ret (v := .tuple #[.agg #[.int .i64 2, .string ⟨#[]⟩, .slice z1 l1 m1, .slice z2 l2 m2, .int .i64 (a : Int)], .int .i64 (((a + 1 + st : Nat) + 1 : Int)), .agg #[.int .i64 0, .int .i64 0, .int .i64 0]]) (by simp [results, Try.results26, go_sem, r0, r1, r2, r3, r4, q0, q1, q2]) rfl (by rw [HE.out]; exact GvO.good HB9.out rfl rfl rfl rfl HL1.out.symm HL2.out.symm HINN.out)
        · have hq := HTT.out
          rw [if_neg he0] at hq
          obtain ⟨pl, rfl, hpl⟩ := hq
          have HE := hide (show r = ⟨2, nilT, nilA, 0, if er = -1 then 2 else er, if er = -1 then a else a + 1 + st⟩ by rw [← HR.out]; rw [if_neg he0])
          have HPL := hide hpl
          have HE0 := hide (show ¬ (if er = -1 then (2 : Int) else er) = 0 by split <;> omega)
          clear HR HTT hpl he0
          generalize hER : (if er = -1 then (2 : Int) else er) = ER at *
          generalize hPP : (if er = -1 then a else a + 1 + st) = PP at *
          clear hER hPP
          have hbu2 := HBU.out
          have hl2 := HS2.out
          have RU := HR2.out.next hbu2 HR2.out.lt
          have FU := HF2.out.next hbu2 HF2.out.lt
          have hbw := HB2.out.trans (hbu2.mono HB2.out.size)
          have hlu := hbu2.size
          have RX := RU
          have FX := FU
          have hbx := hbw
          have hlx : w3.heap.size ≤ w3.heap.size := Nat.le_refl _
          obtain ⟨W8, hW8⟩ : ∃ W8, w3.setCells w.heap.size 0 [.int .i64 2, .string ⟨#[]⟩, .slice none 0 0, .slice none 0 0, .int .i64 (a : Int)] = W8 := ⟨_, rfl⟩
          have HW8 : Hid (w3.setCells w.heap.size 0 (#[.int .i64 2, .string ⟨#[]⟩, .slice none 0 0, .slice none 0 0, .int .i64 (a : Int)] : Array Value).toList = W8) := hW8
          obtain ⟨C8, B8⟩ := RX.put (us := [.int .i64 2, .string ⟨#[]⟩, .slice none 0 0, .slice none 0 0, .int .i64 (a : Int)]) (by simp) hW8
          have F8 := FX.but B8 (by omega)
          obtain ⟨W9, hW9⟩ : ∃ W9, W8.setCells (w.heap.size + 1) 0 [.int .i64 ER, .int .i64 (pl : Int), .int .i64 0] = W9 := ⟨_, rfl⟩
          have HW9 : Hid (W8.setCells (w.heap.size + 1) 0 (#[.int .i64 ER, .int .i64 (pl : Int), .int .i64 0] : Array Value).toList = W9) := hW9
          obtain ⟨C9, B9⟩ := F8.put (us := [.int .i64 ER, .int .i64 (pl : Int), .int .i64 0]) (by simp) hW9
          have D9 := C8.but B9 (by omega)
          have HTH8 := hide (RX.there (n := 5) (by simp))
          have HTH9 := hide (F8.there (n := 3) (by simp))
          have HC9 := hide C9
          have HD9 := hide D9
          have HB9 := hide ((hbx.trans (B8.below hbx.size fun k hk => by omega)).trans (B9.below (by have := hbx.size; have := B8.size; omega) fun k hk => by omega))
          clear RU FU hbw RX FX hbx C8 B8 F8 C9 B9 D9 hW8 hW9 HBU hbu2 hlx hlu
          go_wp2_with (first | (refine wpList_store_mid rfl 43 (.tmp 4) (.tmp 54) rfl w.heap.size 0 #[.int .i64 2, .string ⟨#[]⟩, .slice none 0 0, .slice none 0 0, .int .i64 (a : Int)] rfl rfl HTH8.out (by kernel_rfl) (by simp [Value.oneCell']) ?_; rw [HW8.out]) | (refine wpList_store_mid rfl 28 (.tmp 6) (.tmp 56) rfl (w.heap.size + 1) 0 #[.int .i64 ER, .int .i64 (pl : Int), .int .i64 0] rfl rfl HTH9.out (by kernel_rfl) (by simp [Value.oneCell']) ?_; rw [HW9.out]))
          have r0 := HD9.out.c 0 _ rfl
          have r1 := HD9.out.c 1 _ rfl
          have r2 := HD9.out.c 2 _ rfl
          have r3 := HD9.out.c 3 _ rfl
          have r4 := HD9.out.c 4 _ rfl
          have q0 := HC9.out.c 0 _ rfl
          have q1 := HC9.out.c 1 _ rfl
          have q2 := HC9.out.c 2 _ rfl
          exact bodyPost_ret (v := .tuple #[.agg #[.int .i64 2, .string ⟨#[]⟩, .slice none 0 0, .slice none 0 0, .int .i64 (a : Int)], .int .i64 (((a + 1 + st : Nat) : Int)), .agg #[.int .i64 ER, .int .i64 (pl : Int), .int .i64 0]]) (by simp [results, Try.results26, go_sem, r0, r1, r2, r3, r4, q0, q1, q2]) rfl (by rw [HE.out]; exact GvO.bad HB9.out rfl HE0.out (by rw [HPL.out]))
      · rw [if_neg h39] at HR
        have h39' : (byt s a == 39) = false := beq_eq_false_iff_ne.2 h39
        have HLE1 := hide (HLE.out U)
        clear HQU HLE h39
        cases hlt : ltB (byt s a) with
        | true =>
          rw [hlt] at HLE1 HR
          simp only [if_true] at HR
          have HW1 := hide (HWO.out U)
          clear HWO HFI hlt
          generalize byt s a = ch at *
          go_wp2_with fail
          refine HBE1.out.mono ?_
          rintro e w1 ⟨rfl, rfl⟩
          clear HBE1
          go_wp2_with fail
          refine HLE1.out.mono ?_
          rintro e w1 ⟨rfl, rfl⟩
          clear HLE1
          go_wp2_with fail
          refine HW1.out.mono ?_
          rintro e w3 ⟨rfl, hb3⟩
          have HBU := hide (HBU.out.trans (hb3.mono HBU.out.size))
          clear HW1 hb3
          generalize wrdE s a = we at *
          generalize cutS s a we = CS at *
          by_cases h8 : 8 < CS.size
          · have HE := hide (show r = ⟨3, nilT, nilA, 0, 2, a⟩ by rw [← HR.out]; rw [if_pos h8])
            have h8' : (8 : Int) < (CS.size : Int) := by omega
            clear HR h8
            have hbu2 := HBU.out
            have hl2 := HS2.out
            have RU := HR2.out.next hbu2 HR2.out.lt
            have FU := HF2.out.next hbu2 HF2.out.lt
            have hbw := HB2.out.trans (hbu2.mono HB2.out.size)
            have hlu := hbu2.size
            obtain ⟨X, hX⟩ : ∃ X, w3.alloc (.cells #[.int .i64 3, .string CS, .slice none 0 0, .slice none 0 0, .int .i64 (a : Int)] 43) = X := ⟨_, rfl⟩
            have bq : Below w3.heap.size w3 X := by rw [← hX]; exact one_alloc _ _
            have DX : Cs X w3.heap.size [.int .i64 3, .string CS, .slice none 0 0, .slice none 0 0, .int .i64 (a : Int)] := by rw [← hX]; exact Cs.new w3 [.int .i64 3, .string CS, .slice none 0 0, .slice none 0 0, .int .i64 (a : Int)] 43
            have RX := RU.next bq (by omega)
            have FX := FU.next bq (by omega)
            have hbx := hbw.trans (bq.mono hbw.size)
            have hlx := bq.size
            have c0 := DX.c 0 _ rfl
            have c1 := DX.c 1 _ rfl
            have c2 := DX.c 2 _ rfl
            have c3 := DX.c 3 _ rfl
            have c4 := DX.c 4 _ rfl
            obtain ⟨W8, hW8⟩ : ∃ W8, X.setCells w.heap.size 0 [.int .i64 3, .string CS, .slice none 0 0, .slice none 0 0, .int .i64 (a : Int)] = W8 := ⟨_, rfl⟩
            have HW8 : Hid (X.setCells w.heap.size 0 (#[.int .i64 3, .string CS, .slice none 0 0, .slice none 0 0, .int .i64 (a : Int)] : Array Value).toList = W8) := hW8
            obtain ⟨C8, B8⟩ := RX.put (us := [.int .i64 3, .string CS, .slice none 0 0, .slice none 0 0, .int .i64 (a : Int)]) (by simp) hW8
            have F8 := FX.but B8 (by omega)
            obtain ⟨W9, hW9⟩ : ∃ W9, W8.setCells (w.heap.size + 1) 0 [.int .i64 2, .int .i64 (a : Int), .int .i64 0] = W9 := ⟨_, rfl⟩
            have HW9 : Hid (W8.setCells (w.heap.size + 1) 0 (#[.int .i64 2, .int .i64 (a : Int), .int .i64 0] : Array Value).toList = W9) := hW9
            obtain ⟨C9, B9⟩ := F8.put (us := [.int .i64 2, .int .i64 (a : Int), .int .i64 0]) (by simp) hW9
            have D9 := C8.but B9 (by omega)
            have HTH8 := hide (RX.there (n := 5) (by simp))
            have HTH9 := hide (F8.there (n := 3) (by simp))
            have HC9 := hide C9
            have HD9 := hide D9
            have HB9 := hide ((hbx.trans (B8.below hbx.size fun k hk => by omega)).trans (B9.below (by have := hbx.size; have := B8.size; omega) fun k hk => by omega))
            clear RU FU hbw RX FX hbx C8 B8 F8 C9 B9 D9 hW8 hW9 HBU hbu2 hlx hlu bq DX
            go_wp2_with (first | (refine wpList_store_mid rfl 43 (.tmp 4) (.tmp 71) rfl w.heap.size 0 #[.int .i64 3, .string CS, .slice none 0 0, .slice none 0 0, .int .i64 (a : Int)] rfl rfl HTH8.out (by kernel_rfl) (by simp [Value.oneCell']) ?_; rw [HW8.out]) | (refine wpList_store_mid rfl 28 (.tmp 6) (.tmp 74) rfl (w.heap.size + 1) 0 #[.int .i64 2, .int .i64 (a : Int), .int .i64 0] rfl rfl HTH9.out (by kernel_rfl) (by simp [Value.oneCell']) ?_; rw [HW9.out]))
            have r0 := HD9.out.c 0 _ rfl
            have r1 := HD9.out.c 1 _ rfl
            have r2 := HD9.out.c 2 _ rfl
            have r3 := HD9.out.c 3 _ rfl
            have r4 := HD9.out.c 4 _ rfl
            have q0 := HC9.out.c 0 _ rfl
            have q1 := HC9.out.c 1 _ rfl
            have q2 := HC9.out.c 2 _ rfl
            exact bodyPost_ret (v := .tuple #[.agg #[.int .i64 3, .string CS, .slice none 0 0, .slice none 0 0, .int .i64 (a : Int)], .int .i64 ((we : Int)), .agg #[.int .i64 2, .int .i64 (a : Int), .int .i64 0]]) (by simp [results, Try.results26, go_sem, r0, r1, r2, r3, r4, q0, q1, q2]) rfl (by rw [HE.out]; exact GvO.bad HB9.out rfl (by decide) rfl)
          · have HE := hide (show r = ⟨3, CS, nilA, we, 0, 0⟩ by rw [← HR.out]; rw [if_neg h8])
            have h8' : ¬ (8 : Int) < (CS.size : Int) := by omega
            clear HR h8
            have hbu2 := HBU.out
            have hl2 := HS2.out
            have RU := HR2.out.next hbu2 HR2.out.lt
            have FU := HF2.out.next hbu2 HF2.out.lt
            have hbw := HB2.out.trans (hbu2.mono HB2.out.size)
            have hlu := hbu2.size
            obtain ⟨X, hX⟩ : ∃ X, w3.alloc (.cells #[.int .i64 3, .string CS, .slice none 0 0, .slice none 0 0, .int .i64 (a : Int)] 43) = X := ⟨_, rfl⟩
            have bq : Below w3.heap.size w3 X := by rw [← hX]; exact one_alloc _ _
            have DX : Cs X w3.heap.size [.int .i64 3, .string CS, .slice none 0 0, .slice none 0 0, .int .i64 (a : Int)] := by rw [← hX]; exact Cs.new w3 [.int .i64 3, .string CS, .slice none 0 0, .slice none 0 0, .int .i64 (a : Int)] 43
            have RX := RU.next bq (by omega)
            have FX := FU.next bq (by omega)
            have hbx := hbw.trans (bq.mono hbw.size)
            have hlx := bq.size
            have c0 := DX.c 0 _ rfl
            have c1 := DX.c 1 _ rfl
            have c2 := DX.c 2 _ rfl
            have c3 := DX.c 3 _ rfl
            have c4 := DX.c 4 _ rfl
            obtain ⟨W8, hW8⟩ : ∃ W8, X.setCells w.heap.size 0 [.int .i64 3, .string CS, .slice none 0 0, .slice none 0 0, .int .i64 (a : Int)] = W8 := ⟨_, rfl⟩
            have HW8 : Hid (X.setCells w.heap.size 0 (#[.int .i64 3, .string CS, .slice none 0 0, .slice none 0 0, .int .i64 (a : Int)] : Array Value).toList = W8) := hW8
            obtain ⟨C8, B8⟩ := RX.put (us := [.int .i64 3, .string CS, .slice none 0 0, .slice none 0 0, .int .i64 (a : Int)]) (by simp) hW8
            have F8 := FX.but B8 (by omega)
            obtain ⟨W9, hW9⟩ : ∃ W9, W8.setCells (w.heap.size + 1) 0 [.int .i64 0, .int .i64 0, .int .i64 0] = W9 := ⟨_, rfl⟩
            have HW9 : Hid (W8.setCells (w.heap.size + 1) 0 (#[.int .i64 0, .int .i64 0, .int .i64 0] : Array Value).toList = W9) := hW9
            obtain ⟨C9, B9⟩ := F8.put (us := [.int .i64 0, .int .i64 0, .int .i64 0]) (by simp) hW9
            have D9 := C8.but B9 (by omega)
            have HTH8 := hide (RX.there (n := 5) (by simp))
            have HTH9 := hide (F8.there (n := 3) (by simp))
            have HC9 := hide C9
            have HD9 := hide D9
            have HB9 := hide ((hbx.trans (B8.below hbx.size fun k hk => by omega)).trans (B9.below (by have := hbx.size; have := B8.size; omega) fun k hk => by omega))
            clear RU FU hbw RX FX hbx C8 B8 F8 C9 B9 D9 hW8 hW9 HBU hbu2 hlx hlu bq DX
            go_wp2_with (first | (refine wpList_store_mid rfl 43 (.tmp 4) (.tmp 75) rfl w.heap.size 0 #[.int .i64 3, .string CS, .slice none 0 0, .slice none 0 0, .int .i64 (a : Int)] rfl rfl HTH8.out (by kernel_rfl) (by simp [Value.oneCell']) ?_; rw [HW8.out]) | (refine wpList_store_mid rfl 28 (.tmp 6) (.tmp 77) rfl (w.heap.size + 1) 0 #[.int .i64 0, .int .i64 0, .int .i64 0] rfl rfl HTH9.out (by kernel_rfl) (by simp [Value.oneCell']) ?_; rw [HW9.out]))
            have r0 := HD9.out.c 0 _ rfl
            have r1 := HD9.out.c 1 _ rfl
            have r2 := HD9.out.c 2 _ rfl
            have r3 := HD9.out.c 3 _ rfl
            have r4 := HD9.out.c 4 _ rfl
            have q0 := HC9.out.c 0 _ rfl
            have q1 := HC9.out.c 1 _ rfl
            have q2 := HC9.out.c 2 _ rfl
            exact bodyPost_ret (v := .tuple #[.agg #[.int .i64 3, .string CS, .slice none 0 0, .slice none 0 0, .int .i64 (a : Int)], .int .i64 ((we : Int)), .agg #[.int .i64 0, .int .i64 0, .int .i64 0]]) (by simp [results, Try.results26, go_sem, r0, r1, r2, r3, r4, q0, q1, q2]) rfl (by rw [HE.out]; exact GvO.good HB9.out rfl rfl rfl rfl rfl rfl (nilA_in 0 _ _))
        | false =>
          rw [hlt] at HLE1 HR
          simp only [Bool.false_eq_true, if_false] at HR
          have HF1 := hide (HFI.out U)
          clear HWO HFI hlt
          generalize byt s a = ch at *
          go_wp2_with fail
          refine HBE1.out.mono ?_
          rintro e w1 ⟨rfl, rfl⟩
          clear HBE1
          go_wp2_with fail
          refine HLE1.out.mono ?_
          rintro e w1 ⟨rfl, rfl⟩
          clear HLE1
          go_wp2_with fail
          refine HF1.out.mono ?_
          rintro e w3 ⟨rfl, hb3⟩
          have HBU := hide (HBU.out.trans (hb3.mono HBU.out.size))
          clear HF1 hb3
          cases hfx : fixD ((numsS s).drop a) with
          | none =>
            rw [hfx] at HR
            have HE := hide (show r = ⟨0, nilT, nilA, 0, 2, a⟩ from HR.out.symm)
            simp only [tkG, tkF]
            clear HR hfx
            have hbu2 := HBU.out
            have hl2 := HS2.out
            have RU := HR2.out.next hbu2 HR2.out.lt
            have FU := HF2.out.next hbu2 HF2.out.lt
            have hbw := HB2.out.trans (hbu2.mono HB2.out.size)
            have hlu := hbu2.size
            obtain ⟨X, hX⟩ : ∃ X, w3.alloc (.cells #[.int .i64 0, .string ⟨#[]⟩, .slice none 0 0, .slice none 0 0, .int .i64 0] 43) = X := ⟨_, rfl⟩
            have bq : Below w3.heap.size w3 X := by rw [← hX]; exact one_alloc _ _
            have DX : Cs X w3.heap.size [.int .i64 0, .string ⟨#[]⟩, .slice none 0 0, .slice none 0 0, .int .i64 0] := by rw [← hX]; exact Cs.new w3 [.int .i64 0, .string ⟨#[]⟩, .slice none 0 0, .slice none 0 0, .int .i64 0] 43
            have RX := RU.next bq (by omega)
            have FX := FU.next bq (by omega)
            have hbx := hbw.trans (bq.mono hbw.size)
            have hlx := bq.size
            have c0 := DX.c 0 _ rfl
            have c1 := DX.c 1 _ rfl
            have c2 := DX.c 2 _ rfl
            have c3 := DX.c 3 _ rfl
            have c4 := DX.c 4 _ rfl
            obtain ⟨W8, hW8⟩ : ∃ W8, X.setCells w.heap.size 0 [.int .i64 0, .string ⟨#[]⟩, .slice none 0 0, .slice none 0 0, .int .i64 0] = W8 := ⟨_, rfl⟩
            have HW8 : Hid (X.setCells w.heap.size 0 (#[.int .i64 0, .string ⟨#[]⟩, .slice none 0 0, .slice none 0 0, .int .i64 0] : Array Value).toList = W8) := hW8
            obtain ⟨C8, B8⟩ := RX.put (us := [.int .i64 0, .string ⟨#[]⟩, .slice none 0 0, .slice none 0 0, .int .i64 0]) (by simp) hW8
            have F8 := FX.but B8 (by omega)
            obtain ⟨W9, hW9⟩ : ∃ W9, W8.setCells (w.heap.size + 1) 0 [.int .i64 2, .int .i64 (a : Int), .int .i64 0] = W9 := ⟨_, rfl⟩
            have HW9 : Hid (W8.setCells (w.heap.size + 1) 0 (#[.int .i64 2, .int .i64 (a : Int), .int .i64 0] : Array Value).toList = W9) := hW9
            obtain ⟨C9, B9⟩ := F8.put (us := [.int .i64 2, .int .i64 (a : Int), .int .i64 0]) (by simp) hW9
            have D9 := C8.but B9 (by omega)
            have HTH8 := hide (RX.there (n := 5) (by simp))
            have HTH9 := hide (F8.there (n := 3) (by simp))
            have HC9 := hide C9
            have HD9 := hide D9
            have HB9 := hide ((hbx.trans (B8.below hbx.size fun k hk => by omega)).trans (B9.below (by have := hbx.size; have := B8.size; omega) fun k hk => by omega))
            clear RU FU hbw RX FX hbx C8 B8 F8 C9 B9 D9 hW8 hW9 HBU hbu2 hlx hlu bq DX
            have HXX := hide hX
            clear hX
            go_upto_region 17 with fail
            rw [HXX.out]
            go_wp2_with (first | (refine wpList_store_mid rfl 43 (.tmp 4) (.tmp 86) rfl w.heap.size 0 #[.int .i64 0, .string ⟨#[]⟩, .slice none 0 0, .slice none 0 0, .int .i64 0] rfl rfl HTH8.out (by kernel_rfl) (by simp [Value.oneCell']) ?_; rw [HW8.out]) | (refine wpList_store_mid rfl 28 (.tmp 6) (.tmp 89) rfl (w.heap.size + 1) 0 #[.int .i64 2, .int .i64 (a : Int), .int .i64 0] rfl rfl HTH9.out (by kernel_rfl) (by simp [Value.oneCell']) ?_; rw [HW9.out]))
            have r0 := HD9.out.c 0 _ rfl
            have r1 := HD9.out.c 1 _ rfl
            have r2 := HD9.out.c 2 _ rfl
            have r3 := HD9.out.c 3 _ rfl
            have r4 := HD9.out.c 4 _ rfl
            have q0 := HC9.out.c 0 _ rfl
            have q1 := HC9.out.c 1 _ rfl
            have q2 := HC9.out.c 2 _ rfl
            exact bodyPost_ret (v := .tuple #[.agg #[.int .i64 0, .string ⟨#[]⟩, .slice none 0 0, .slice none 0 0, .int .i64 0], .int .i64 ((a : Int)), .agg #[.int .i64 2, .int .i64 (a : Int), .int .i64 0]]) (by simp [results, Try.results26, go_sem, r0, r1, r2, r3, r4, q0, q1, q2]) rfl (by rw [HE.out]; exact GvO.bad HB9.out rfl (by decide) rfl)
          | some kt =>
            obtain ⟨kk, tt⟩ := kt
            rw [hfx] at HR
            have HE := hide (show r = ⟨kk, tt, nilA, a + tt.size, 0, 0⟩ from HR.out.symm)
            have HFX := hide hfx
            simp only [tkG, tkF]
            clear HR hfx
            have hts : tt.size ≤ 8192 := fixD_size HFX.out
            have hwr : IntKind.i64.wrap ((a : Int) + (tt.size : Int)) = (a : Int) + (tt.size : Int) := IntWalk.i64_in _ ⟨by omega, by omega⟩
            have hbu2 := HBU.out
            have hl2 := HS2.out
            have RU := HR2.out.next hbu2 HR2.out.lt
            have FU := HF2.out.next hbu2 HF2.out.lt
            have hbw := HB2.out.trans (hbu2.mono HB2.out.size)
            have hlu := hbu2.size
            obtain ⟨X, hX⟩ : ∃ X, w3.alloc (.cells #[.int .i64 kk, .string tt, .slice none 0 0, .slice none 0 0, .int .i64 (a : Int)] 43) = X := ⟨_, rfl⟩
            have bq : Below w3.heap.size w3 X := by rw [← hX]; exact one_alloc _ _
            have DX : Cs X w3.heap.size [.int .i64 kk, .string tt, .slice none 0 0, .slice none 0 0, .int .i64 (a : Int)] := by rw [← hX]; exact Cs.new w3 [.int .i64 kk, .string tt, .slice none 0 0, .slice none 0 0, .int .i64 (a : Int)] 43
            have RX := RU.next bq (by omega)
            have FX := FU.next bq (by omega)
            have hbx := hbw.trans (bq.mono hbw.size)
            have hlx := bq.size
            have c0 := DX.c 0 _ rfl
            have c1 := DX.c 1 _ rfl
            have c2 := DX.c 2 _ rfl
            have c3 := DX.c 3 _ rfl
            have c4 := DX.c 4 _ rfl
            obtain ⟨W8, hW8⟩ : ∃ W8, X.setCells w.heap.size 0 [.int .i64 kk, .string tt, .slice none 0 0, .slice none 0 0, .int .i64 (a : Int)] = W8 := ⟨_, rfl⟩
            have HW8 : Hid (X.setCells w.heap.size 0 (#[.int .i64 kk, .string tt, .slice none 0 0, .slice none 0 0, .int .i64 (a : Int)] : Array Value).toList = W8) := hW8
            obtain ⟨C8, B8⟩ := RX.put (us := [.int .i64 kk, .string tt, .slice none 0 0, .slice none 0 0, .int .i64 (a : Int)]) (by simp) hW8
            have F8 := FX.but B8 (by omega)
            obtain ⟨W9, hW9⟩ : ∃ W9, W8.setCells (w.heap.size + 1) 0 [.int .i64 0, .int .i64 0, .int .i64 0] = W9 := ⟨_, rfl⟩
            have HW9 : Hid (W8.setCells (w.heap.size + 1) 0 (#[.int .i64 0, .int .i64 0, .int .i64 0] : Array Value).toList = W9) := hW9
            obtain ⟨C9, B9⟩ := F8.put (us := [.int .i64 0, .int .i64 0, .int .i64 0]) (by simp) hW9
            have D9 := C8.but B9 (by omega)
            have HTH8 := hide (RX.there (n := 5) (by simp))
            have HTH9 := hide (F8.there (n := 3) (by simp))
            have HC9 := hide C9
            have HD9 := hide D9
            have HB9 := hide ((hbx.trans (B8.below hbx.size fun k hk => by omega)).trans (B9.below (by have := hbx.size; have := B8.size; omega) fun k hk => by omega))
            have HX9 : Hid ((((((((X.setCell ⟨w.heap.size, 0, none⟩ (.int .i64 kk)).setCell ⟨w.heap.size, 1, none⟩ (.string tt)).setCell ⟨w.heap.size, 2, none⟩ (.slice none 0 0)).setCell ⟨w.heap.size, 3, none⟩ (.slice none 0 0)).setCell ⟨w.heap.size, 4, none⟩ (.int .i64 (a : Int))).setCell ⟨w.heap.size + 1, 0, none⟩ (.int .i64 0)).setCell ⟨w.heap.size + 1, 1, none⟩ (.int .i64 0)).setCell ⟨w.heap.size + 1, 2, none⟩ (.int .i64 0) = W9) := by rw [← hW9, ← hW8]; rfl
            have HC9 := hide (C9.next (B := W9.heap.size) (w9drew W9) C9.lt)
            have HD9 := hide (D9.next (B := W9.heap.size) (w9drew W9) D9.lt)
            have HB9 := hide (HB9.out.trans ((w9drew W9).mono HB9.out.size))
            have t0 := RX.c 0 _ rfl
            have t1 := RX.c 1 _ rfl
            have t2 := RX.c 2 _ rfl
            have t3 := RX.c 3 _ rfl
            have t4 := RX.c 4 _ rfl
            have tz := RX.z
            have f0 := FX.c 0 _ rfl
            have f1 := FX.c 1 _ rfl
            have f2 := FX.c 2 _ rfl
            have fz := FX.z
            have hXs : w.heap.size + 2 ≤ w3.heap.size := by omega
            clear RU FU hbw RX FX hbx C8 B8 F8 C9 B9 D9 hW8 hW9 HBU hbu2 hlx hlu bq DX hl2
            go_upto_region 19 with fail
            clear hX
            go_region_with (fail)
            all_goals
              rw [HX9.out]
              go_wp2
              have r0 := HD9.out.c 0 _ rfl
              have r1 := HD9.out.c 1 _ rfl
              have r2 := HD9.out.c 2 _ rfl
              have r3 := HD9.out.c 3 _ rfl
              have r4 := HD9.out.c 4 _ rfl
              have q0 := HC9.out.c 0 _ rfl
              have q1 := HC9.out.c 1 _ rfl
              have q2 := HC9.out.c 2 _ rfl
              exact bodyPost_ret (v := .tuple #[.agg #[.int .i64 kk, .string tt, .slice none 0 0, .slice none 0 0, .int .i64 (a : Int)], .int .i64 (((a : Int) + (tt.size : Int))), .agg #[.int .i64 0, .int .i64 0, .int .i64 0]]) (by simp [results, Try.results26, go_sem, hwr, r0, r1, r2, r3, r4, q0, q1, q2]) rfl (by rw [HE.out]; exact GvO.good HB9.out rfl rfl rfl (by show _ = ((a + tt.size : Nat) : Int); simp) rfl rfl (nilA_in 0 _ _))
end Go.Proofs.Ytnaejfoighmfeaa.Rn
namespace Go.Proofs.Ytnaejfoighmfeaa.Rn
open Go.ChangeShapes Go.WideShapes Go.ChangeAt Go.RowKit
set_option maxRecDepth 100000
set_option linter.unusedVariables false
set_option linter.unusedSimpArgs false
/-- All blocks but two are as they were. -/
def KB (s : Nat) (g : Option Nat) (w W : World) : Prop := w.heap.size ≤ W.heap.size ∧ ∀ k, k < w.heap.size → k ≠ s → some k ≠ g → W.heap[k]? = w.heap[k]?
/-- A value off that block. -/
def LitIn (s : Nat) (g : Option Nat) (w : World) (x : Ar) (v : Value) : Prop := ∀ W, KB s g w W → ArIn 1 0 W x v
theorem LitIn.next {s : Nat} {g : Option Nat} {w w' : World} {x : Ar} {v : Value} (h : LitIn s g w x v) (hb : Below w.heap.size w w') : LitIn s g w' x v :=
  fun W hW => h W ⟨Nat.le_trans hb.size hW.1, fun k hk hs hg => (hW.2 k (Nat.lt_of_lt_of_le hk hb.size) hs hg).trans (hb.block k hk)⟩
theorem LitIn.grow {s : Nat} {g g' : Option Nat} {w w' : World} {x : Ar} {v : Value} (h : LitIn s g w x v) (hg : w.grownBy w' g) (hn : g' = g ∨ g' = some w.heap.size) : LitIn s g' w' x v :=
  fun W hW => h W ⟨Nat.le_trans hg.size hW.1, fun k hk hs hk' => (hW.2 k (Nat.lt_of_lt_of_le hk hg.size) hs (fun e => by
    rcases hn with hn | hn
    · exact hk' (e.trans hn)
    · rw [hn] at e; cases e; omega)).trans (hg.block k hk hk')⟩
/-- A value that was made behind these blocks. -/
theorem LitIn.of {s : Nat} {g : Option Nat} {w : World} {x : Ar} {v : Value} {lo : Nat} (h : ArIn 1 lo w x v) (hs : s < lo) (hg : ∀ k, g = some k → k < lo) : LitIn s g w x v :=
  fun W hW => arIn_low (h.keeps ⟨hW.1, fun b h1 h2 => hW.2 b h2 (by omega) (fun e => by have := hg b e.symm; omega)⟩) (Nat.zero_le _)
/-- Words as values, five each. -/
def TkL (s : Nat) (g : Option Nat) (w : World) (ts : List Wo) (vs : List Value) : Prop := ∀ i t, ts[i]? = some t → ∃ z1 m1 z2 m2, vs[i * 5]? = some (.int .i64 t.kind) ∧ vs[i * 5 + 1]? = some (.string t.text) ∧ vs[i * 5 + 2]? = some (.slice z1 t.lit.shape.length m1) ∧ vs[i * 5 + 3]? = some (.slice z2 t.lit.cells.length m2) ∧ vs[i * 5 + 4]? = some (.int .i64 t.pos) ∧ (t.text.size ≤ 140737488355328 ∧ LitIn s g w t.lit (.agg #[.slice z1 t.lit.shape.length m1, .slice z2 t.lit.cells.length m2]))
theorem TkL.nil (s : Nat) (g : Option Nat) (w : World) : TkL s g w [] [] := fun i t h => by simp at h
theorem TkL.next {s : Nat} {g : Option Nat} {w w' : World} {ts : List Wo} {vs : List Value} (h : TkL s g w ts vs) (hb : Below w.heap.size w w') : TkL s g w' ts vs := fun i t hi => by
  obtain ⟨z1, m1, z2, m2, a, b, c, d, e, f⟩ := h i t hi
  exact ⟨z1, m1, z2, m2, a, b, c, d, e, f.1, f.2.next hb⟩
theorem TkL.snoc {s : Nat} {g g' : Option Nat} {w w' : World} {ts : List Wo} {vs : List Value} {t : Wo} {z1 z2 : Option Addr} {m1 m2 : Nat} (h : TkL s g w ts vs) (hz : t.text.size ≤ 140737488355328) (hl : vs.length = ts.length * 5) (ht : LitIn s g w t.lit (.agg #[.slice z1 t.lit.shape.length m1, .slice z2 t.lit.cells.length m2])) (hg : w.grownBy w' g) (hn : g' = g ∨ g' = some w.heap.size) :
    TkL s g' w' (ts ++ [t]) (vs ++ [.int .i64 t.kind, .string t.text, .slice z1 t.lit.shape.length m1, .slice z2 t.lit.cells.length m2, .int .i64 t.pos]) := by
  intro i u hi
  by_cases hlt : i < ts.length
  · rw [List.getElem?_append_left hlt] at hi
    obtain ⟨y1, k1, y2, k2, a, b, c, d, e, f⟩ := h i u hi
    have lf : ∀ j, j < vs.length → ∀ x, vs[j]? = some x → (vs ++ [.int .i64 t.kind, .string t.text, .slice z1 t.lit.shape.length m1, .slice z2 t.lit.cells.length m2, .int .i64 t.pos])[j]? = some x := fun j hj x hx => by rw [List.getElem?_append_left hj]; exact hx
    exact ⟨y1, k1, y2, k2, lf _ (by omega) _ a, lf _ (by omega) _ b, lf _ (by omega) _ c, lf _ (by omega) _ d, lf _ (by omega) _ e, f.1, f.2.grow hg hn⟩
  · have hie : i = ts.length := by
      have := (List.getElem?_eq_some_iff.1 hi).1
      rw [List.length_append] at this
      simp at this
      omega
    subst hie
    rw [List.getElem?_append_right (Nat.le_refl _)] at hi
    simp at hi
    subst hi
    have rf : ∀ j x, ([.int .i64 t.kind, .string t.text, .slice z1 t.lit.shape.length m1, .slice z2 t.lit.cells.length m2, .int .i64 t.pos] : List Value)[j]? = some x → (vs ++ [.int .i64 t.kind, .string t.text, .slice z1 t.lit.shape.length m1, .slice z2 t.lit.cells.length m2, .int .i64 t.pos])[ts.length * 5 + j]? = some x := fun j x hx => by
      rw [List.getElem?_append_right (by omega), show ts.length * 5 + j - vs.length = j by omega]; exact hx
    exact ⟨z1, m1, z2, m2, rf 0 _ rfl, rf 1 _ rfl, rf 2 _ rfl, rf 3 _ rfl, rf 4 _ rfl, hz, ht.grow hg hn⟩
theorem wAt_some {ts : List Wo} {i : Nat} (h : i < ts.length) : ts[i]? = some (wAt ts i) := by simp [wAt, h]
theorem tkIn_of {w : World} {base s : Nat} {v : Value} {ts : List Wo} {vs : List Value} (hs : s < base) (hown : w.ownsRow base 43 5 v ts.length vs) (h : TkL s v.ownBlock w ts vs) : ∃ a c, v = .slice a ts.length c ∧ ts.length ≤ c ∧ ∀ W, w.heap.size ≤ W.heap.size → (∀ k, k < w.heap.size → k ≠ s → W.heap[k]? = w.heap[k]?) → WoR 1 W a ts := by
  have hown' := hown
  obtain ⟨h1, h2⟩ := hown
  rcases h2 with ⟨rfl, h2⟩ | ⟨g, cap, cur, rfl, hb, hg, hn, hm, hz, ht⟩
  · have e : ts = [] := List.eq_nil_of_length_eq_zero h2
    subst e
    exact ⟨none, 0, rfl, Nat.zero_le _, fun W _ _ i hi => by simp at hi⟩
  · refine ⟨_, _, rfl, by omega, fun W hW1 hW2 i hi => ?_⟩
    obtain ⟨z1, m1, z2, m2, a0, a1, a2, a3, a4, a5, a6⟩ := h i _ (wAt_some hi)
    have c : ∀ j x, j < ts.length * 5 → vs[j]? = some x → W.cell? ⟨g, 0 + j, none⟩ = some x := fun j x hj hx => by
      have := hown'.cellAt j hj
      rw [hx] at this
      rw [World.cell?_of_block (w := w) (a := ⟨g, 0 + j, none⟩) (hW2 g (lt_of_block hg) (by omega))]
      simpa using this
    exact ⟨g, 0, z1, m1, z2, m2, rfl, Nat.lt_of_lt_of_le (lt_of_block hg) hW1, c _ _ (by omega) a0, c (i * 5 + 1) _ (by omega) a1, c (i * 5 + 2) _ (by omega) a2, c (i * 5 + 3) _ (by omega) a3, c (i * 5 + 4) _ (by omega) a4, a5, a6 W ⟨hW1, fun k hk h1 _ => hW2 k hk h1⟩⟩
/-- How far a word goes. -/
theorem strD_end (m : List Int) (f : Nat) : ∀ l, begD m l = true → (strD m (f + 1) l).2.2 = none → 1 ≤ (strD m (f + 1) l).2.1 ∧ (strD m (f + 1) l).2.1 ≤ l.length := by
  induction f with
  | zero =>
    intro l hl
    have hk := endD_pos hl
    simp only [strD]
    split
    · intro h; cases h
    · split
      · intro _; show 1 ≤ endD m l ∧ endD m l ≤ _; omega
      · intro _; have := lead_le blB (l.drop (endD m l)); rw [List.length_drop] at this; show 1 ≤ endD m l + _ + 0 ∧ endD m l + _ + 0 ≤ _; omega
  | succ f ih =>
    intro l hl
    have hk := endD_pos hl
    rw [strD]
    split
    · intro h; cases h
    · split
      · intro _; show 1 ≤ endD m l ∧ endD m l ≤ _; omega
      · rename_i h2
        have hn : begD m (l.drop (endD m l + lead blB (l.drop (endD m l)))) = true := by
          cases hh : begD m (l.drop (endD m l + lead blB (l.drop (endD m l)))) with
          | true => rfl
          | false => exact absurd (Or.inr hh) h2
        intro h3
        have h4 : (strD m (f + 1) (l.drop (endD m l + lead blB (l.drop (endD m l))))).2.2 = none := by
          simpa using h3
        have i1 := ih _ hn h4
        have hb := lead_le blB (l.drop (endD m l))
        rw [List.length_drop] at i1 hb
        show 1 ≤ endD m l + _ + _ ∧ endD m l + _ + _ ≤ _
        omega
theorem quoD_end (f : Nat) : ∀ l, (quoD f l).2.2 = 0 → (quoD f l).2.1 + 1 ≤ l.length := by
  induction f with
  | zero => intro l h; simp [quoD] at h
  | succ f ih =>
    intro l
    rw [quoD]
    split
    · intro h; simp at h
    · rename_i hl
      have hl' : 0 < l.length := List.length_pos_iff.2 hl
      split
      · intro h; simp at h
      · rename_i n k hk
        split
        · intro _; show 0 + 1 ≤ _; omega
        · rename_i hq
          have hs := stpD_len hk hq
          split
          · intro h; simp at h
          · intro h
            have := ih _ h
            rw [List.length_drop] at this
            show _ + _ + 1 ≤ _
            omega
theorem fixD_len {l : List Int} {k : Int} {t : ByteArray} (h : fixD l = some (k, t)) : 1 ≤ t.size ∧ t.size ≤ l.length := by
  have hh : ∀ L : List ByteArray, (∀ t ∈ L, 1 ≤ t.size) → ∀ t, fxD l L = some t → 1 ≤ t.size ∧ t.size ≤ l.length := fun L hL t ht => ⟨hL t (fxD_mem ht), by
    have := List.find?_some ht
    have := hasP_len this
    rwa [numsS_len] at this⟩
  unfold fixD at h
  split at h
  · rename_i u hu; cases h; exact hh fxL0 (by decide) _ hu
  · split at h
    · rename_i u hu; cases h; exact hh fxL1 (by decide) _ hu
    · split at h
      · rename_i u hu; cases h; exact hh fxL2 (by decide) _ hu
      · split at h
        · rename_i u hu; cases h; exact hh fxL3 (by decide) _ hu
        · split at h
          · rename_i u hu; cases h; exact hh fxL4 (by decide) _ hu
          · cases h
theorem oneW_stop (s : ByteArray) (a : Nat) (ha : a < s.size) (h : (oneW s a).err = 0) : a < (oneW s a).stop ∧ (oneW s a).stop ≤ s.size ∧ (oneW s a).text.size ≤ s.size := by
  have hlen : ∀ j, ((numsS s).drop j).length = s.size - j := fun j => by rw [List.length_drop, numsS_len]
  unfold oneW at h ⊢
  split at h
  · simp at h
  · rename_i h0
    rw [if_neg h0]
    split at h
    · rename_i hb
      rw [if_pos hb]
      split at h
      · simp at h
      · rename_i hn
        have hs : 1 ≤ (SD minL ((numsS s).drop a)).2.1 ∧ (SD minL ((numsS s).drop a)).2.1 ≤ s.size - a := by
          have := strD_end minL _ _ hb hn
          exact ⟨this.1, by rw [← hlen a]; exact this.2⟩
        simp only [hn]
        refine ⟨?_, ?_, Nat.zero_le _⟩
        · show a < a + (SD minL ((numsS s).drop a)).2.1; omega
        · show a + (SD minL ((numsS s).drop a)).2.1 ≤ s.size; omega
    · rename_i hb
      rw [if_neg hb]
      split at h
      · rename_i h39
        rw [if_pos h39]
        split at h
        · rename_i hq
          rw [if_pos hq]
          have hs : (QD ((numsS s).drop (a + 1))).2.1 + 1 ≤ s.size - (a + 1) := by rw [← hlen (a + 1)]; exact quoD_end _ _ hq
          refine ⟨?_, ?_, Nat.zero_le _⟩
          · show a < a + 1 + _ + 1; omega
          · show a + 1 + (QD ((numsS s).drop (a + 1))).2.1 + 1 ≤ s.size; omega
        · rename_i hq
          exfalso
          simp only at h
          split at h
          · cases h
          · exact hq h
      · rename_i h39
        rw [if_neg h39]
        split at h
        · rename_i hl
          rw [if_pos hl]
          split at h
          · simp at h
          · rename_i h8
            rw [if_neg h8]
            have hle := lead_le nmB ((numsS s).drop (a + 1))
            rw [hlen] at hle
            refine ⟨?_, ?_, ?_⟩
            · show a < wrdE s a; unfold wrdE; omega
            · show wrdE s a ≤ s.size; unfold wrdE; omega
            · have := numsS_len (cutS s a (wrdE s a))
              rw [cutS_nums, List.length_take, hlen] at this
              show (cutS s a (wrdE s a)).size ≤ _; omega
        · rename_i hl
          rw [if_neg hl]
          split at h
          · simp at h
          · rename_i k t hf
            simp only [hf]
            have := fixD_len hf
            rw [hlen] at this
            refine ⟨?_, ?_, ?_⟩
            · show a < a + t.size; omega
            · show a + t.size ≤ s.size; omega
            · show t.size ≤ s.size; omega
/-- All words of a text from a place on, so many being read already. -/
def lexD (s : ByteArray) : Nat → Nat → Nat → Rs (List Wo)
  | 0, _, _ => .ok []
  | f + 1, n, a =>
    if ¬ a < s.size ∨ hasP ((numsS s).drop a) remL = true then .ok []
    else if n = 2048 then .bad 14 a
    else if ¬ (oneW s a).err = 0 then .bad (oneW s a).err (oneW s a).ea
    else (lexD s f (n + 1) ((oneW s a).stop + lead blB ((numsS s).drop (oneW s a).stop))).bind fun l => .ok (⟨(oneW s a).kind, (oneW s a).text, (oneW s a).lit, (a : Int)⟩ :: l)
def lexA (s : ByteArray) : Rs (List Wo) := if 8192 < s.size then .bad 14 0 else lexD s (s.size + 1) 0 (lead blB (numsS s))
/-- Behind words that were read. -/
def jnD (ts : List Wo) (r : Rs (List Wo)) : Rs (List Wo) := r.bind fun l => .ok (ts ++ l)
theorem lexD_fuel (s : ByteArray) (f : Nat) : ∀ f' n a, s.size - a < f → s.size - a < f' → lexD s f' n a = lexD s f n a := by
  induction f with
  | zero => intro f' n a h; omega
  | succ f ih =>
    intro f' n a hf hf'
    obtain ⟨f', rfl⟩ : ∃ g, f' = g + 1 := ⟨f' - 1, by omega⟩
    rw [lexD, lexD]
    split
    · rfl
    · rename_i h1
      split
      · rfl
      · split
        · rfl
        · rename_i h3
          have hlt : a < s.size := Decidable.byContradiction fun h => h1 (Or.inl h)
          have hs := oneW_stop s a hlt (Decidable.not_not.1 h3)
          rw [ih f' (n + 1) _ (by omega) (by omega)]
def LD (s : ByteArray) (n a : Nat) : Rs (List Wo) := lexD s (s.size + 1) n a
theorem LD_end {s : ByteArray} {n a : Nat} (h : ¬ a < s.size ∨ hasP ((numsS s).drop a) remL = true) : LD s n a = .ok [] := by unfold LD; rw [lexD, if_pos h]
theorem LD_long {s : ByteArray} {a : Nat} (h : ¬ (¬ a < s.size ∨ hasP ((numsS s).drop a) remL = true)) : LD s 2048 a = .bad 14 a := by unfold LD; rw [lexD, if_neg h, if_pos rfl]
theorem LD_bad {s : ByteArray} {n a : Nat} (h : ¬ (¬ a < s.size ∨ hasP ((numsS s).drop a) remL = true)) (hn : ¬ n = 2048) (he : ¬ (oneW s a).err = 0) : LD s n a = .bad (oneW s a).err (oneW s a).ea := by unfold LD; rw [lexD, if_neg h, if_neg hn, if_pos he]
theorem LD_go {s : ByteArray} {n a : Nat} {ts : List Wo} (h : ¬ (¬ a < s.size ∨ hasP ((numsS s).drop a) remL = true)) (hn : ¬ n = 2048) (he : (oneW s a).err = 0) :
    jnD ts (LD s n a) = jnD (ts ++ [⟨(oneW s a).kind, (oneW s a).text, (oneW s a).lit, (a : Int)⟩]) (LD s (n + 1) ((oneW s a).stop + lead blB ((numsS s).drop (oneW s a).stop))) := by
  have hlt : a < s.size := Decidable.byContradiction fun hh => h (Or.inl hh)
  have hs := oneW_stop s a hlt he
  have e : LD s n a = (LD s (n + 1) ((oneW s a).stop + lead blB ((numsS s).drop (oneW s a).stop))).bind fun l => .ok (⟨(oneW s a).kind, (oneW s a).text, (oneW s a).lit, (a : Int)⟩ :: l) := by
    unfold LD
    conv => lhs; rw [lexD, if_neg h, if_neg hn, if_neg (fun hh => hh he)]
    rw [lexD_fuel s (s.size + 1) s.size (n + 1) _ (by omega) (by omega)]
  rw [e]
  cases LD s (n + 1) ((oneW s a).stop + lead blB ((numsS s).drop (oneW s a).stop)) with
  | ok l => simp [jnD, Rs.bind]
  | bad e p => rfl
  | stuck => rfl
end Go.Proofs.Ytnaejfoighmfeaa.Rn
