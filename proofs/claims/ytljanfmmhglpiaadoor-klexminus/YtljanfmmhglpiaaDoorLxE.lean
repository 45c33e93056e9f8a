/-
  The byte ahead of a place: the contracts of isBehindOperand, isNumber and isRemark; parts of slices as letters.
-/
import Derived.Test.YtljanfmmhglpiaaDoorLxD
import Derived.Test.YtljanfmmhglpiaaDoorSh
import Derived.Shelf.Bytes.SlSmallAll
import Derived.Lib.ConvBytes
import Derived.Lib.SlBytesConst
import Derived.Deep.RegionWith
import Derived.Deep.RegionHeld3
import Derived.Deep.Cut
import Derived.Deep.CutRange
namespace Go.Proofs.YtljanfmmhglpiaaDoor
open Go.ChangeShapes Go.WideShapes Go.ChangeAt Go.RowKit
open Rn (Byte)
set_option maxRecDepth 100000
set_option linter.unusedVariables false
set_option linter.unusedSimpArgs false
/-- Where a part of a slice begins. -/
def subA (a : Option Addr) (l c sz : Nat) : Option Addr := if c = l then a else a.map (·.add (l * sz))
theorem part_lh {P : Program} {t e : TypeId} {sz : Nat} (ht : P.underlying t = some (.slice e)) (hsz : (P.info? e).map (·.size) = some sz) (a : Option Addr) (n c l h : Nat) (kl kh : Int) (el : kl = (l : Int)) (eh : kh = (h : Int)) (h1 : l ≤ h) (h2 : h ≤ c) (W : World) :
    (Instr.sliceAt t (.slice a n c) (some (.int .i64 kl)) (some (.int .i64 kh)) none).run P W = .ok (.slice (subA a l c sz) (h - l) (c - l)) W := by
  subst el eh
  have he : P.elem t = e := by simp [Program.elem, ht]
  have ht' : P.underlying t = some (.slice (P.elem t)) := by rw [he]; exact ht
  obtain ⟨i, hi, hs⟩ := Option.map_eq_some_iff.1 hsz
  rw [run_sliceAt_slice W t _ _ _ _ ht', run_slice_lh W t a n c ht' .i64 .i64 l h (by omega) (by omega) (by omega), he]
  simp [sizeOf, typeInfo, hi, hs, sliced, subA]
theorem part_l {P : Program} {t e : TypeId} {sz : Nat} (ht : P.underlying t = some (.slice e)) (hsz : (P.info? e).map (·.size) = some sz) (a : Option Addr) (n c l : Nat) (kl : Int) (el : kl = (l : Int)) (h1 : l ≤ n) (W : World) :
    (Instr.sliceAt t (.slice a n c) (some (.int .i64 kl)) none none).run P W = .ok (.slice (subA a l c sz) (n - l) (c - l)) W := by
  subst el
  have he : P.elem t = e := by simp [Program.elem, ht]
  have ht' : P.underlying t = some (.slice (P.elem t)) := by rw [he]; exact ht
  obtain ⟨i, hi, hs⟩ := Option.map_eq_some_iff.1 hsz
  rw [run_sliceAt_slice W t _ _ _ _ ht', run_slice_l W t a n c ht' .i64 l (by omega) (by omega), he]
  simp [sizeOf, typeInfo, hi, hs, sliced, subA]
theorem part_h {P : Program} {t e : TypeId} {sz : Nat} (ht : P.underlying t = some (.slice e)) (hsz : (P.info? e).map (·.size) = some sz) (a : Option Addr) (n c h : Nat) (kh : Int) (eh : kh = (h : Int)) (h2 : h ≤ c) (W : World) :
    (Instr.sliceAt t (.slice a n c) none (some (.int .i64 kh)) none).run P W = .ok (.slice a h c) W := by
  subst eh
  have he : P.elem t = e := by simp [Program.elem, ht]
  have ht' : P.underlying t = some (.slice (P.elem t)) := by rw [he]; exact ht
  obtain ⟨i, hi, hs⟩ := Option.map_eq_some_iff.1 hsz
  rw [run_sliceAt_slice W t _ _ _ _ ht', run_slice_h W t a n c ht' .i64 h (by omega) (by omega), he]
  have : (if c = 0 then a else a.map (·.add 0)) = a := by
    split
    · rfl
    · cases a with
      | none => rfl
      | some p => cases p with | mk b o f => simp [Addr.add]
  simp [sizeOf, typeInfo, hi, hs, sliced, this]
theorem sz5 : (Tryd.prog.info? 5).map (·.size) = some 1 := by kernel_rfl
/-- The bytes of a string, as numbers. -/
def numsS (s : ByteArray) : List Int := s.data.toList.map fun c => (c.toNat : Int)
theorem numsS_len (s : ByteArray) : (numsS s).length = s.size := by simp [numsS]
theorem numsS_bytes (s : ByteArray) : Lib.bytesOf (numsS s) = s.data.toList := by
  unfold Lib.bytesOf numsS
  rw [List.map_map]
  conv => rhs; rw [← List.map_id s.data.toList]
  refine List.map_congr_left fun c _ => ?_
  simp
theorem numsS_at (s : ByteArray) (i : Nat) (hi : i < s.size) : (numsS s)[i]?.getD 0 = ((s.data.toList.getD i 0).toNat : Int) := by
  have h : i < s.data.toList.length := by simpa using hi
  simp [numsS, List.getElem?_map, List.getD_eq_getElem?_getD, List.getElem?_eq_getElem h]
theorem numsS_byte (s : ByteArray) : ∀ z ∈ numsS s, Byte z := by
  intro z hz
  simp only [numsS, List.mem_map] at hz
  obtain ⟨c, -, rfl⟩ := hz
  have := c.toNat_lt
  constructor <;> omega
/-- A part of a text. -/
theorem Txt.part {w : World} {b : Nat} {B : List Int} (h : Txt w b B) (a C : Nat) (ha : a ≤ B.length) (hC : B.length ≤ C) (m : Nat) (hm : a + m ≤ B.length) : Lib.BytesIn w (subA (some ⟨b, 0, none⟩) a C 1) m ((B.drop a).take m) := by
  intro h0
  refine ⟨b, a, ?_, fun i hi => ?_⟩
  · unfold subA
    rw [if_neg (by omega)]
    simp [Addr.add] <;> omega
  · rw [h.cell (a + i) (by omega), List.getD_eq_getElem?_getD, List.getElem?_take, if_pos hi, List.getElem?_drop]
theorem bytes_next {w w' : World} {p : Option Addr} {n : Nat} {xs : List Int} (h : Lib.BytesIn w p n xs) (hb : Below w.heap.size w w') : Lib.BytesIn w' p n xs := by
  intro h0
  obtain ⟨b, o, hp, hc⟩ := h h0
  refine ⟨b, o, hp, fun i hi => ?_⟩
  have := hc i hi
  exact (hb.cell (p := ⟨b, o + i, none⟩) (Lib.lt_of_cell this)).trans this
theorem below_bytes (w : World) (e : TypeId) (s : ByteArray) : Below w.heap.size w (Lib.bytesWorld w e s) := by
  refine ⟨rfl, rfl, rfl, by rw [Lib.bytesWorld_size]; omega, fun k hk => Lib.bytesWorld_at_old w e s k hk⟩
/-- In the words of lists of numbers. -/
theorem bytes_inj {xs ys : List Int} (hx : ∀ z ∈ xs, Byte z) (hy : ∀ z ∈ ys, Byte z) (h : Lib.bytesOf xs = Lib.bytesOf ys) : xs = ys := by
  induction xs generalizing ys with
  | nil =>
    cases ys with
    | nil => rfl
    | cons y r => simp [Lib.bytesOf] at h
  | cons x t ih =>
    cases ys with
    | nil => simp [Lib.bytesOf] at h
    | cons y r =>
      simp only [Lib.bytesOf, List.map_cons, List.cons.injEq] at h
      have hxb := hx x (by simp)
      have hyb := hy y (by simp)
      have e : x = y := by
        have h1 := congrArg UInt8.toNat h.1
        rw [UInt8.toNat_ofNat', UInt8.toNat_ofNat'] at h1
        unfold Byte at hxb hyb
        omega
      rw [e, ih (fun z hz => hx z (by simp [hz])) (fun z hz => hy z (by simp [hz])) h.2]
/-- The bytes beside letters and digits with which an operand may end. -/
theorem closers (c : Int) (h : Byte c) : decide (0 ≤ Lib.indexByte [41, 93, 125, 34] c.toNat.toUInt8) = (decide (c = 41) || decide (c = 93) || decide (c = 125) || decide (c = 34)) := by
  have key : ∀ n : Fin 256, decide (0 ≤ Lib.indexByte [41, 93, 125, 34] n.val.toUInt8) = (decide ((n.val : Int) = 41) || decide ((n.val : Int) = 93) || decide ((n.val : Int) = 125) || decide ((n.val : Int) = 34)) := by decide +kernel
  unfold Byte at h
  have := key ⟨c.toNat, by omega⟩
  simp only at this
  rwa [show ((c.toNat : Nat) : Int) = c by omega] at this
theorem ahd_at {B : List Int} {a : Nat} (h0 : ¬ a = 0) (ha : a ≤ B.length) : ahd 32 B a = B[a - 1]?.getD 0 := by
  unfold ahd
  rw [if_neg h0, List.getElem?_eq_getElem (by omega)]
  rfl
set_option maxHeartbeats 2000000 in
theorem behind30 {w : World} {b C L : Nat} {B : List Int} (hT : Txt w b B) (hL : B.length = L) (a : Nat) (ha : a ≤ L) :
    Calls Tryd.prog 30 #[.slice (some ⟨b, 0, none⟩) L C, .int .i64 (a : Int)] w fun e w' => e = .returned (.bool (opB (ahd 32 B a))) ∧ Below w.heap.size w w' := by
  have hlen := hT.len
  rw [hL] at hlen
  by_cases h0 : a = 0
  · subst h0
    have HD : Hid (Below w.heap.size w w) := Below.refl _ _
    clear hT hL
    go_enter Tryd.func30, Tryd.ntmps30
    go_wp2
    go_ret
    exact ⟨Rn.retB rfl, by first | exact HD.out | exact HD.out.drew | exact drewN_below HD.out _⟩
  · obtain ⟨k, rfl⟩ : ∃ k, a = k + 1 := ⟨a - 1, by omega⟩
    have e1 := ahd_at (B := B) (a := k + 1) h0 (by omega)
    rw [Nat.add_sub_cancel] at e1
    rw [e1]
    have hc := hT.cell k (by omega)
    have hby := hT.at k (by omega)
    clear hT hL e1
    generalize B[k]?.getD 0 = c at *
    have HL := hide (fun W => letter25 c W)
    have HD := hide (fun W => digit31 c W)
    have HI := hide (fun W => Tryd.strings_IndexByte ⟨#[41, 93, 125, 34]⟩ c W)
    have HO := hide (closers c hby)
    have HB : Hid (Below w.heap.size w w) := Below.refl _ _
    clear hby
    unfold opB
    have hz : (((k + 1 : Nat) : Int) == 0) = false := beq_eq_false_iff_ne.2 (by omega)
    cases hl : ltB c with
    | true =>
      rw [hl] at HL
      clear hl HI HO
      go_enter Tryd.func30, Tryd.ntmps30
      go_wp2_with fail
      refine (HL.out _).mono ?_
      rintro e w1 ⟨rfl, hw⟩
      have hw' := hw.symm
      subst hw'
      clear hw HL HD
      go_wp2
      go_ret
      exact ⟨Rn.retB (by simp), by first | exact HB.out | exact HB.out.drew | exact drewN_below HB.out _⟩
    | false =>
      rw [hl] at HL
      clear hl
      cases hd : dgB c with
      | true =>
        rw [hd] at HD
        clear hd HI HO
        go_enter Tryd.func30, Tryd.ntmps30
        go_wp2_with fail
        refine (HL.out _).mono ?_
        rintro e w1 ⟨rfl, hw⟩
        have hw' := hw.symm
        subst hw'
        clear hw HL
        go_wp2_with fail
        refine (HD.out _).mono ?_
        rintro e w1 ⟨rfl, hw⟩
        have hw' := hw.symm
        subst hw'
        clear hw HD
        go_wp2
        go_ret
        exact ⟨Rn.retB (by simp), by first | exact HB.out | exact HB.out.drew | exact drewN_below HB.out _⟩
      | false =>
        rw [hd] at HD
        clear hd
        obtain ⟨ix, hix⟩ : ∃ ix, Lib.indexByte [41, 93, 125, 34] c.toNat.toUInt8 = ix := ⟨_, rfl⟩
        have HI' : Hid (∀ W, Calls Tryd.prog 42 #[.string ⟨#[41, 93, 125, 34]⟩, .int .u8 c] W fun e w' => e = .returned (.int .i64 ix) ∧ w' = W) := by
          intro W
          rw [← hix]
          exact HI.out W
        rw [hix] at HO
        clear HI hix
        go_enter Tryd.func30, Tryd.ntmps30
        go_wp2_with fail
        refine (HL.out _).mono ?_
        rintro e w1 ⟨rfl, hw⟩
        have hw' := hw.symm
        subst hw'
        clear hw HL
        go_wp2_with fail
        refine (HD.out _).mono ?_
        rintro e w1 ⟨rfl, hw⟩
        have hw' := hw.symm
        subst hw'
        clear hw HD
        go_wp2_with fail
        refine (HI'.out _).mono ?_
        rintro e w1 ⟨rfl, hw⟩
        have hw' := hw.symm
        subst hw'
        clear hw HI'
        go_wp2
        go_ret
        exact ⟨Rn.retB (by simp [← HO.out]), by first | exact HB.out | exact HB.out.drew | exact drewN_below HB.out _⟩
theorem hasP_min (c : Int) (t : List Int) : hasP (c :: t) minL = decide (c = 45) := by
  unfold hasP minL
  simp only [List.isPrefixOf]
  by_cases hc : c = 45
  · subst hc; simp
  · have : ((45 : Int) == c) = false := beq_eq_false_iff_ne.2 (fun h => hc h.symm)
    rw [this]; simp [hc]
theorem numB_cons (v c : Int) (t : List Int) : numB v (c :: t) = if c = 45 then (!opB v && dgB (t.headD 0)) else dgB c := by
  have h := hasP_min c t
  unfold numB offM
  rw [h]
  by_cases hc : c = 45
  · subst hc
    cases t with
    | nil => simp [dgB]
    | cons d s => simp [Bool.and_comm]
  · simp [hc]
theorem numB_end {v : Int} {B : List Int} {a : Nat} (h : B.length ≤ a) : numB v (B.drop a) = false := by
  rw [List.drop_eq_nil_of_le h]; rfl
theorem headD_drop (B : List Int) (a : Nat) : (B.drop a).headD 0 = B[a]?.getD 0 := by
  rw [List.headD_eq_head?_getD, List.head?_drop]
set_option maxHeartbeats 4000000 in
theorem number22 {w : World} {b C L : Nat} {B : List Int} (hT : Txt w b B) (hL : B.length = L) (a : Nat) (ha : a ≤ L) :
    Calls Tryd.prog 22 #[.slice (some ⟨b, 0, none⟩) L C, .int .i64 (a : Int)] w fun e w' => e = .returned (.bool (numB (ahd 32 B a) (B.drop a))) ∧ Below w.heap.size w w' := by
  have hlen := hT.len
  rw [hL] at hlen
  have HB : Hid (Below w.heap.size w w) := Below.refl _ _
  by_cases hlt : a < L
  · have hc := hT.cell a (by omega)
    rw [drop_cons (show a < B.length by omega), numB_cons]
    by_cases h45 : B[a]?.getD 0 = 45
    · rw [h45] at hc
      rw [if_pos h45, headD_drop]
      have HO := hide (behind30 (C := C) hT hL a ha)
      cases ho : opB (ahd 32 B a) with
      | true =>
        rw [ho] at HO
        clear hT hL ho h45
        go_enter Tryd.func22, Tryd.ntmps22
        go_wp2_with fail
        refine HO.out.mono ?_
        rintro e w1 ⟨rfl, hb1⟩
        clear HO HB
        go_wp2
        go_ret
        exact ⟨Rn.retB rfl, by first | exact hb1 | exact hb1.drew | exact drewN_below hb1 _⟩
      | false =>
        rw [ho] at HO
        by_cases h1 : a + 1 < L
        · have HT := hide (fun W (h : Below w.heap.size w W) => (hT.next h).cell (a + 1) (by omega))
          clear hT hL ho h45
          generalize B[a + 1]?.getD 0 = d at *
          have HDG := hide (fun W => digit31 d W)
          generalize dgB d = dd at *
          go_enter Tryd.func22, Tryd.ntmps22
          go_wp2_with fail
          refine HO.out.mono ?_
          rintro e w1 ⟨rfl, hb1⟩
          have hd := HT.out _ hb1
          clear HO HB HT
          go_wp2_with fail
          refine (HDG.out _).mono ?_
          rintro e w2 ⟨rfl, hw⟩
          have hw' := hw.symm
          subst hw'
          clear hw HDG
          go_wp2
          go_ret
          exact ⟨Rn.retB (by simp), by first | exact hb1 | exact hb1.drew | exact drewN_below hb1 _⟩
        · have hd : B[a + 1]?.getD 0 = 0 := by rw [List.getElem?_eq_none (by omega)]; rfl
          rw [hd]
          clear hT hL ho h45 hd
          go_enter Tryd.func22, Tryd.ntmps22
          go_wp2_with fail
          refine HO.out.mono ?_
          rintro e w1 ⟨rfl, hb1⟩
          clear HO HB
          go_wp2
          go_ret
          exact ⟨Rn.retB rfl, by first | exact hb1 | exact hb1.drew | exact drewN_below hb1 _⟩
    · rw [if_neg h45]
      clear hT hL
      generalize B[a]?.getD 0 = c at *
      have h45' : (c == 45) = false := beq_eq_false_iff_ne.2 h45
      have HDG := hide (fun W => digit31 c W)
      generalize dgB c = dd at *
      clear h45
      go_enter Tryd.func22, Tryd.ntmps22
      go_wp2_with fail
      refine (HDG.out _).mono ?_
      rintro e w2 ⟨rfl, hw⟩
      have hw' := hw.symm
      subst hw'
      clear hw HDG
      go_wp2
      go_ret
      exact ⟨rfl, by first | exact HB.out | exact HB.out.drew | exact drewN_below HB.out _⟩
  · rw [numB_end (by omega)]
    clear hT hL
    go_enter Tryd.func22, Tryd.ntmps22
    go_wp2
    go_ret
    exact ⟨Rn.retB rfl, by first | exact HB.out | exact HB.out.drew | exact drewN_below HB.out _⟩
set_option maxHeartbeats 4000000 in
theorem remark18 {w : World} {b C L : Nat} {B : List Int} (hT : Txt w b B) (hL : B.length = L) (a : Nat) (ha : a < L) :
    Calls Tryd.prog 18 #[.slice (some ⟨b, 0, none⟩) L C, .int .i64 (a : Int)] w fun e w' => e = .returned (.bool (remB (ahd 32 B a) (B.drop a))) ∧ Below w.heap.size w w' := by
  have hlen := hT.len
  rw [hL] at hlen
  have HB : Hid (Below w.heap.size w w) := Below.refl _ _
  have hc := hT.cell a (by omega)
  unfold remB
  rw [headD_drop]
  by_cases h47 : B[a]?.getD 0 = 47
  · rw [h47] at hc ⊢
    clear h47
    by_cases h0 : a = 0
    · subst h0
      clear hT hL
      go_enter Tryd.func18, Tryd.ntmps18
      go_wp2
      go_ret
      exact ⟨Rn.retB rfl, by first | exact HB.out | exact HB.out.drew | exact drewN_below HB.out _⟩
    · obtain ⟨k, rfl⟩ : ∃ k, a = k + 1 := ⟨a - 1, by omega⟩
      have e1 := ahd_at (B := B) (a := k + 1) h0 (by omega)
      rw [Nat.add_sub_cancel] at e1
      rw [e1]
      have hk := hT.cell k (by omega)
      clear hT hL e1 h0
      generalize B[k]?.getD 0 = c at *
      have hz : (((k + 1 : Nat) : Int) == 0) = false := beq_eq_false_iff_ne.2 (by omega)
      have HBL := hide (fun W => blank17 c W)
      go_enter Tryd.func18, Tryd.ntmps18
      go_wp2_with fail
      refine (HBL.out _).mono ?_
      rintro e w2 ⟨rfl, hw⟩
      have hw' := hw.symm
      subst hw'
      clear hw HBL
      go_wp2
      go_ret
      exact ⟨Rn.retB (by simp [blB]; omega), by first | exact HB.out | exact HB.out.drew | exact drewN_below HB.out _⟩
  · clear hT hL
    generalize B[a]?.getD 0 = c at *
    have h47' : (c == 47) = false := beq_eq_false_iff_ne.2 h47
    go_enter Tryd.func18, Tryd.ntmps18
    go_wp2
    go_ret
    exact ⟨Rn.retB (by simp [h47]), by first | exact HB.out | exact HB.out.drew | exact drewN_below HB.out _⟩
end Go.Proofs.YtljanfmmhglpiaaDoor
