/-
  What bytes begin with: the contracts of begins and isNumber; parts of slices as letters.
-/
import Derived.Test.YtnndnjffnkhpdaaDoorLxD
import Derived.Test.YtnndnjffnkhpdaaDoorSh
import Derived.Lib.ConvBytes
import Derived.Lib.SlBytesConst
import Derived.Deep.RegionWith
import Derived.Deep.RegionHeld3
import Derived.Deep.Cut
import Derived.Deep.CutRange
namespace Go.Proofs.YtnndnjffnkhpdaaDoor
open Go.ChangeShapes Go.WideShapes Go.ChangeAt Go.RowKit
open Rn (Byte)
set_option maxRecDepth 100000
set_option linter.unusedVariables false
set_option linter.unusedSimpArgs false
/-- Where a part of a slice begins. -/
def subA (a : Option Addr) (l c sz : Nat) : Option Addr := if c = l then a else a.map (·.add (l * sz))
theorem part_lh {P : Program} {t e : TypeId} {sz : Nat} (ht : P.underlying t = some (.slice e)) (hsz : (P.info? e).map (·.size) = some sz) (a : Option Addr) (n c l h : Nat) (kl kh : Int) (el : kl = (l : Int)) (eh : kh = (h : Int)) (h1 : l ≤ h) (h2 : h ≤ c) (W : World) :
    (Instr.sliceAt t (.slice a n c) (some (.int .i64 kl)) (some (.int .i64 kh)) none).run P W = .ok (.slice (subA a l c sz) (h - l) (c - l)) W := by
  subst el eh
  have he : P.elem t = e := by simp [Program.elem, ht]
  have ht' : P.underlying t = some (.slice (P.elem t)) := by rw [he]; exact ht
  obtain ⟨i, hi, hs⟩ := Option.map_eq_some_iff.1 hsz
  rw [run_sliceAt_slice W t _ _ _ _ ht', run_slice_lh W t a n c ht' .i64 .i64 l h (by omega) (by omega) (by omega), he]
  simp [sizeOf, typeInfo, hi, hs, sliced, subA]
theorem part_l {P : Program} {t e : TypeId} {sz : Nat} (ht : P.underlying t = some (.slice e)) (hsz : (P.info? e).map (·.size) = some sz) (a : Option Addr) (n c l : Nat) (kl : Int) (el : kl = (l : Int)) (h1 : l ≤ n) (W : World) :
    (Instr.sliceAt t (.slice a n c) (some (.int .i64 kl)) none none).run P W = .ok (.slice (subA a l c sz) (n - l) (c - l)) W := by
  subst el
  have he : P.elem t = e := by simp [Program.elem, ht]
  have ht' : P.underlying t = some (.slice (P.elem t)) := by rw [he]; exact ht
  obtain ⟨i, hi, hs⟩ := Option.map_eq_some_iff.1 hsz
  rw [run_sliceAt_slice W t _ _ _ _ ht', run_slice_l W t a n c ht' .i64 l (by omega) (by omega), he]
  simp [sizeOf, typeInfo, hi, hs, sliced, subA]
theorem part_h {P : Program} {t e : TypeId} {sz : Nat} (ht : P.underlying t = some (.slice e)) (hsz : (P.info? e).map (·.size) = some sz) (a : Option Addr) (n c h : Nat) (kh : Int) (eh : kh = (h : Int)) (h2 : h ≤ c) (W : World) :
    (Instr.sliceAt t (.slice a n c) none (some (.int .i64 kh)) none).run P W = .ok (.slice a h c) W := by
  subst eh
  have he : P.elem t = e := by simp [Program.elem, ht]
  have ht' : P.underlying t = some (.slice (P.elem t)) := by rw [he]; exact ht
  obtain ⟨i, hi, hs⟩ := Option.map_eq_some_iff.1 hsz
  rw [run_sliceAt_slice W t _ _ _ _ ht', run_slice_h W t a n c ht' .i64 h (by omega) (by omega), he]
  have : (if c = 0 then a else a.map (·.add 0)) = a := by
    split
    · rfl
    · cases a with
      | none => rfl
      | some p => cases p with | mk b o f => simp [Addr.add]
  simp [sizeOf, typeInfo, hi, hs, sliced, this]
theorem sz5 : (Tryd.prog.info? 5).map (·.size) = some 1 := by kernel_rfl
/-- The bytes of a string, as numbers. -/
def numsS (s : ByteArray) : List Int := s.data.toList.map fun c => (c.toNat : Int)
theorem numsS_len (s : ByteArray) : (numsS s).length = s.size := by simp [numsS]
theorem numsS_bytes (s : ByteArray) : Lib.bytesOf (numsS s) = s.data.toList := by
  unfold Lib.bytesOf numsS
  rw [List.map_map]
  conv => rhs; rw [← List.map_id s.data.toList]
  refine List.map_congr_left fun c _ => ?_
  simp
theorem numsS_at (s : ByteArray) (i : Nat) (hi : i < s.size) : (numsS s)[i]?.getD 0 = ((s.data.toList.getD i 0).toNat : Int) := by
  have h : i < s.data.toList.length := by simpa using hi
  simp [numsS, List.getElem?_map, List.getD_eq_getElem?_getD, List.getElem?_eq_getElem h]
theorem numsS_byte (s : ByteArray) : ∀ z ∈ numsS s, Byte z := by
  intro z hz
  simp only [numsS, List.mem_map] at hz
  obtain ⟨c, -, rfl⟩ := hz
  have := c.toNat_lt
  constructor <;> omega
/-- A part of a text. -/
theorem Txt.part {w : World} {b : Nat} {B : List Int} (h : Txt w b B) (a C : Nat) (ha : a ≤ B.length) (hC : B.length ≤ C) (m : Nat) (hm : a + m ≤ B.length) : Lib.BytesIn w (subA (some ⟨b, 0, none⟩) a C 1) m ((B.drop a).take m) := by
  intro h0
  refine ⟨b, a, ?_, fun i hi => ?_⟩
  · unfold subA
    rw [if_neg (by omega)]
    simp [Addr.add] <;> omega
  · rw [h.cell (a + i) (by omega), List.getD_eq_getElem?_getD, List.getElem?_take, if_pos hi, List.getElem?_drop]
theorem bytes_next {w w' : World} {p : Option Addr} {n : Nat} {xs : List Int} (h : Lib.BytesIn w p n xs) (hb : Below w.heap.size w w') : Lib.BytesIn w' p n xs := by
  intro h0
  obtain ⟨b, o, hp, hc⟩ := h h0
  refine ⟨b, o, hp, fun i hi => ?_⟩
  have := hc i hi
  exact (hb.cell (p := ⟨b, o + i, none⟩) (Lib.lt_of_cell this)).trans this
theorem below_bytes (w : World) (e : TypeId) (s : ByteArray) : Below w.heap.size w (Lib.bytesWorld w e s) := by
  refine ⟨rfl, rfl, rfl, by rw [Lib.bytesWorld_size]; omega, fun k hk => Lib.bytesWorld_at_old w e s k hk⟩
set_option maxHeartbeats 2000000 in
theorem begins17 {w : World} {p : Option Addr} {n c : Nat} {xs : List Int} (hx : xs.length = n) (hc : n ≤ c) (hX : Lib.BytesIn w p n xs) (s : ByteArray) :
    Calls Tryd.prog 17 #[.slice p n c, .string s] w fun e w' => e = .returned (.bool (Lib.hasPrefix (Lib.bytesOf xs) s.data.toList)) ∧ Below w.heap.size w w' := by
  have cv := Lib.run_convert_string_bytes (P := Tryd.prog) w 9 40 5 s Tryd.underlying9 Tryd.underlying40 Tryd.underlying5
  obtain ⟨g, hg⟩ : ∃ g, grownCap w s.size 0 5 = g := ⟨_, rfl⟩
  obtain ⟨W1, hW⟩ : ∃ W1, Lib.bytesWorld w 5 s = W1 := ⟨_, rfl⟩
  rw [hg, hW] at cv
  have hb : Below w.heap.size w W1 := hW ▸ below_bytes w 5 s
  have hX1 : Lib.BytesIn W1 p n xs := bytes_next hX hb
  have hY : Lib.BytesIn W1 (some ⟨w.heap.size, 0, none⟩) s.size (numsS s) := by
    refine fun _ => ⟨w.heap.size, 0, rfl, fun i hi => ?_⟩
    have e : (numsS s).getD i 0 = ((s.data.toList.getD i 0).toNat : Int) := by rw [List.getD_eq_getElem?_getD]; exact numsS_at s i hi
    rw [← hW, Nat.zero_add, Lib.bytesWorld_cell w 5 s i hi, e]
  have C := Any.bytes_HasPrefix_all Tryd.laysnb116 p (some ⟨w.heap.size, 0, none⟩) n c s.size g xs (numsS s) W1 hx (numsS_len s) hc hX1 hY
  rw [numsS_bytes] at C
  have HC := hide C
  have HB := hide hb
  clear C hX hX1 hY hb hW hg
  go_enter Tryd.func17, Tryd.ntmps17
  go_wp2_with fail
  refine HC.out.mono ?_
  rintro e w1 ⟨rfl, hw⟩
  have hw' := hw.symm
  subst hw'
  go_wp2
  go_ret
  exact ⟨rfl, HB.out⟩
/-- In the words of lists of numbers. -/
theorem bytes_inj {xs ys : List Int} (hx : ∀ z ∈ xs, Byte z) (hy : ∀ z ∈ ys, Byte z) (h : Lib.bytesOf xs = Lib.bytesOf ys) : xs = ys := by
  induction xs generalizing ys with
  | nil =>
    cases ys with
    | nil => rfl
    | cons y r => simp [Lib.bytesOf] at h
  | cons x t ih =>
    cases ys with
    | nil => simp [Lib.bytesOf] at h
    | cons y r =>
      simp only [Lib.bytesOf, List.map_cons, List.cons.injEq] at h
      have hxb := hx x (by simp)
      have hyb := hy y (by simp)
      have e : x = y := by
        have h1 := congrArg UInt8.toNat h.1
        rw [UInt8.toNat_ofNat', UInt8.toNat_ofNat'] at h1
        unfold Byte at hxb hyb
        omega
      rw [e, ih (fun z hz => hx z (by simp [hz])) (fun z hz => hy z (by simp [hz])) h.2]
theorem hasPrefix_hasP {xs ys : List Int} (hx : ∀ z ∈ xs, Byte z) (hy : ∀ z ∈ ys, Byte z) : Lib.hasPrefix (Lib.bytesOf xs) (Lib.bytesOf ys) = hasP xs ys := by
  rw [Bool.eq_iff_iff, hasP_iff]
  unfold Lib.hasPrefix
  rw [List.isPrefixOf_iff_prefix]
  constructor
  · rintro ⟨r, hr⟩
    have hlen : ys.length ≤ xs.length := by
      have := congrArg List.length hr
      simp [Lib.bytesOf] at this
      omega
    refine ⟨xs.drop ys.length, ?_⟩
    have h1 : Lib.bytesOf (xs.take ys.length) = Lib.bytesOf ys := by
      have := congrArg (List.take ys.length) hr
      unfold Lib.bytesOf at this ⊢
      rw [List.take_append_of_le_length (by simp), List.take_of_length_le (by simp), ← List.map_take] at this
      exact this.symm
    have h2 := bytes_inj (fun z hz => hx z (List.mem_of_mem_take hz)) hy h1
    conv => lhs; rw [← List.take_append_drop ys.length xs]
    rw [h2]
  · rintro ⟨r, rfl⟩
    exact ⟨Lib.bytesOf r, by simp [Lib.bytesOf]⟩
/-- Does the text go on so at a place? -/
theorem begins_at {w : World} {b C L : Nat} {B : List Int} (hT : Txt w b B) (hL : B.length = L) (hC : L ≤ C) (a : Nat) (ha : a ≤ L) (s : ByteArray) :
    Calls Tryd.prog 17 #[.slice (subA (some ⟨b, 0, none⟩) a C 1) (L - a) (C - a), .string s] w fun e w' => e = .returned (.bool (hasP (B.drop a) (numsS s))) ∧ Below w.heap.size w w' := by
  have hd : ((B.drop a).take (L - a)) = B.drop a := List.take_of_length_le (by rw [List.length_drop]; omega)
  have hX := hT.part a C (by omega) (by omega) (L - a) (by omega)
  rw [hd] at hX
  have := begins17 (c := C - a) (by rw [List.length_drop]; omega) (by omega) hX s
  rw [← numsS_bytes, hasPrefix_hasP (fun z hz => hT.byte z (List.mem_of_mem_drop hz)) (numsS_byte s)] at this
  exact this
/-- What is left behind the sign of a number below 0, and what the walk asks of it. -/
theorem trim_form {b C L : Nat} {B : List Int} (hB : ∀ z ∈ B, Byte z) (hL : B.length = L) (hC : L ≤ C) (a : Nat) (ha : a ≤ L) :
    ∃ q m d, Lib.trimPrefixV (subA (some ⟨b, 0, none⟩) a C 1) (L - a) (C - a) (B.drop a) minL = .slice q m d ∧ m ≤ 140737488355328 + L ∧ ((m = 0 ∧ numB (B.drop a) = false) ∨ (0 < m ∧ ∃ k, q = some ⟨b, k, none⟩ ∧ k < L ∧ numB (B.drop a) = dgB (B[k]?.getD 0))) := by
  obtain ⟨o, ho, ho'⟩ : ∃ o, subA (some ⟨b, 0, none⟩) a C 1 = some ⟨b, o, none⟩ ∧ (a < C → o = a) := by
    unfold subA
    by_cases h : C = a
    · exact ⟨0, by rw [if_pos h], by omega⟩
    · exact ⟨a, by rw [if_neg h]; simp [Addr.add] <;> omega, fun _ => rfl⟩
  rw [ho]
  have e : Lib.trimPrefixV (some ⟨b, o, none⟩) (L - a) (C - a) (B.drop a) minL = Lib.bytesTrimPrefix b o (L - a) (C - a) (B.drop a) minL := rfl
  rw [e, Lib.bytesTrimPrefix, hasPrefix_hasP (fun z hz => hB z (List.mem_of_mem_drop hz)) (by intro z hz; simp [minL] at hz; unfold Byte; omega)]
  unfold numB offM
  cases h : hasP (B.drop a) minL with
  | true =>
    have h2 := hasP_len h
    rw [List.length_drop] at h2
    have h2 : 1 ≤ L - a := by rw [← hL]; exact h2
    simp only [if_true, List.drop_drop]
    refine ⟨_, _, _, rfl, by simp; omega, ?_⟩
    by_cases h3 : a + 1 < L
    · right
      refine ⟨by show 0 < L - a - 1; omega, a + 1, ?_, h3, ?_⟩
      · rw [if_neg (by show ¬ C - a = 1; omega), ho' (by omega)]; rfl
      · rw [drop_cons (by omega)]
    · left
      refine ⟨by show L - a - 1 = 0; omega, ?_⟩
      rw [List.drop_eq_nil_of_le (by omega)]
  | false =>
    simp only [Bool.false_eq_true, if_false, List.drop_zero]
    refine ⟨_, _, _, rfl, by omega, ?_⟩
    by_cases h3 : a < L
    · right
      refine ⟨by omega, a, by rw [ho' (by omega)], h3, ?_⟩
      rw [drop_cons (by omega)]
    · left
      refine ⟨by omega, ?_⟩
      rw [List.drop_eq_nil_of_le (by omega)]
set_option maxHeartbeats 4000000 in
theorem number22 {w : World} {b C L : Nat} {B : List Int} (hT : Txt w b B) (hL : B.length = L) (hC : L ≤ C) (a : Nat) (ha : a ≤ L) :
    Calls Tryd.prog 22 #[.slice (subA (some ⟨b, 0, none⟩) a C 1) (L - a) (C - a)] w fun e w' => e = .returned (.bool (numB (B.drop a))) ∧ Below w.heap.size w w' := by
  have hd : ((B.drop a).take (L - a)) = B.drop a := List.take_of_length_le (by rw [List.length_drop]; omega)
  have hX := hT.part a C (by omega) (by omega) (L - a) (by omega)
  rw [hd] at hX
  have cv := Lib.run_convert_bytes_const (P := Tryd.prog) w 40 5 #[.int .u8 95] 1 1 Tryd.underlying40 Tryd.underlying5
  obtain ⟨W1, hW⟩ : ∃ W1, w.alloc (.cells #[.int .u8 95] 5 (1, 2)) = W1 := ⟨_, rfl⟩
  have hW' : w.alloc (.cells #[.int .u8 95] 5 ((#[Value.int .u8 95] : Array Value).size, (#[Value.int .u8 95] : Array Value).size + 1)) = W1 := hW
  rw [hW'] at cv
  have hb : Below w.heap.size w W1 := by rw [← hW]; exact (Below.refl _ _).alloc (Nat.le_refl _) _
  have hY : Lib.BytesIn W1 (some ⟨w.heap.size, 0, none⟩) 1 minL := by
    refine fun _ => ⟨w.heap.size, 0, rfl, fun i hi => ?_⟩
    rw [← hW]
    obtain rfl : i = 0 := by omega
    simp [World.cell?, World.alloc, minL, -World.alloc_eq]
  have C1 := Any.bytes_TrimPrefix_all Tryd.laysnb139 (subA (some ⟨b, 0, none⟩) a C 1) (some ⟨w.heap.size, 0, none⟩) (L - a) (C - a) 1 1 (B.drop a) minL W1 (by rw [List.length_drop]; omega) rfl (by omega) (bytes_next hX hb) hY
  obtain ⟨q, m, d, hq, hm, hcase⟩ := trim_form (b := b) hT.byte hL hC a ha
  rw [hq] at C1
  have hlen := hT.len
  rw [hL] at hlen
  have HC := hide C1
  have HB := hide hb
  have HT := hide (hT.next hb)
  have HL := hide hL
  clear C1 hX hY hb hW hW' hd hq hT hL hC
  generalize subA (some ⟨b, 0, none⟩) a C 1 = P0 at *
  generalize L - a = N0 at *
  generalize C - a = C0 at *
  rcases hcase with ⟨rfl, hn⟩ | ⟨hm0, k, rfl, hk, hn⟩
  · rw [hn]
    go_enter Tryd.func22, Tryd.ntmps22
    go_wp2_with fail
    refine HC.out.mono ?_
    rintro e w1 ⟨rfl, hw⟩
    have hw' := hw.symm
    subst hw'
    clear HC
    go_wp2
    go_ret
    exact ⟨rfl, by first | exact HB.out | exact HB.out.drew | exact drewN_below HB.out _⟩
  · rw [hn]
    have hcell := HT.out.cell k (by rw [HL.out]; exact hk)
    clear hn
    generalize B[k]?.getD 0 = c at *
    have HDG := hide (fun W => digit32 c W)
    generalize dgB c = dg at *
    go_enter Tryd.func22, Tryd.ntmps22
    go_wp2_with fail
    refine HC.out.mono ?_
    rintro e w1 ⟨rfl, hw⟩
    have hw' := hw.symm
    subst hw'
    clear HC HT HL
    go_wp2_with fail
    refine (HDG.out _).mono ?_
    rintro e w2 ⟨rfl, hw2⟩
    have hw3 := hw2.symm
    subst hw3
    go_wp2
    go_ret
    exact ⟨rfl, by first | exact HB.out | exact HB.out.drew | exact drewN_below HB.out _⟩
end Go.Proofs.YtnndnjffnkhpdaaDoor
