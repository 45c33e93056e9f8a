/-
  The library's contracts at this dump in plain words (small, numDigits, formatBase10, FormatInt at base 10): laid by the shelf's commands.
  The plain mathematics of layer 3's shapes: how many cells a shape has, which cell stands at places, where a cell stands; no program is named.
  A slice of integers as a row of numbers; the contracts of layer 3's Size and of the document's: how many cells a shape has, for all shapes.
  Arrays as plain data, how they lie in memory, and their order: the plain mathematics of it; no program is named.
  The contracts of layer 3's Cmp and Cell, one in the other; for all arrays and cells.
  The contract of the document's Cmp and Same; for all arrays.
  The library's FormatUint at base 10: a number's digits; a number as a text, the program's way and the document's; for all numbers.
  A writer in a block: its text is a builder of its own; what a call that writes keeps; the contracts of the builder's copyCheck and WriteString there; for all writers.
  Pieces and words behind what a writer has written: the contracts of glue and put; for all words.
  What a writer has written, as a string: the contract of the builder's String in a writer's block; for all writers.
  The contracts of what layer 3's Check and the document's rest on: whether there is a sign of a number, and whether a cell may be; for all numbers and cells.
  The contracts of layer 3's Atom, Nums and Text: numbers and signs as arrays, in memory of their own; the numbers not more than a machine holds.
  Memory that a call made and that may be written: no cell from the old memory's end on is frozen, and none of the old ones turned in that; kept by every step.
  Signs and their bytes as plain mathematics: a good number's bytes can be read in one way, and bytes are parted into signs in one way; no condition.
  Contracts of the small functions of layer 2 and of its document's answer: whether there is a sign of a number, how many bytes it has, a group of six bits, what a first byte says; for all inputs.
  The contract of layer 3's Cmp and Same; for all arrays.
  The contracts of the document's look at a cell, and of layer 3's Check and the document's; for all arrays.
  The contract of the statements' own look whether an array is not more than is waited for: what is light is thin: no more than so many boxes within one another; for all arrays.
  Programs as plain data, how they lie in memory: kind, number, name, literal, parts, place; sums, greatest and 'any' over parts; no program is named.
  The document's look at a node by itself: bare, prim; the program's: parts, isZero, isBare; a node boxed in memory; for all nodes.
  What the bit operations of layer 2 come to on bytes and small numbers, and what the bytes of a sign say of it; no condition.
  The contract of One of layer 2: for all bytes it tells the sign with which they begin and how many bytes it has, or 0 and 0 where there is none.
-/
import Derived.Test.YtneblkdkhlgmcaaGreatDoorRows
import Derived.Test.YtneblkdkhlgmcaaGreatDoorCards
import Derived.Test.YtneblkdkhlgmcaaGreatDoorTie
import Derived.Shelf.Strconv.Itoa4
import Derived.Test.YtneblkdkhlgmcaaGreatDoorProg
import Derived.WalkKit
import Derived.Test.YtneblkdkhlgmcaaGreatDoorChecked
import GoSem.Claim
import GoSem.ClaimJoined
import GoSem.ClaimMapViews
import Derived.JoinedTies
import Derived.KernelRfl
import Derived.ProofKit
import Derived.Below
import Derived.Deep.OwnRows
import Derived.Deep.QuietTactic
import Derived.BigQuiet
import Derived.Deep.RegionWith
import Derived.Lib.AppendIntMem
import Derived.Lib.ConvBytes
import Derived.Lib.Builder
import Derived.Lib.AppendStr
import Derived.Lib.UnsafeStr
import Derived.Deep.LoopGhost
import Derived.Deep.RegionHeld3
import Derived.Lib.MakeNoZero
import Derived.Laws.MakeOwn
import Derived.Laws.BitsAllLaws
import Derived.Lib.Bits
import Derived.Deep.Cut
import Derived.Deep.MidRow
import Derived.Deep.RegionLaw
import GoSem.ClaimSeven
import Derived.LaidByTextLater
import Derived.SevenTiedAt
import Derived.LaidSub
import Derived.LaidOnce
import Derived.Deep.DeepHandedRow
import Derived.Lib.LaidTab
import Derived.OpenShut
import Derived.Lay
import Derived.ChangeOld
import Derived.SizedLaws
import Derived.Deep.Slices
import Derived.Deep.Strs
namespace Go.Proofs
open Go.Shelf
def Tryz.lays283_ren : Go.Shelf.Ren := ⟨fun | 283 => 100 | n => n, fun | 3 => 3 | 9 => 9 | 4 => 4 | n => n, fun | n => n⟩
theorem Tryz.lays283 : Go.Proofs.Lays.n283 Tryz.prog Tryz.lays283_ren := {
  mixed := by kernel_rfl
  f283 := Tryz.func100.trans (congrArg some (by kernel_rfl))
  t3 := Tryz.underlying3
  a3 := Tryz.isAgg3
  z3 := Tryz.sizeOf3
  v3 := Tryz.zeroValue3
  t4 := Tryz.underlying4
  a4 := Tryz.isAgg4
  z4 := Tryz.sizeOf4
  v4 := Tryz.zeroValue4
  t9 := Tryz.underlying9
  a9 := Tryz.isAgg9
  z9 := Tryz.sizeOf9
  v9 := Tryz.zeroValue9 }
open Go.Lib in
/-- internal/strconv.small: "small returns the string for an i with 0 <= i < nSmalls.": i's decimal numeral. The world is as it was. (LAID: no walk: one application.) -/
theorem Tryz.internal_strconv_small (i : Nat) (h : i < 100) (w : World) :
    Calls Tryz.prog 100 #[.int .i64 i] w fun e w' => e = .returned (.string ⟨(Lib.decDigits i).toArray⟩) ∧ w' = w := Any.internal_strconv_small Tryz.lays283 i h w
def Tryz.laysM284_ren : Go.Shelf.Ren := ⟨fun | 284 => 101 | 129 => 126 | 317 => 125 | 318 => 127 | n => n, fun | 53 => 86 | 3 => 3 | 212 => 159 | 0 => 0 | 4 => 4 | 46 => 163 | 5 => 5 | 9 => 9 | n => n, fun | 17 => 0 | n => n⟩
theorem Tryz.laysM284 : Go.Proofs.LaysM.n284 Tryz.prog Tryz.laysM284_ren := {
  mixed := by kernel_rfl
  f129 := Tryz.func126.trans (congrArg some (by kernel_rfl))
  f284 := Tryz.func101.trans (congrArg some (by kernel_rfl))
  f317 := Tryz.func125.trans (congrArg some (by kernel_rfl))
  f318 := Tryz.func127.trans (congrArg some (by kernel_rfl))
  t0 := Tryz.underlying0
  a0 := Tryz.isAgg0
  z0 := Tryz.sizeOf0
  v0 := Tryz.zeroValue0
  t3 := Tryz.underlying3
  a3 := Tryz.isAgg3
  z3 := Tryz.sizeOf3
  v3 := Tryz.zeroValue3
  t4 := Tryz.underlying4
  a4 := Tryz.isAgg4
  z4 := Tryz.sizeOf4
  v4 := Tryz.zeroValue4
  t5 := Tryz.underlying5
  a5 := Tryz.isAgg5
  z5 := Tryz.sizeOf5
  v5 := Tryz.zeroValue5
  t9 := Tryz.underlying9
  a9 := Tryz.isAgg9
  z9 := Tryz.sizeOf9
  v9 := Tryz.zeroValue9
  t46 := Tryz.underlying163
  a46 := Tryz.isAgg163
  z46 := Tryz.sizeOf163
  v46 := Tryz.zeroValue163
  t53 := Tryz.underlying86
  a53 := Tryz.isAgg86
  z53 := Tryz.sizeOf86
  v53 := Tryz.zeroValue86
  t212 := Tryz.underlying159
  a212 := Tryz.isAgg159
  z212 := Tryz.sizeOf159
  v212 := Tryz.zeroValue159
  g17 := by kernel_rfl
  i0 := by kernel_rfl
  i3 := by kernel_rfl
  i4 := by kernel_rfl
  i5 := by kernel_rfl
  i9 := by kernel_rfl
  i46 := by kernel_rfl
  i53 := by kernel_rfl
  i212 := by kernel_rfl
  m17 := by kernel_rfl }
open Go.Lib in
/-- internal/strconv.numDigits, at a d that is not 0: THE NUMBER OF d's DECIMAL DIGITS. The world is as it was. (LAID: no walk: one application.) -/
theorem Tryz.internal_strconv_numDigits (u : Nat) (h1 : 1 ≤ u) (h2 : u < 18446744073709551616) (w : World) (htab : Lib.TabIs Tryz.prog w "internal/strconv.uint64pow10" .u64 Lib.pow10Tab) :
    Calls Tryz.prog 101 #[.int .u64 u] w fun e w' => e = .returned (.int .i64 (Lib.nDigits u)) ∧ w' = w := Any.internal_strconv_numDigits Tryz.laysM284 u h1 h2 w htab
def Tryz.lays285_ren : Go.Shelf.Ren := ⟨fun | 285 => 102 | n => n, fun | 37 => 65 | 53 => 86 | 3 => 3 | 4 => 4 | 51 => 160 | 9 => 9 | 5 => 5 | 0 => 0 | n => n, fun | n => n⟩
theorem Tryz.lays285 : Go.Proofs.Lays.n285 Tryz.prog Tryz.lays285_ren := {
  mixed := by kernel_rfl
  f285 := Tryz.func102.trans (congrArg some (by kernel_rfl))
  t0 := Tryz.underlying0
  a0 := Tryz.isAgg0
  z0 := Tryz.sizeOf0
  v0 := Tryz.zeroValue0
  t3 := Tryz.underlying3
  a3 := Tryz.isAgg3
  z3 := Tryz.sizeOf3
  v3 := Tryz.zeroValue3
  t4 := Tryz.underlying4
  a4 := Tryz.isAgg4
  z4 := Tryz.sizeOf4
  v4 := Tryz.zeroValue4
  t5 := Tryz.underlying5
  a5 := Tryz.isAgg5
  z5 := Tryz.sizeOf5
  v5 := Tryz.zeroValue5
  t9 := Tryz.underlying9
  a9 := Tryz.isAgg9
  z9 := Tryz.sizeOf9
  v9 := Tryz.zeroValue9
  t37 := Tryz.underlying65
  a37 := Tryz.isAgg65
  z37 := Tryz.sizeOf65
  v37 := Tryz.zeroValue65
  t51 := Tryz.underlying160
  a51 := Tryz.isAgg160
  z51 := Tryz.sizeOf160
  v51 := Tryz.zeroValue160
  t53 := Tryz.underlying86
  a53 := Tryz.isAgg86
  z53 := Tryz.sizeOf86
  v53 := Tryz.zeroValue86 }
open Go.RowKit Go.Sort Go.Lib in
/-- internal/strconv.formatBase10: "formatBase10 formats the decimal representation of u into a. The caller is responsible for ensuring that a is big enough to hold u. If a is too big, leading zeros will be filled in as needed.": THE ROW HOLDS u's DIGITS ('FmtInv .. 0 ..': every place t holds 'dg u (len - 1 - t)'); all else is as it was but for the count of draws. (LAID: no walk: one application.) -/
theorem Tryz.internal_strconv_formatBase10 (blk off cap : Nat) (u : Nat) (d : Array UInt8) (w : World) (hH : Holds (fun (b : UInt8) => Value.int .u8 (b.toNat : Int)) w blk off d) (hu : u < 10 ^ d.size) (hu64 : u < 18446744073709551616) (hsz : d.size < 4611686018427387904) :
    Calls Tryz.prog 102 #[.slice (some ⟨blk, off, none⟩) d.size cap, .int .u64 u] w fun e w' =>
      e = .returned (.tuple #[]) ∧ ∃ (n v' : Nat) (dk : Array UInt8), w' = (putRow (fun (b : UInt8) => Value.int .u8 (b.toNat : Int)) w blk off dk).drewN n ∧ FmtInv d.size u 0 v' dk := Any.internal_strconv_formatBase10 Tryz.lays285 blk off cap u d w hH hu hu64 hsz
def Tryz.laysM173_ren : Go.Shelf.Ren := ⟨fun | 173 => 37 | 246 => 67 | 283 => 100 | 284 => 101 | 285 => 102 | 286 => 103 | 129 => 126 | 317 => 125 | 318 => 127 | 319 => 128 | 320 => 129 | 337 => 137 | 338 => 138 | n => n, fun | 2 => 2 | 3 => 3 | 9 => 9 | 4 => 4 | 171 => 134 | 0 => 0 | 53 => 86 | 37 => 65 | 5 => 5 | 173 => 137 | 212 => 159 | 51 => 160 | 20 => 20 | 213 => 161 | 46 => 163 | 232 => 173 | 233 => 174 | n => n, fun | 17 => 0 | 18 => 2 | 19 => 3 | n => n⟩
theorem Tryz.laysM173 : Go.Proofs.LaysM.n173 Tryz.prog Tryz.laysM173_ren := {
  mixed := by kernel_rfl
  f129 := Tryz.func126.trans (congrArg some (by kernel_rfl))
  f173 := Tryz.func37.trans (congrArg some (by kernel_rfl))
  f246 := Tryz.func67.trans (congrArg some (by kernel_rfl))
  f283 := Tryz.func100.trans (congrArg some (by kernel_rfl))
  f284 := Tryz.func101.trans (congrArg some (by kernel_rfl))
  f285 := Tryz.func102.trans (congrArg some (by kernel_rfl))
  f286 := Tryz.func103.trans (congrArg some (by kernel_rfl))
  f317 := Tryz.func125.trans (congrArg some (by kernel_rfl))
  f318 := Tryz.func127.trans (congrArg some (by kernel_rfl))
  f319 := Tryz.func128.trans (congrArg some (by kernel_rfl))
  f320 := Tryz.func129.trans (congrArg some (by kernel_rfl))
  f337 := Tryz.func137.trans (congrArg some (by kernel_rfl))
  f338 := Tryz.func138.trans (congrArg some (by kernel_rfl))
  t0 := Tryz.underlying0
  a0 := Tryz.isAgg0
  z0 := Tryz.sizeOf0
  v0 := Tryz.zeroValue0
  t2 := Tryz.underlying2
  a2 := Tryz.isAgg2
  z2 := Tryz.sizeOf2
  v2 := Tryz.zeroValue2
  t3 := Tryz.underlying3
  a3 := Tryz.isAgg3
  z3 := Tryz.sizeOf3
  v3 := Tryz.zeroValue3
  t4 := Tryz.underlying4
  a4 := Tryz.isAgg4
  z4 := Tryz.sizeOf4
  v4 := Tryz.zeroValue4
  t5 := Tryz.underlying5
  a5 := Tryz.isAgg5
  z5 := Tryz.sizeOf5
  v5 := Tryz.zeroValue5
  t9 := Tryz.underlying9
  a9 := Tryz.isAgg9
  z9 := Tryz.sizeOf9
  v9 := Tryz.zeroValue9
  t20 := Tryz.underlying20
  a20 := Tryz.isAgg20
  z20 := Tryz.sizeOf20
  v20 := Tryz.zeroValue20
  t37 := Tryz.underlying65
  a37 := Tryz.isAgg65
  z37 := Tryz.sizeOf65
  v37 := Tryz.zeroValue65
  t46 := Tryz.underlying163
  a46 := Tryz.isAgg163
  z46 := Tryz.sizeOf163
  v46 := Tryz.zeroValue163
  t51 := Tryz.underlying160
  a51 := Tryz.isAgg160
  z51 := Tryz.sizeOf160
  v51 := Tryz.zeroValue160
  t53 := Tryz.underlying86
  a53 := Tryz.isAgg86
  z53 := Tryz.sizeOf86
  v53 := Tryz.zeroValue86
  t171 := Tryz.underlying134
  a171 := Tryz.isAgg134
  z171 := Tryz.sizeOf134
  v171 := Tryz.zeroValue134
  t173 := Tryz.underlying137
  a173 := Tryz.isAgg137
  z173 := Tryz.sizeOf137
  v173 := Tryz.zeroValue137
  t212 := Tryz.underlying159
  a212 := Tryz.isAgg159
  z212 := Tryz.sizeOf159
  v212 := Tryz.zeroValue159
  t213 := Tryz.underlying161
  a213 := Tryz.isAgg161
  z213 := Tryz.sizeOf161
  t232 := Tryz.underlying173
  a232 := Tryz.isAgg173
  z232 := Tryz.sizeOf173
  v232 := Tryz.zeroValue173
  t233 := Tryz.underlying174
  a233 := Tryz.isAgg174
  z233 := Tryz.sizeOf174
  v233 := Tryz.zeroValue174
  g17 := by kernel_rfl
  g18 := by kernel_rfl
  g19 := by kernel_rfl
  i0 := by kernel_rfl
  i2 := by kernel_rfl
  i3 := by kernel_rfl
  i4 := by kernel_rfl
  i5 := by kernel_rfl
  i9 := by kernel_rfl
  i20 := by kernel_rfl
  i37 := by kernel_rfl
  i46 := by kernel_rfl
  i51 := by kernel_rfl
  i53 := by kernel_rfl
  i171 := by kernel_rfl
  i173 := by kernel_rfl
  i212 := by kernel_rfl
  i232 := by kernel_rfl
  i233 := by kernel_rfl
  m17 := by kernel_rfl
  m18 := by kernel_rfl
  m19 := by kernel_rfl }
open Go.RowKit Go.Sort Go.Lib in
/-- strconv.FormatInt: "FormatInt returns the string representation of i in the given base": AT BASE 10: i's decimal numeral, for every int64. (LAID: no walk: one application.) -/
theorem Tryz.strconv_FormatInt_10 (n : Int) (h0 : -9223372036854775808 ≤ n) (h1 : n ≤ 9223372036854775807) (w : World) (htab : Lib.TabIs Tryz.prog w "internal/strconv.uint64pow10" .u64 Lib.pow10Tab) :
    Calls Tryz.prog 37 #[.int .i64 n, .int .i64 10] w fun e w' => e = .returned (.string ⟨(Lib.itoa n).toArray⟩) ∧ ∃ k os, w' = grow (w.drewN k) os := Any.strconv_FormatInt_10 Tryz.laysM173 n h0 h1 w htab
end Go.Proofs
namespace Go.Proofs.YtneblkdkhlgmcaaGreatDoor
def prodL : List Int → Int
  | [] => 1
  | z :: r => z * prodL r
theorem prodL_append (l m : List Int) : prodL (l ++ m) = prodL l * prodL m := by
  induction l with
  | nil => simp [prodL]
  | cons x l ih => simp [prodL, ih, Int.mul_assoc]
theorem prodL_pos {l : List Int} (h : ∀ z ∈ l, 0 < z) : 1 ≤ prodL l := by
  induction l with
  | nil => simp [prodL]
  | cons x l ih =>
    have h1 := ih fun z hz => h z (List.mem_cons_of_mem _ hz)
    have h2 := h x List.mem_cons_self
    have := Int.mul_le_mul (a := 1) (b := 1) (c := x) (d := prodL l) (by omega) h1 (by omega) (by omega)
    simpa [prodL] using this
theorem prodL_take_le {l : List Int} (h : ∀ z ∈ l, 0 < z) (k : Nat) : prodL (l.take k) ≤ prodL l := by
  have e := prodL_append (l.take k) (l.drop k)
  rw [List.take_append_drop] at e
  have h1 := prodL_pos (l := l.take k) fun z hz => h z (List.mem_of_mem_take hz)
  have h2 := prodL_pos (l := l.drop k) fun z hz => h z (List.mem_of_mem_drop hz)
  have := Int.mul_le_mul (a := prodL (l.take k)) (b := 1) (c := prodL (l.take k)) (d := prodL (l.drop k)) (by omega) h2 (by omega) (by omega)
  omega
theorem prodL_take_succ (l : List Int) (k : Nat) (h : k < l.length) : prodL (l.take (k + 1)) = prodL (l.take k) * l[k]?.getD 0 := by
  rw [List.take_succ_eq_append_getElem h, prodL_append]
  simp [prodL, h]
def hasNeg (l : List Int) : Prop := ∃ z ∈ l, z < 0
def hasZero (l : List Int) : Prop := ∃ z ∈ l, z = 0
instance (l : List Int) : Decidable (hasNeg l) := inferInstanceAs (Decidable (∃ z ∈ l, z < 0))
instance (l : List Int) : Decidable (hasZero l) := inferInstanceAs (Decidable (∃ z ∈ l, z = 0))
/-- Size's answer: how many, and the error. -/
def sizeV (l : List Int) : Int := if 8 < l.length ∨ hasNeg l ∨ hasZero l ∨ 16384 < prodL l then 0 else prodL l
def sizeE (l : List Int) : Int := if 8 < l.length then 6 else if hasNeg l then 1 else if hasZero l then 0 else if 16384 < prodL l then 12 else 0
theorem all_pos {l : List Int} (h1 : ¬ hasNeg l) (h2 : ¬ hasZero l) : ∀ z ∈ l, 0 < z := by
  intro z hz
  have a : ¬ z < 0 := fun h => h1 ⟨z, hz, h⟩
  have b : ¬ z = 0 := fun h => h2 ⟨z, hz, h⟩
  omega
theorem size_long {l : List Int} (h : 8 < l.length) : sizeV l = 0 ∧ sizeE l = 6 := by simp [sizeV, sizeE, h]
theorem size_neg {l : List Int} (h : ¬ 8 < l.length) (h1 : hasNeg l) : sizeV l = 0 ∧ sizeE l = 1 := by simp [sizeV, sizeE, h, h1]
theorem size_zero {l : List Int} (h : ¬ 8 < l.length) (h1 : ¬ hasNeg l) (h2 : hasZero l) : sizeV l = 0 ∧ sizeE l = 0 := by simp [sizeV, sizeE, h, h1, h2]
theorem size_many {l : List Int} (h : ¬ 8 < l.length) (h1 : ¬ hasNeg l) (h2 : ¬ hasZero l) (h3 : 16384 < prodL l) : sizeV l = 0 ∧ sizeE l = 12 := by simp [sizeV, sizeE, h, h1, h2, h3]
theorem size_ok {l : List Int} (h : ¬ 8 < l.length) (h1 : ¬ hasNeg l) (h2 : ¬ hasZero l) (h3 : ¬ 16384 < prodL l) : sizeV l = prodL l ∧ sizeE l = 0 := by simp [sizeV, sizeE, h, h1, h2, h3]
/-- The least, and the greatest, of 1 and the numbers. -/
def leastL (l : List Int) : Int := l.foldl min 1
def mostL (l : List Int) : Int := l.foldl max 1
theorem foldl_snoc {α β : Type} (f : β → α → β) (a : β) (l : List α) (k : Nat) (h : k < l.length) : (l.take (k + 1)).foldl f a = f ((l.take k).foldl f a) l[k] := by
  rw [List.take_succ_eq_append_getElem h, List.foldl_append]; rfl
theorem least_le (l : List Int) (a : Int) : l.foldl min a ≤ a ∧ ∀ z ∈ l, l.foldl min a ≤ z := by
  induction l generalizing a with
  | nil => simp
  | cons x l ih =>
    obtain ⟨h1, h2⟩ := ih (min a x)
    simp only [List.foldl_cons]
    refine ⟨by omega, fun z hz => ?_⟩
    rcases List.mem_cons.1 hz with rfl | hz
    · omega
    · exact h2 z hz
theorem least_is (l : List Int) (a : Int) : l.foldl min a = a ∨ l.foldl min a ∈ l := by
  induction l generalizing a with
  | nil => simp
  | cons x l ih =>
    simp only [List.foldl_cons]
    rcases ih (min a x) with h | h
    · rw [h]
      by_cases hx : a ≤ x
      · left; omega
      · right; have : min a x = x := by omega
        rw [this]; exact List.mem_cons_self
    · right; exact List.mem_cons_of_mem _ h
theorem most_le (l : List Int) (a : Int) : a ≤ l.foldl max a ∧ ∀ z ∈ l, z ≤ l.foldl max a := by
  induction l generalizing a with
  | nil => simp
  | cons x l ih =>
    obtain ⟨h1, h2⟩ := ih (max a x)
    simp only [List.foldl_cons]
    refine ⟨by omega, fun z hz => ?_⟩
    rcases List.mem_cons.1 hz with rfl | hz
    · omega
    · exact h2 z hz
theorem most_is (l : List Int) (a : Int) : l.foldl max a = a ∨ l.foldl max a ∈ l := by
  induction l generalizing a with
  | nil => simp
  | cons x l ih =>
    simp only [List.foldl_cons]
    rcases ih (max a x) with h | h
    · rw [h]
      by_cases hx : x ≤ a
      · left; omega
      · right; have : max a x = x := by omega
        rw [this]; exact List.mem_cons_self
    · right; exact List.mem_cons_of_mem _ h
theorem least_neg {l : List Int} : leastL l < 0 ↔ hasNeg l := by
  constructor
  · intro h
    rcases least_is l 1 with e | e
    · unfold leastL at h; omega
    · exact ⟨_, e, h⟩
  · rintro ⟨z, hz, h⟩
    have := (least_le l 1).2 z hz
    unfold leastL; omega
theorem least_zero {l : List Int} (hn : ¬ hasNeg l) : leastL l = 0 ↔ hasZero l := by
  constructor
  · intro h
    rcases least_is l 1 with e | e
    · unfold leastL at h; omega
    · exact ⟨_, e, h⟩
  · rintro ⟨z, hz, h⟩
    have h1 := (least_le l 1).2 z hz
    have h2 : ¬ leastL l < 0 := fun h => hn (least_neg.1 h)
    unfold leastL at *; omega
def hasLong (l : List Int) : Prop := ∃ z ∈ l, 16384 < z
instance (l : List Int) : Decidable (hasLong l) := inferInstanceAs (Decidable (∃ z ∈ l, 16384 < z))
theorem most_long {l : List Int} : 16384 < mostL l ↔ hasLong l := by
  constructor
  · intro h
    rcases most_is l 1 with e | e
    · unfold mostL at h; omega
    · exact ⟨_, e, h⟩
  · rintro ⟨z, hz, h⟩
    have := (most_le l 1).2 z hz
    unfold mostL; omega
theorem prod_of_mem {l : List Int} (h : ∀ z ∈ l, 0 < z) {z : Int} (hz : z ∈ l) : z ≤ prodL l := by
  induction l with
  | nil => simp at hz
  | cons x l ih =>
    have h1 := prodL_pos (l := l) fun z hz => h z (List.mem_cons_of_mem _ hz)
    have hx := h x List.mem_cons_self
    rcases List.mem_cons.1 hz with rfl | hz
    · have := Int.mul_le_mul (a := z) (b := 1) (c := z) (d := prodL l) (by omega) h1 (by omega) (by omega)
      simp only [prodL]; omega
    · have h2 := ih (fun z hz => h z (List.mem_cons_of_mem _ hz)) hz
      have := Int.mul_le_mul (a := 1) (b := prodL l) (c := x) (d := prodL l) (by omega) (by omega) (by omega) (by omega)
      simp only [prodL]; omega
theorem long_many {l : List Int} (h : ∀ z ∈ l, 0 < z) (hl : hasLong l) : 16384 < prodL l := by
  obtain ⟨z, hz, hz'⟩ := hl
  have := prod_of_mem h hz
  omega
theorem getD_mem {l : List Int} {k : Nat} (h : k < l.length) : l[k]?.getD 0 ∈ l := by
  simp [h]
theorem mem_getD {l : List Int} {z : Int} (h : z ∈ l) : ∃ k, k < l.length ∧ l[k]?.getD 0 = z := by
  obtain ⟨k, hk, e⟩ := List.getElem_of_mem h
  exact ⟨k, hk, by simp [hk, e]⟩
/-- Which cell stands at places: the last axis fastest. -/
def inAxes : List Int → List Int → Prop
  | s :: ss, a :: ms => (0 ≤ a ∧ a < s) ∧ inAxes ss ms
  | [], [] => True
  | _, _ => False
def place : List Int → List Int → Int
  | _ :: ss, a :: ms => a * prodL ss + place ss ms
  | _, _ => 0
theorem place_bound {l at' : List Int} (h : inAxes l at') : (∀ z ∈ l, 0 < z) ∧ 0 ≤ place l at' ∧ place l at' < prodL l ∧ at'.length = l.length := by
  induction l generalizing at' with
  | nil =>
    cases at' with
    | nil => simp [place, prodL]
    | cons a ms => simp [inAxes] at h
  | cons s ss ih =>
    cases at' with
    | nil => simp [inAxes] at h
    | cons a ms =>
      simp only [inAxes] at h
      obtain ⟨⟨h1, h2⟩, h3⟩ := h
      obtain ⟨i1, i2, i3, i4⟩ := ih h3
      have hp := prodL_pos i1
      have a1 : 0 ≤ a * prodL ss := Int.mul_nonneg h1 (by omega)
      have a2 : (a + 1) * prodL ss ≤ s * prodL ss := Int.mul_le_mul_of_nonneg_right (by omega) (by omega)
      rw [Int.add_mul] at a2
      refine ⟨?_, ?_, ?_, by simp [i4]⟩
      · intro z hz
        rcases List.mem_cons.1 hz with rfl | hz
        · omega
        · exact i1 z hz
      · simp only [place]; omega
      · simp only [place, prodL]; omega
/-- Where a cell stands. -/
def digits : List Int → Int → List Int
  | [], _ => []
  | _ :: ss, n => n / prodL ss :: digits ss (n % prodL ss)
theorem digits_length (l : List Int) (n : Int) : (digits l n).length = l.length := by
  induction l generalizing n with
  | nil => rfl
  | cons s ss ih => simp [digits, ih]
theorem digits_in {l : List Int} (h : ∀ z ∈ l, 0 < z) {n : Int} (h0 : 0 ≤ n) (h1 : n < prodL l) : inAxes l (digits l n) ∧ place l (digits l n) = n := by
  induction l generalizing n with
  | nil => simp [prodL] at h1; simp [digits, inAxes, place]; omega
  | cons s ss ih =>
    have hp := prodL_pos (l := ss) fun z hz => h z (List.mem_cons_of_mem _ hz)
    have m0 := Int.emod_nonneg n (show prodL ss ≠ 0 by omega)
    have m1 := Int.emod_lt_of_pos n (show 0 < prodL ss by omega)
    obtain ⟨i1, i2⟩ := ih (fun z hz => h z (List.mem_cons_of_mem _ hz)) m0 m1
    have d0 : 0 ≤ n / prodL ss := Int.ediv_nonneg h0 (by omega)
    have d1 : n / prodL ss < s := by
      apply Int.ediv_lt_of_lt_mul (by omega)
      simpa [prodL] using h1
    refine ⟨⟨⟨d0, d1⟩, i1⟩, ?_⟩
    simp only [digits, place, i2]
    have := Int.mul_ediv_add_emod n (prodL ss)
    rw [Int.mul_comm] at this
    exact this
theorem digits_place {l at' : List Int} (h : inAxes l at') : digits l (place l at') = at' := by
  induction l generalizing at' with
  | nil =>
    cases at' with
    | nil => rfl
    | cons a ms => simp [inAxes] at h
  | cons s ss ih =>
    cases at' with
    | nil => simp [inAxes] at h
    | cons a ms =>
      simp only [inAxes] at h
      obtain ⟨h1, h3⟩ := h
      obtain ⟨i1, i2, i3, i4⟩ := place_bound h3
      have hp := prodL_pos i1
      have e : a * prodL ss + place ss ms = place ss ms + prodL ss * a := by rw [Int.mul_comm]; omega
      simp only [digits, place]
      rw [e, Int.add_mul_ediv_left _ _ (by omega), Int.ediv_eq_zero_of_lt i2 i3, Int.add_mul_emod_self_left, Int.emod_eq_of_lt i2 i3, ih h3]
      simp
end Go.Proofs.YtneblkdkhlgmcaaGreatDoor
namespace Go.Proofs.YtneblkdkhlgmcaaGreatDoor
open Go.ChangeShapes Go.WideShapes Go.ChangeAt Go.RowKit
set_option maxRecDepth 100000
/-- A slice of integers, as a row of numbers, all of it in blocks from lo on. -/
def Row (lo : Nat) (w : World) (a : Option Addr) (zs : List Int) : Prop :=
  zs.length ≤ 140737488355328 ∧ (zs = [] ∨ ∃ b off, a = some ⟨b, off, none⟩ ∧ lo ≤ b ∧ b < w.heap.size ∧ ∀ i, i < zs.length → w.cell? ⟨b, off + i, none⟩ = some (.int .i64 (zs[i]?.getD 0)))
theorem Row.next {lo : Nat} {w w1 : World} {a : Option Addr} {zs : List Int} (h : Row lo w a zs) (hb : Below w.heap.size w w1) : Row lo w1 a zs := by
  obtain ⟨h2, h3⟩ := h
  refine ⟨h2, ?_⟩
  rcases h3 with h3 | ⟨b, off, ha, hlo, hbb, hc⟩
  · exact Or.inl h3
  · exact Or.inr ⟨b, off, ha, hlo, Nat.lt_of_lt_of_le hbb hb.size, fun i hi => (hb.cell (p := ⟨b, off + i, none⟩) hbb).trans (hc i hi)⟩
theorem Row.low {lo lo' : Nat} {w : World} {a : Option Addr} {zs : List Int} (h : Row lo w a zs) (hl : lo' ≤ lo) : Row lo' w a zs := by
  obtain ⟨h2, h3⟩ := h
  refine ⟨h2, ?_⟩
  rcases h3 with h3 | ⟨b, off, ha, hlo, hbb, hc⟩
  · exact Or.inl h3
  · exact Or.inr ⟨b, off, ha, Nat.le_trans hl hlo, hbb, hc⟩
theorem row_at {lo : Nat} {w : World} {a : Option Addr} {l : List Int} (R : Row lo w a l) {j : Nat} (h : j < l.length) : ∃ b off, a = some ⟨b, off, none⟩ ∧ b < w.heap.size ∧ w.cell? ⟨b, off + j, none⟩ = some (.int .i64 (l[j]?.getD 0)) := by
  rcases R.2 with h0 | ⟨b, off, ha, _, hb, hc⟩
  · subst h0; simp at h
  · exact ⟨b, off, ha, hb, hc j h⟩
theorem retB {a b : Bool} (h : a = b) : Ending.returned (.bool a) = .returned (.bool b) := by rw [h]
theorem retI {k : IntKind} {a b : Int} (h : a = b) : Ending.returned (.int k a) = .returned (.int k b) := by rw [h]
theorem retII {a b c d : Int} (h : a = c ∧ b = d) : Ending.returned (.tuple #[.int .i64 a, .int .i64 b]) = .returned (.tuple #[.int .i64 c, .int .i64 d]) := by rw [h.1, h.2]
theorem min_if (p z : Int) : min p z = if z < p then z else p := by split <;> omega
theorem max_if (q z : Int) : max q z = if q < z then z else q := by split <;> omega
theorem ends_step (l : List Int) (j : Nat) (hlt : j < l.length) : leastL (l.take (j + 1)) = min (leastL (l.take j)) (l[j]?.getD 0) ∧ mostL (l.take (j + 1)) = max (mostL (l.take j)) (l[j]?.getD 0) := by
  unfold leastL mostL
  rw [foldl_snoc _ _ _ _ hlt, foldl_snoc _ _ _ _ hlt]
  simp [hlt]
set_option maxHeartbeats 1000000 in
theorem ends_any {lo : Nat} (l : List Int) (a : Option Addr) (cap : Nat) (w : World) (R : Row lo w a l) :
    Calls Tryz.prog 111 #[.slice a l.length cap] w fun e w' => e = .returned (.tuple #[.int .i64 (leastL l), .int .i64 (mostL l)]) ∧ w' = w := by
  have hrow := @row_at _ _ _ _ R
  have hl := R.1
  clear R
  go_enter Tryz.func111, Tryz.ntmps111
  go_wp2
  go_loop [4, 5, 10] (fun x y i => ∃ j : Nat, j ≤ l.length ∧ i = .int .i64 j ∧ x = .int .i64 (leastL (l.take j)) ∧ y = .int .i64 (mostL (l.take j))) (fun _ _ i => l.length - (intOf i).toNat)
  case atStart => exact ⟨0, Nat.zero_le _, rfl, by simp [leastL], by simp [mostL]⟩
  case round =>
    obtain ⟨j, hj, rfl, rfl, rfl⟩ := hrel
    by_cases hlt : j < l.length
    · obtain ⟨b, off, ha, hb, hck⟩ := hrow hlt
      subst ha
      have e1 : Hid (leastL (l.take (j + 1)) = min (leastL (l.take j)) (l[j]?.getD 0) ∧ mostL (l.take (j + 1)) = max (mostL (l.take j)) (l[j]?.getD 0)) := by
        exact ends_step l j hlt
      obtain ⟨z, hz⟩ : ∃ z, l[j]?.getD 0 = z := ⟨_, rfl⟩
      rw [hz] at hck e1
      clear hrow hz
      generalize leastL (l.take j) = p at e1
      generalize mostL (l.take j) = q at e1
      go_wp2
      go_round
      case rel => exact ⟨j + 1, by omega, by go_num, by rw [e1.out.1, min_if], by rw [e1.out.2, max_if]⟩
      case measure => simp [intOf]; omega
    · have hje : j = l.length := by omega
      subst hje
      rw [List.take_length]
      go_wp2
      go_ret2
      exact ⟨rfl, rfl⟩
theorem size_take_bound {l : List Int} (hp : ∀ z ∈ l, 0 < z) (hm : ¬ hasLong l) {j : Nat} (hj : j < l.length) (h : prodL (l.take j) ≤ 16384) : 1 ≤ prodL (l.take j) ∧ 1 ≤ l[j]?.getD 0 ∧ l[j]?.getD 0 ≤ 16384 ∧ 0 ≤ prodL (l.take j) * l[j]?.getD 0 ∧ prodL (l.take j) * l[j]?.getD 0 ≤ 268435456 := by
  have h1 := prodL_pos (l := l.take j) fun z hz => hp z (List.mem_of_mem_take hz)
  have h2 := hp _ (getD_mem hj)
  have h3 : ¬ 16384 < l[j]?.getD 0 := fun h => hm ⟨_, getD_mem hj, h⟩
  have h4 := Int.mul_nonneg (a := prodL (l.take j)) (b := l[j]?.getD 0) (by omega) (by omega)
  have h5 := Int.mul_le_mul (a := prodL (l.take j)) (b := l[j]?.getD 0) (c := 16384) (d := 16384) h (by omega) (by omega) (by omega)
  exact ⟨h1, by omega, by omega, h4, by omega⟩
set_option maxHeartbeats 1000000 in
theorem size_any {lo : Nat} (l : List Int) (a : Option Addr) (cap : Nat) (w : World) (R : Row lo w a l) :
    Calls Tryz.prog 110 #[.slice a l.length cap] w fun e w' => e = .returned (.tuple #[.int .i64 (sizeV l), .int .i64 (sizeE l)]) ∧ w' = w := by
  have C := ends_any l a cap w R
  have hrow := @row_at _ _ _ _ R
  have hl := R.1
  clear R
  by_cases h8 : 8 < l.length
  · rw [(size_long h8).1, (size_long h8).2]
    go_enter Tryz.func110, Tryz.ntmps110
    go_wp2
    go_ret2
    exact ⟨rfl, rfl⟩
  · have H8 : Hid (¬ 8 < l.length) := h8
    by_cases hn : hasNeg l
    · have h0 := least_neg.2 hn
      rw [(size_neg h8 hn).1, (size_neg h8 hn).2]
      generalize leastL l = p at C h0
      generalize mostL l = q at C
      clear hn
      go_enter Tryz.func110, Tryz.ntmps110
      go_wp2_with (go_at_call 111; refine C.mono ?_; rintro e w' ⟨rfl, hw⟩; rw [hw])
      go_ret2
      exact ⟨rfl, rfl⟩
    · have h0 : ¬ leastL l < 0 := fun h => hn (least_neg.1 h)
      by_cases hz : hasZero l
      · have h1 := (least_zero hn).2 hz
        rw [(size_zero h8 hn hz).1, (size_zero h8 hn hz).2]
        generalize leastL l = p at C h0 h1
        generalize mostL l = q at C
        clear hn hz
        go_enter Tryz.func110, Tryz.ntmps110
        go_wp2_with (go_at_call 111; refine C.mono ?_; rintro e w' ⟨rfl, hw⟩; rw [hw])
        go_ret2
        exact ⟨rfl, rfl⟩
      · have h1 : ¬ leastL l = 0 := fun h => hz ((least_zero hn).1 h)
        have hp := all_pos hn hz
        by_cases hm : hasLong l
        · have h2 := most_long.2 hm
          have h3 := long_many hp hm
          rw [(size_many h8 hn hz h3).1, (size_many h8 hn hz h3).2]
          generalize leastL l = p at C h0 h1
          generalize mostL l = q at C h2
          clear hn hz hp hm h3
          go_enter Tryz.func110, Tryz.ntmps110
          go_wp2_with (go_at_call 111; refine C.mono ?_; rintro e w' ⟨rfl, hw⟩; rw [hw])
          go_ret2
          exact ⟨rfl, rfl⟩
        · have h2 : ¬ 16384 < mostL l := fun h => hm (most_long.1 h)
          have FM : Hid (∀ j, prodL (l.take j) > 16384 → sizeV l = 0 ∧ sizeE l = 12) := fun j h => size_many h8 hn hz (Int.lt_of_lt_of_le h (prodL_take_le hp j))
          have FO : Hid (prodL l ≤ 16384 → sizeV l = prodL l ∧ sizeE l = 0) := fun h => size_ok h8 hn hz (by omega)
          have FB : Hid (∀ j, j < l.length → prodL (l.take j) ≤ 16384 → 1 ≤ prodL (l.take j) ∧ 1 ≤ l[j]?.getD 0 ∧ l[j]?.getD 0 ≤ 16384 ∧ 0 ≤ prodL (l.take j) * l[j]?.getD 0 ∧ prodL (l.take j) * l[j]?.getD 0 ≤ 268435456) := fun j hj h => size_take_bound hp hm hj h
          generalize sizeV l = V at FM FO
          generalize sizeE l = E at FM FO
          generalize leastL l = p at C h0 h1
          generalize mostL l = q at C h2
          clear hn hz hp hm
          go_enter Tryz.func110, Tryz.ntmps110
          go_wp2_with (go_at_call 111; refine C.mono ?_; rintro e w' ⟨rfl, hw⟩; rw [hw])
          clear C
          go_loop [6, 28] (fun x i => ∃ j : Nat, j ≤ l.length ∧ i = .int .i64 j ∧ x = .int .i64 (prodL (l.take j)) ∧ prodL (l.take j) ≤ 16384) (fun _ i => l.length - (intOf i).toNat)
          case atStart => exact ⟨0, Nat.zero_le _, rfl, by simp [prodL], by simp [prodL]⟩
          case round =>
            obtain ⟨j, hj, rfl, rfl, hpj⟩ := hrel
            by_cases hlt : j < l.length
            · obtain ⟨b, off, ha, hb, hck⟩ := hrow hlt
              subst ha
              obtain ⟨f1, f2, f3, f4, f5⟩ := FB.out j hlt hpj
              have e1 : Hid (prodL (l.take (j + 1)) = prodL (l.take j) * l[j]?.getD 0) := prodL_take_succ l j hlt
              obtain ⟨z, hz⟩ : ∃ z, l[j]?.getD 0 = z := ⟨_, rfl⟩
              rw [hz] at hck e1 f2 f3 f4 f5
              clear hrow hz FB
              generalize prodL (l.take j) = r at e1 f1 hpj f4 f5
              obtain ⟨m, hm⟩ : ∃ m, r * z = m := ⟨_, rfl⟩
              rw [hm] at e1 f4 f5
              by_cases hbig : m ≤ 16384
              · go_wp2
                go_round
                case rel => exact ⟨j + 1, by omega, by go_num, by rw [e1.out], by rw [e1.out]; exact hbig⟩
                case measure => simp [intOf]; omega
              · have fm : Hid (V = 0 ∧ E = 12) := FM.out (j + 1) (by rw [e1.out]; omega)
                go_wp2
                go_ret2
                exact ⟨retII ⟨fm.out.1.symm, fm.out.2.symm⟩, rfl⟩
            · have hje : j = l.length := by omega
              subst hje
              rw [List.take_length] at hpj ⊢
              have fo : Hid (V = prodL l ∧ E = 0) := FO.out hpj
              go_wp2
              go_ret2
              exact ⟨retII ⟨fo.out.1.symm, fo.out.2.symm⟩, rfl⟩
set_option maxHeartbeats 1000000 in
theorem rsize_any {lo : Nat} (l : List Int) (a : Option Addr) (cap : Nat) (w : World) (R : Row lo w a l) :
    Calls Tryz.prog 116 #[.slice a l.length cap] w fun e w' => e = .returned (.tuple #[.int .i64 (sizeV l), .int .i64 (sizeE l)]) ∧ w' = w := by
  have hrow := @row_at _ _ _ _ R
  have hl := R.1
  clear R
  by_cases h8 : 8 < l.length
  · rw [(size_long h8).1, (size_long h8).2]
    go_enter Tryz.func116, Tryz.ntmps116
    go_wp2
    go_ret2
    exact ⟨rfl, rfl⟩
  · have FN : Hid (hasNeg l → sizeV l = 0 ∧ sizeE l = 1) := fun h => size_neg h8 h
    have FZ : Hid (¬ hasNeg l → hasZero l → sizeV l = 0 ∧ sizeE l = 0) := fun h h' => size_zero h8 h h'
    have FM : Hid (¬ hasNeg l → ¬ hasZero l → ∀ j, prodL (l.take j) > 16384 → sizeV l = 0 ∧ sizeE l = 12) := fun hn hz j h => size_many h8 hn hz (Int.lt_of_lt_of_le h (prodL_take_le (all_pos hn hz) j))
    have FL : Hid (¬ hasNeg l → ¬ hasZero l → hasLong l → sizeV l = 0 ∧ sizeE l = 12) := fun hn hz h => size_many h8 hn hz (long_many (all_pos hn hz) h)
    have FO : Hid (¬ hasNeg l → ¬ hasZero l → prodL l ≤ 16384 → sizeV l = prodL l ∧ sizeE l = 0) := fun hn hz h => size_ok h8 hn hz (by omega)
    have FB : Hid (¬ hasNeg l → ¬ hasZero l → ∀ j, j < l.length → prodL (l.take j) ≤ 16384 → l[j]?.getD 0 ≤ 16384 → 1 ≤ prodL (l.take j) ∧ 1 ≤ l[j]?.getD 0 ∧ 0 ≤ prodL (l.take j) * l[j]?.getD 0 ∧ prodL (l.take j) * l[j]?.getD 0 ≤ 268435456) := by
      intro hn hz j hj h hle
      have hp := all_pos hn hz
      have h1 := prodL_pos (l := l.take j) fun z hz => hp z (List.mem_of_mem_take hz)
      have h2 := hp _ (getD_mem hj)
      have h4 := Int.mul_nonneg (a := prodL (l.take j)) (b := l[j]?.getD 0) (by omega) (by omega)
      have h5 := Int.mul_le_mul (a := prodL (l.take j)) (b := l[j]?.getD 0) (c := 16384) (d := 16384) h hle (by omega) (by omega)
      exact ⟨h1, by omega, h4, by omega⟩
    have D1 : Hid (∀ j, j < l.length → l[j]?.getD 0 < 0 → hasNeg l) := fun j hj h => ⟨_, getD_mem hj, h⟩
    have D2 : Hid (∀ j, j < l.length → l[j]?.getD 0 = 0 → hasZero l) := fun j hj h => ⟨_, getD_mem hj, h⟩
    have D3 : Hid (∀ j, j < l.length → l[j]?.getD 0 > 16384 → hasLong l) := fun j hj h => ⟨_, getD_mem hj, h⟩
    have D4 : Hid ((∀ i, i < l.length → ¬ l[i]?.getD 0 < 0) → ¬ hasNeg l) := by
      rintro h ⟨z, hz, hz'⟩
      obtain ⟨k, hk, e⟩ := mem_getD hz
      exact h k hk (by omega)
    have D5 : Hid ((∀ i, i < l.length → ¬ l[i]?.getD 0 = 0) → ¬ hasZero l) := by
      rintro h ⟨z, hz, hz'⟩
      obtain ⟨k, hk, e⟩ := mem_getD hz
      exact h k hk (by omega)
    generalize sizeV l = V at FN FZ FM FL FO
    generalize sizeE l = E at FN FZ FM FL FO
    go_enter Tryz.func116, Tryz.ntmps116
    go_wp2
    go_loop [4, 5] (fun x i => ∃ j : Nat, ∃ b : Bool, j ≤ l.length ∧ i = .int .i64 j ∧ x = .bool b ∧ (∀ i, i < j → ¬ l[i]?.getD 0 < 0) ∧ (b = true → hasZero l) ∧ (b = false → ∀ i, i < j → ¬ l[i]?.getD 0 = 0)) (fun _ i => l.length - (intOf i).toNat)
    case atStart => exact ⟨0, false, Nat.zero_le _, rfl, rfl, by simp, by simp, by simp⟩
    case round =>
      obtain ⟨j, bb, hj, rfl, rfl, g1, g2, g3⟩ := hrel
      have G : Hid ((∀ i, i < j → ¬ l[i]?.getD 0 < 0) ∧ (bb = true → hasZero l) ∧ (bb = false → ∀ i, i < j → ¬ l[i]?.getD 0 = 0)) := ⟨g1, g2, g3⟩
      clear g1 g2 g3
      by_cases hlt : j < l.length
      · obtain ⟨b, off, ha, hb, hck⟩ := hrow hlt
        subst ha
        obtain ⟨z, hz⟩ : ∃ z, l[j]?.getD 0 = z := ⟨_, rfl⟩
        have HZ : Hid (l[j]?.getD 0 = z) := hz
        rw [hz] at hck
        clear hrow hz
        by_cases hneg : z < 0
        · have fm : Hid (V = 0 ∧ E = 1) := FN.out (D1.out j hlt (by rw [HZ.out]; exact hneg))
          go_wp2
          go_ret2
          exact ⟨retII ⟨fm.out.1.symm, fm.out.2.symm⟩, rfl⟩
        · have HN : Hid (¬ z < 0) := hneg
          by_cases hzz : z = 0
          · have HY : Hid (hasZero l) := D2.out j hlt (by rw [HZ.out]; exact hzz)
            go_wp2
            go_round
            case rel =>
              refine ⟨j + 1, true, by omega, by go_num, rfl, ?_, fun _ => HY.out, by simp⟩
              intro i hi
              rcases Nat.lt_succ_iff_lt_or_eq.1 hi with h | rfl
              · exact G.out.1 i h
              · rw [HZ.out]; exact HN.out
            case measure => simp [intOf]; omega
          · have HNZ : Hid (¬ z = 0) := hzz
            go_wp2
            go_round
            case rel =>
              refine ⟨j + 1, bb, by omega, by go_num, rfl, ?_, G.out.2.1, ?_⟩
              · intro i hi
                rcases Nat.lt_succ_iff_lt_or_eq.1 hi with h | rfl
                · exact G.out.1 i h
                · rw [HZ.out]; exact HN.out
              · intro hb i hi
                rcases Nat.lt_succ_iff_lt_or_eq.1 hi with h | rfl
                · exact G.out.2.2 hb i h
                · rw [HZ.out]; exact HNZ.out
            case measure => simp [intOf]; omega
      · have hje : j = l.length := by omega
        subst hje
        have hn : ¬ hasNeg l := D4.out (by intro i hi; have := G.out.1 i hi; omega)
        cases bb with
        | true =>
          have fm : Hid (V = 0 ∧ E = 0) := FZ.out hn (G.out.2.1 rfl)
          clear hn
          go_wp2
          go_ret2
          exact ⟨retII ⟨fm.out.1.symm, fm.out.2.symm⟩, rfl⟩
        | false =>
          have hz : ¬ hasZero l := D5.out (by intro i hi; have := G.out.2.2 rfl i hi; omega)
          have FM' : Hid (∀ j, prodL (l.take j) > 16384 → V = 0 ∧ E = 12) := FM.out hn hz
          have FL' : Hid (hasLong l → V = 0 ∧ E = 12) := FL.out hn hz
          have FO' : Hid (prodL l ≤ 16384 → V = prodL l ∧ E = 0) := FO.out hn hz
          have FB' : Hid (∀ j, j < l.length → prodL (l.take j) ≤ 16384 → l[j]?.getD 0 ≤ 16384 → 1 ≤ prodL (l.take j) ∧ 1 ≤ l[j]?.getD 0 ∧ 0 ≤ prodL (l.take j) * l[j]?.getD 0 ∧ prodL (l.take j) * l[j]?.getD 0 ≤ 268435456) := FB.out hn hz
          clear FM FL FO FB FN FZ D1 D2 D4 D5 G hn hz
          go_wp2
          go_loop [6, 7] (fun x i => ∃ j : Nat, j ≤ l.length ∧ i = .int .i64 j ∧ x = .int .i64 (prodL (l.take j)) ∧ prodL (l.take j) ≤ 16384) (fun _ i => l.length - (intOf i).toNat)
          case atStart => exact ⟨0, Nat.zero_le _, rfl, by simp [prodL], by simp [prodL]⟩
          case round =>
            obtain ⟨j, hj, rfl, rfl, hpj⟩ := hrel
            by_cases hlt : j < l.length
            · obtain ⟨b, off, ha, hb, hck⟩ := hrow hlt
              subst ha
              have e1 : Hid (prodL (l.take (j + 1)) = prodL (l.take j) * l[j]?.getD 0) := prodL_take_succ l j hlt
              have FBj : Hid (l[j]?.getD 0 ≤ 16384 → 1 ≤ prodL (l.take j) ∧ 1 ≤ l[j]?.getD 0 ∧ 0 ≤ prodL (l.take j) * l[j]?.getD 0 ∧ prodL (l.take j) * l[j]?.getD 0 ≤ 268435456) := FB'.out j hlt hpj
              have FLj : Hid (l[j]?.getD 0 > 16384 → V = 0 ∧ E = 12) := fun h => FL'.out (D3.out j hlt h)
              obtain ⟨z, hz⟩ : ∃ z, l[j]?.getD 0 = z := ⟨_, rfl⟩
              rw [hz] at hck e1 FBj FLj
              clear hrow hz FB' D3
              generalize prodL (l.take j) = r at e1 hpj FBj
              by_cases hlong : z ≤ 16384
              · obtain ⟨f1, f2, f4, f5⟩ := FBj.out hlong
                obtain ⟨m, hm⟩ : ∃ m, r * z = m := ⟨_, rfl⟩
                rw [hm] at e1 f4 f5
                clear FBj FLj
                by_cases hbig : m ≤ 16384
                · go_wp2
                  go_round
                  case rel => exact ⟨j + 1, by omega, by go_num, by rw [e1.out], by rw [e1.out]; exact hbig⟩
                  case measure => simp [intOf]; omega
                · have fm : Hid (V = 0 ∧ E = 12) := FM'.out (j + 1) (by rw [e1.out]; omega)
                  go_wp2
                  go_ret2
                  exact ⟨retII ⟨fm.out.1.symm, fm.out.2.symm⟩, rfl⟩
              · have fm : Hid (V = 0 ∧ E = 12) := FLj.out (by omega)
                clear FBj FLj
                go_wp2
                go_ret2
                exact ⟨retII ⟨fm.out.1.symm, fm.out.2.symm⟩, rfl⟩
            · have hje : j = l.length := by omega
              subst hje
              rw [List.take_length] at hpj ⊢
              have fo : Hid (V = prodL l ∧ E = 0) := FO'.out hpj
              go_wp2
              go_ret2
              exact ⟨retII ⟨fo.out.1.symm, fo.out.2.symm⟩, rfl⟩
end Go.Proofs.YtneblkdkhlgmcaaGreatDoor
namespace Go.Proofs.YtneblkdkhlgmcaaGreatDoor
open Go.ChangeShapes Go.WideShapes Go.ChangeAt Go.RowKit
set_option maxRecDepth 100000
/-- An array: its shape, and its cells: kind, number, what is in the box. -/
inductive Ar where
  | mk (shape : List Int) (cells : List (Int × Int × List Ar))
abbrev Ce := Int × Int × List Ar
def Ar.shape : Ar → List Int
  | .mk s _ => s
def Ar.cells : Ar → List Ce
  | .mk _ c => c
instance : Inhabited Ar := ⟨.mk [] []⟩
/-- A number of 64 bits; an array all of whose numbers are such, boxes gone into. -/
def I64 (a : Int) : Prop := -9223372036854775808 ≤ a ∧ a ≤ 9223372036854775807
inductive Snd : Ar → Prop where
  | mk {s : List Int} {cs : List (Int × Int × List Ar)} (hs : ∀ z ∈ s, I64 z) (hn : ∀ c ∈ cs, I64 c.1 ∧ I64 c.2.1) (hb : ∀ c ∈ cs, ∀ y ∈ c.2.2, Snd y) : Snd (.mk s cs)
def SndC (c : Ce) : Prop := I64 c.1 ∧ I64 c.2.1 ∧ ∀ y ∈ c.2.2, Snd y
theorem Snd.of {s : List Int} {cs : List Ce} (hs : ∀ z ∈ s, I64 z) (hc : ∀ c ∈ cs, SndC c) : Snd (.mk s cs) := .mk hs (fun c h => ⟨(hc c h).1, (hc c h).2.1⟩) fun c h => (hc c h).2.2
theorem Snd.cell {x : Ar} (h : Snd x) {c : Ce} (hc : c ∈ x.cells) : SndC c := by
  cases h with
  | mk hs hn hb => exact ⟨(hn c hc).1, (hn c hc).2, hb c hc⟩
theorem Snd.axis {x : Ar} (h : Snd x) {z : Int} (hz : z ∈ x.shape) : I64 z := by
  cases h with
  | mk hs hn hb => exact hs z hz
/-- The cell at a place, the array at a place of a box. -/
def cAt (l : List Ce) (i : Nat) : Ce := l[i]?.getD (0, 0, [])
def bAt (l : List Ar) (i : Nat) : Ar := l[i]?.getD (.mk [] [])
/-- A cell's value: its three cells of memory; a box's arrays lie in a row, two cells of memory each. -/
def CeIn (P : Ar → Value → Prop) (lo : Nat) (w : World) (c : Ce) (v0 v1 v2 : Value) : Prop :=
  v0 = .int .i64 c.1 ∧ v1 = .int .i64 c.2.1 ∧ ∃ a cap, v2 = .slice a c.2.2.length cap ∧ c.2.2.length ≤ 5864062014805 ∧ (c.2.2 = [] ∨ ∃ b off, a = some ⟨b, off, none⟩ ∧ lo ≤ b ∧ b < w.heap.size ∧
    ∀ j, j < c.2.2.length → ∃ u0 u1, w.cell? ⟨b, off + j * 2, none⟩ = some u0 ∧ w.cell? ⟨b, off + j * 2 + 1, none⟩ = some u1 ∧ P (bAt c.2.2 j) (.agg #[u0, u1]))
/-- An array's value, no deeper than n boxes; all its memory in blocks from lo on. -/
def ArIn : Nat → Nat → World → Ar → Value → Prop
  | 0, _, _, _, _ => False
  | n + 1, lo, w, x, v => ∃ a1 c1 a2 c2, v = .agg #[.slice a1 x.shape.length c1, .slice a2 x.cells.length c2] ∧ Row lo w a1 x.shape ∧ x.cells.length ≤ 5864062014805 ∧ (x.cells = [] ∨ ∃ b off, a2 = some ⟨b, off, none⟩ ∧ lo ≤ b ∧ b < w.heap.size ∧
      ∀ i, i < x.cells.length → ∃ v0 v1 v2, w.cell? ⟨b, off + i * 3, none⟩ = some v0 ∧ w.cell? ⟨b, off + i * 3 + 1, none⟩ = some v1 ∧ w.cell? ⟨b, off + i * 3 + 2, none⟩ = some v2 ∧ CeIn (ArIn n lo w) lo w (cAt x.cells i) v0 v1 v2)
theorem CeIn.mono {P Q : Ar → Value → Prop} {lo lo' : Nat} {w w' : World} {c : Ce} {v0 v1 v2 : Value} (h : CeIn P lo w c v0 v1 v2) (hl : lo' ≤ lo) (hb : Below w.heap.size w w') (hPQ : ∀ x v, P x v → Q x v) : CeIn Q lo' w' c v0 v1 v2 := by
  obtain ⟨h0, h1, a, cap, h2, h3, h4⟩ := h
  refine ⟨h0, h1, a, cap, h2, h3, ?_⟩
  rcases h4 with h4 | ⟨b, off, ha, hlo, hbb, hc⟩
  · exact Or.inl h4
  · refine Or.inr ⟨b, off, ha, Nat.le_trans hl hlo, Nat.lt_of_lt_of_le hbb hb.size, fun j hj => ?_⟩
    obtain ⟨u0, u1, e0, e1, e2⟩ := hc j hj
    exact ⟨u0, u1, (hb.cell (p := ⟨b, off + j * 2, none⟩) hbb).trans e0, (hb.cell (p := ⟨b, off + j * 2 + 1, none⟩) hbb).trans e1, hPQ _ _ e2⟩
theorem ArIn.mono {n lo lo' : Nat} {w w' : World} {x : Ar} {v : Value} (h : ArIn n lo w x v) (hl : lo' ≤ lo) (hb : Below w.heap.size w w') : ArIn n lo' w' x v := by
  induction n generalizing x v with
  | zero => exact h.elim
  | succ n ih =>
    obtain ⟨a1, c1, a2, c2, hv, hR, hlen, hc⟩ := h
    refine ⟨a1, c1, a2, c2, hv, (hR.next hb).low hl, hlen, ?_⟩
    rcases hc with hc | ⟨b, off, ha, hlo, hbb, hc⟩
    · exact Or.inl hc
    · refine Or.inr ⟨b, off, ha, Nat.le_trans hl hlo, Nat.lt_of_lt_of_le hbb hb.size, fun i hi => ?_⟩
      obtain ⟨v0, v1, v2, e0, e1, e2, e3⟩ := hc i hi
      exact ⟨v0, v1, v2, (hb.cell (p := ⟨b, off + i * 3, none⟩) hbb).trans e0, (hb.cell (p := ⟨b, off + i * 3 + 1, none⟩) hbb).trans e1, (hb.cell (p := ⟨b, off + i * 3 + 2, none⟩) hbb).trans e2, e3.mono hl hb fun x v h => ih h⟩
theorem ArIn.next {n lo : Nat} {w w' : World} {x : Ar} {v : Value} (h : ArIn n lo w x v) (hb : Below w.heap.size w w') : ArIn n lo w' x v := h.mono (Nat.le_refl _) hb
theorem CeIn.deeper {P Q : Ar → Value → Prop} {lo : Nat} {w : World} {c : Ce} {v0 v1 v2 : Value} (h : CeIn P lo w c v0 v1 v2) (hPQ : ∀ x v, P x v → Q x v) : CeIn Q lo w c v0 v1 v2 := h.mono (Nat.le_refl _) (Below.refl _ _) hPQ
theorem ArIn.deeper {n lo : Nat} {w : World} {x : Ar} {v : Value} (h : ArIn n lo w x v) : ArIn (n + 1) lo w x v := by
  induction n generalizing x v with
  | zero => exact h.elim
  | succ n ih =>
    obtain ⟨a1, c1, a2, c2, hv, hR, hlen, hc⟩ := h
    refine ⟨a1, c1, a2, c2, hv, hR, hlen, ?_⟩
    rcases hc with hc | ⟨b, off, ha, hlo, hbb, hc⟩
    · exact Or.inl hc
    · refine Or.inr ⟨b, off, ha, hlo, hbb, fun i hi => ?_⟩
      obtain ⟨v0, v1, v2, e0, e1, e2, e3⟩ := hc i hi
      exact ⟨v0, v1, v2, e0, e1, e2, e3.deeper fun x v h => ih h⟩
theorem ArIn.deep {n m lo : Nat} {w : World} {x : Ar} {v : Value} (h : ArIn n lo w x v) (hm : n ≤ m) : ArIn m lo w x v := by
  induction hm with
  | refl => exact h
  | step _ ih => exact ih.deeper
/-- The first that is not 0 among the first m. -/
def firstUp (f : Nat → Int) : Nat → Int
  | 0 => 0
  | m + 1 => if firstUp f m = 0 then f m else firstUp f m
theorem firstUp_stays {f : Nat → Int} {j : Nat} (h : firstUp f j ≠ 0) (m : Nat) (hm : j ≤ m) : firstUp f m = firstUp f j := by
  induction hm with
  | refl => rfl
  | step _ ih => simp only [firstUp]; rw [ih, if_neg h]
theorem firstUp_hit {f : Nat → Int} {j : Nat} (h0 : firstUp f j = 0) (h : f j ≠ 0) (m : Nat) (hm : j < m) : firstUp f m = f j := by
  have e : firstUp f (j + 1) = f j := by simp [firstUp, h0]
  rw [← e]
  exact firstUp_stays (by rw [e]; exact h) m hm
theorem firstUp_step {f : Nat → Int} {j : Nat} (h0 : firstUp f j = 0) : firstUp f (j + 1) = f j := by simp [firstUp, h0]
end Go.Proofs.YtneblkdkhlgmcaaGreatDoor
namespace Go.Proofs.YtneblkdkhlgmcaaGreatDoor
open Go.ChangeShapes Go.WideShapes Go.ChangeAt Go.RowKit
set_option maxRecDepth 100000
set_option linter.unusedVariables false
theorem two_allocs (w : World) (o1 o2 : Obj) : Below w.heap.size w ((w.alloc o1).alloc o2) := ((Below.refl _ _).alloc (Nat.le_refl _) _).alloc (by simp) _
end Go.Proofs.YtneblkdkhlgmcaaGreatDoor
namespace Go.Proofs.YtneblkdkhlgmcaaGreatDoor
open Go.ChangeShapes Go.WideShapes Go.ChangeAt Go.RowKit
set_option maxRecDepth 100000
set_option linter.unusedVariables false
theorem hide {p : Prop} (h : p) : Hid p := h
theorem firstUp_zero {f : Nat → Int} {m : Nat} (h : firstUp f m = 0) (j : Nat) (hj : j ≤ m) : firstUp f j = 0 :=
  Decidable.byContradiction fun h' => h' (by rw [← firstUp_stays h' m hj]; exact h)
end Go.Proofs.YtneblkdkhlgmcaaGreatDoor
namespace Go.Proofs.YtneblkdkhlgmcaaGreatDoor
open Go.ChangeShapes Go.WideShapes Go.ChangeAt Go.RowKit Go.Sort Go.Lib
set_option maxRecDepth 100000
set_option linter.unusedVariables false
set_option linter.unusedSimpArgs false
/-- The table that the library's digits are counted by. -/
abbrev Pw (w : World) : Prop := Lib.TabIs Tryz.prog w "internal/strconv.uint64pow10" .u64 Lib.pow10Tab
set_option maxHeartbeats 2000000 in
theorem fmt32 (u : Nat) (hu64 : u < 18446744073709551616) (w : World) (htab : Pw w) :
    Calls Tryz.prog 68 #[.int .u64 u, .int .i64 10] w fun e w' => e = .returned (.string ⟨(Lib.decDigits u).toArray⟩) ∧ Below w.heap.size w w' := by
  by_cases hs : u < 100
  · have hw : IntKind.i64.wrap (u : Int) = (u : Int) := IntWalk.i64_in _ ⟨by omega, by omega⟩
    go_enter Tryz.func68, Tryz.ntmps68
    go_wp2_with (go_at_call 100; refine (Tryz.internal_strconv_small u hs _).mono ?_; rintro e w' ⟨rfl, rfl⟩)
    go_ret
    exact ⟨rfl, Below.refl _ _⟩
  · have hu1 : 1 ≤ u := by omega
    have hnd20 : Lib.nDigits u ≤ 20 := by have := Lib.numDigits_eq u hu1 hu64; split at this <;> omega
    have hal : Tryz.prog.arrayLen 134 = 24 := by simp [Program.arrayLen, Tryz.underlying134]
    have hsl1 : ∀ W, (Instr.sliceAt 134 (.pointer (some ⟨w.heap.size, 0, none⟩)) none (some (.int .i64 (Lib.nDigits u : Int))) none).run Tryz.prog W = .ok (.slice (some ⟨w.heap.size, 0, none⟩) (Lib.nDigits u) 24) W := fun W => by
      rw [run_sliceAt_array_h W 134 ⟨w.heap.size, 0, none⟩ (by simp [Program.arrayLen, Program.elem, Tryz.underlying134]) .i64 (Lib.nDigits u : Int) (by omega) (by rw [hal]; omega)]
      go_simp
    have hH0 := Lib.holds_zero0 w 134 (Lib.nDigits u) (by omega)
    have hfmt := Tryz.internal_strconv_formatBase10 w.heap.size 0 24 u (Array.replicate (Lib.nDigits u) 0) (w.alloc (.cells Lib.zeros24 134)) hH0 (by rw [Array.size_replicate]; exact Lib.lt_pow_nDigits u) hu64 (by rw [Array.size_replicate]; omega)
    rw [Array.size_replicate] at hfmt
    have HH0 := Lib.hid hH0
    clear hH0 hal
    go_enter Tryz.func68, Tryz.ntmps68
    go_wp2_with (first
      | (go_at_call 101; refine (Tryz.internal_strconv_numDigits u hu1 hu64 _ (Lib.tabIs_alloc htab _)).mono ?_; rintro e w' ⟨rfl, rfl⟩))
    go_at_call 102
    refine hfmt.mono ?_
    rintro e w' ⟨rfl, k, v', dk, rfl, hF⟩
    have hcv : (convert 65 9 (.slice (some ⟨w.heap.size, 0, none⟩) (Lib.nDigits u) 24)).run Tryz.prog ((putRow (fun (b : UInt8) => Value.int .u8 (b.toNat : Int)) (w.alloc (.cells Lib.zeros24 134)) w.heap.size 0 dk).drewN k) = .ok (.string ⟨(Lib.decDigits u).toArray⟩) ((putRow (fun (b : UInt8) => Value.int .u8 (b.toNat : Int)) (w.alloc (.cells Lib.zeros24 134)) w.heap.size 0 dk).drewN k) := by
      have h := run_convert_bytes_back (P := Tryz.prog) ((putRow (fun (b : UInt8) => Value.int .u8 (b.toNat : Int)) (w.alloc (.cells Lib.zeros24 134)) w.heap.size 0 dk).drewN k) 65 9 5 ⟨w.heap.size, 0, none⟩ 24 (Lib.decDigits u) Tryz.underlying65 Tryz.underlying5 Tryz.underlying9 (fun j hj => by
        rw [Lib.row_is_numeral hF j hj, Lib.add_plain, World.cell?_drewN]
        exact cell?_putRow (fun (b : UInt8) => Value.int .u8 (b.toNat : Int)) _ w.heap.size 0 _ dk HH0.out (by rw [hF.size, Array.size_replicate]) j (by rw [hF.size]; rw [Lib.decDigits_length] at hj; exact hj))
      rw [Lib.decDigits_length] at h
      exact h
    go_wp2
    go_ret
    obtain ⟨os, eo⟩ := Lib.fin_at w (.cells Lib.zeros24 134) dk k 0
    refine ⟨rfl, ?_⟩
    rw [eo]
    exact Lib.below_grow _ _ (Nat.le_refl _) _ _
theorem fmt14 (u : Nat) (hu64 : u < 18446744073709551616) (w : World) (htab : Pw w) :
    Calls Tryz.prog 38 #[.int .u64 u, .int .i64 10] w fun e w' => e = .returned (.string ⟨(Lib.decDigits u).toArray⟩) ∧ Below w.heap.size w w' := by
  go_enter Tryz.func38, Tryz.ntmps38
  go_wp2_with (go_at_call 68; refine (fmt32 u hu64 _ htab).mono ?_; rintro e w' ⟨rfl, hb⟩)
  go_ret
  exact ⟨rfl, hb⟩
/-- A number as a text, with what says that it is below 0. -/
def numT (n : Int) (m : List UInt8) : List UInt8 := if n < 0 then m ++ decDigits n.natAbs else decDigits n.natAbs
theorem dig_len (u : Nat) (hu : u < 18446744073709551616) : (decDigits u).length ≤ 20 := by
  rw [Lib.decDigits_length]
  by_cases h : u = 0
  · subst h; rw [Lib.nDigits]; simp
  · have := Lib.numDigits_eq u (by omega) hu; split at this <;> omega
theorem cat_mk (a b : List UInt8) : (⟨a.toArray⟩ : ByteArray) ++ ⟨b.toArray⟩ = ⟨(a ++ b).toArray⟩ := by
  apply ByteArray.ext
  simp [ByteArray.data_append]
theorem str_mk (m : ByteArray) : m = ⟨m.data.toList.toArray⟩ := by cases m; simp
theorem cat_l (m : ByteArray) (b : List UInt8) : m ++ ⟨b.toArray⟩ = ⟨(m.data.toList ++ b).toArray⟩ := by
  apply ByteArray.ext
  simp [ByteArray.data_append]
theorem num5 (n : Int) (m : ByteArray) (hm : m.size ≤ 140737488355328) (h0 : -9223372036854775808 ≤ n) (h1 : n ≤ 9223372036854775807) (w : World) (htab : Pw w) :
    Calls Tryz.prog 22 #[.int .i64 n, .string m] w fun e w' => e = .returned (.string ⟨(numT n m.data.toList).toArray⟩) ∧ Below w.heap.size w w' := by
  by_cases hn : n < 0
  · have hn' : decide (n ≥ 0) = false := decide_eq_false (by omega)
    obtain ⟨u, rfl⟩ : ∃ u : Nat, n = -(u : Int) := ⟨n.natAbs, by omega⟩
    have hu64 : u < 18446744073709551616 := by omega
    have hwr : IntKind.u64.wrap (-IntKind.u64.wrap (-(u : Int))) = (u : Int) := by rw [IntKind.wrap_u64, IntKind.wrap_u64]; omega
    have hlen : ¬ (9223372036854775807 < m.size + (Lib.decDigits u).length) := by have := dig_len u hu64; omega
    go_enter Tryz.func22, Tryz.ntmps22
    go_wp2_with (go_at_call 38; refine (fmt14 u hu64 _ htab).mono ?_; rintro e w' ⟨rfl, hb⟩)
    go_ret
    refine ⟨?_, hb⟩
    have e := cat_l m (decDigits u)
    unfold numT
    rw [if_pos hn, show (-(u : Int)).natAbs = u by omega, ← e]
    rfl
  · obtain ⟨u, rfl⟩ : ∃ u : Nat, n = (u : Int) := ⟨n.natAbs, by omega⟩
    go_enter Tryz.func22, Tryz.ntmps22
    go_wp2_with (go_at_call 37; refine (Tryz.strconv_FormatInt_10 _ h0 h1 _ htab).mono ?_; rintro e w' ⟨rfl, k, os, rfl⟩)
    go_ret
    refine ⟨?_, Lib.below_grow _ _ (Nat.le_refl _) _ _⟩
    unfold numT
    rw [if_neg (by omega), Lib.itoa_nonneg]
    rfl
/-- What is left of a number, and the digits that stand already. -/
def RnI (u : Nat) (neg : Bool) (z : Int) (t : List UInt8) : Prop :=
  (if neg then z ≤ 0 else 0 ≤ z) ∧ z.natAbs ≤ u ∧ t.length ≤ 20 ∧ (t = [] ∧ z.natAbs = u ∨ t ≠ [] ∧ (z = 0 ∧ t = decDigits u ∨ z ≠ 0 ∧ decDigits z.natAbs ++ t = decDigits u))
theorem rni_step {u : Nat} (hu : u < 18446744073709551616) {neg : Bool} {z : Int} {t : List UInt8} (h : RnI u neg z t) (hz : ¬ (z = 0 ∧ t ≠ [])) : RnI u neg (z.tdiv 10) (UInt8.ofNat (48 + z.natAbs % 10) :: t) := by
  obtain ⟨h1, h2, h3, h4⟩ := h
  have hq : (z.tdiv 10).natAbs = z.natAbs / 10 := by rw [Int.natAbs_tdiv]; rfl
  have hd := dig_len u hu
  have key : (z.tdiv 10 = 0 ∧ UInt8.ofNat (48 + z.natAbs % 10) :: t = decDigits u ∨ z.tdiv 10 ≠ 0 ∧ decDigits (z.tdiv 10).natAbs ++ UInt8.ofNat (48 + z.natAbs % 10) :: t = decDigits u) := by
    have hdd : decDigits z.natAbs ++ t = decDigits u := by
      rcases h4 with ⟨rfl, h5⟩ | ⟨h5, h6⟩
      · rw [h5, List.append_nil]
      · rcases h6 with ⟨h6, -⟩ | ⟨-, h6⟩
        · exact absurd ⟨h6, h5⟩ hz
        · exact h6
    rw [← hdd, hq]
    by_cases hs : z.natAbs < 10
    · left
      refine ⟨by omega, ?_⟩
      rw [Lib.decDigits_one hs, Nat.mod_eq_of_lt hs]
      rfl
    · right
      refine ⟨by omega, ?_⟩
      rw [show decDigits z.natAbs = decDigits (z.natAbs / 10) ++ [UInt8.ofNat (48 + z.natAbs % 10)] by rw [decDigits, dif_neg hs]]
      simp
  refine ⟨?_, by omega, ?_, Or.inr ⟨by simp, key⟩⟩
  · cases neg
    · simp only [Bool.false_eq_true, if_false] at h1 ⊢
      exact Int.tdiv_nonneg h1 (by decide)
    · simp only [if_true] at h1 ⊢
      have : z.tdiv 10 = -((-z).tdiv 10) := by rw [Int.neg_tdiv]; omega
      have h9 := Int.tdiv_nonneg (a := -z) (b := 10) (by omega) (by decide)
      omega
  · rcases key with ⟨-, h5⟩ | ⟨-, h5⟩
    · rw [h5]; exact hd
    · have := congrArg List.length h5
      rw [List.length_append] at this
      omega
set_option maxHeartbeats 4000000 in
theorem rnum6 (n : Int) (m : ByteArray) (hm : m.size ≤ 140737488355328) (h0 : -9223372036854775808 ≤ n) (h1 : n ≤ 9223372036854775807) (w : World) :
    Calls Tryz.prog 29 #[.int .i64 n, .string m] w fun e w' => e = .returned (.string ⟨(numT n m.data.toList).toArray⟩) ∧ Below w.heap.size w w' := by
  obtain ⟨u, hu⟩ : ∃ u, u = n.natAbs := ⟨_, rfl⟩
  have hu64 : u < 18446744073709551616 := by omega
  obtain ⟨neg, hneg⟩ : ∃ neg, neg = decide (n < 0) := ⟨_, rfl⟩
  have HI0 : Hid (RnI u neg n []) := by
    refine ⟨?_, by omega, by simp, Or.inl ⟨rfl, hu.symm⟩⟩
    rw [hneg]
    by_cases h : n < 0
    · simp [h]; omega
    · simp [h]; omega
  have HLEN := hide (dig_len u hu64)
  go_enter Tryz.func29, Tryz.ntmps29
  go_wp2
  go_loopw [5, 6] (fun v i wr => ∃ (t : List UInt8) (z : Int), v = .string ⟨t.toArray⟩ ∧ i = .int .i64 z ∧ RnI u neg z t ∧ Below w.heap.size w wr) (fun v i _ => (match i with | .int _ z => z.natAbs | _ => 0) + (match v with | .string b => if b.size = 0 then 1 else 0 | _ => 0))
  case atStart => exact ⟨[], n, rfl, rfl, HI0.out, Below.refl _ _⟩
  case round =>
    obtain ⟨t, z, rfl, rfl, hI, hb⟩ := hrel
    have HI := hide hI
    have HB := hide hb
    by_cases hz : z = 0 ∧ t ≠ []
    · obtain ⟨rfl, ht⟩ := hz
      have hts : (({ data := t.toArray } : ByteArray) == { data := #[] }) = false := by
        cases t with
        | nil => exact absurd rfl ht
        | cons x r => rfl
      have hT : t = decDigits u := by
        rcases hI.2.2.2 with ⟨h5, -⟩ | ⟨-, h6⟩
        · exact absurd h5 ht
        · rcases h6 with ⟨-, h6⟩ | ⟨h6, -⟩
          · exact h6
          · exact absurd rfl h6
      have hte : t.isEmpty = false := by
        cases t with
        | nil => exact absurd rfl ht
        | cons x r => rfl
      have HT := hide hT
      have HU := hide hu
      have hlen : ¬ (9223372036854775807 < m.size + t.length) := by have := HLEN.out; rw [hT]; omega
      clear hI hb HI hT hu
      by_cases hn : n < 0
      · skip
        go_wp2
        go_ret
        refine ⟨?_, HB.out⟩
        have e := cat_l m t
        unfold numT
        rw [if_pos hn, ← HU.out, ← HT.out, ← e]
        rfl
      · have hn' : 0 ≤ n := by omega
        go_wp2
        go_ret
        refine ⟨?_, HB.out⟩
        unfold numT
        rw [if_neg (by omega), ← HU.out, ← HT.out]
        rfl
    · obtain ⟨D, hD⟩ : ∃ D, z.tmod 10 = D := ⟨_, rfl⟩
      obtain ⟨Q, hQ⟩ : ∃ Q, z.tdiv 10 = Q := ⟨_, rfl⟩
      obtain ⟨d, hd⟩ : ∃ d, z.natAbs % 10 = d := ⟨_, rfl⟩
      have hd10 : d < 10 := by omega
      have hDd : D.natAbs = d := by rw [← hD, Int.natAbs_tmod, ← hd]; rfl
      have hst := hide (rni_step hu64 hI hz)
      rw [hQ, hd] at hst
      have hwD : IntKind.i64.wrap D = D := IntWalk.i64_in _ ⟨by omega, by omega⟩
      have hwnD : IntKind.i64.wrap (-D) = -D := IntWalk.i64_in _ ⟨by omega, by omega⟩
      have hQz : Q.natAbs = z.natAbs / 10 := by rw [← hQ, Int.natAbs_tdiv]; rfl
      have hzu := hI.2.1
      have hwQ : IntKind.i64.wrap Q = Q := IntWalk.i64_in _ ⟨by omega, by omega⟩
      obtain ⟨c, hc⟩ : ∃ c, UInt8.ofNat (48 + d) = c := ⟨_, rfl⟩
      have hcn : (c.toNat : Int) = 48 + (d : Int) := by
        rw [← hc, UInt8.toNat_ofNat_of_lt' (by show 48 + d < 256; omega)]; omega
      rw [hc] at hst
      have hw48 : IntKind.i64.wrap (48 + (d : Int)) = 48 + (d : Int) := IntWalk.i64_in _ ⟨by omega, by omega⟩
      have hw8 : IntKind.u8.wrap (48 + (d : Int)) = 48 + (d : Int) := IntWalk.u8_in _ ⟨by omega, by omega⟩
      have hcv : (convert 65 9 (.slice (some ⟨wr.heap.size, 0, none⟩) 1 1)).run Tryz.prog (wr.alloc (.cells #[.int .u8 (48 + (d : Int))] 5)) = .ok (.string ⟨#[c]⟩) (wr.alloc (.cells #[.int .u8 (48 + (d : Int))] 5)) := by
        exact run_convert_bytes_back (P := Tryz.prog) _ 65 9 5 ⟨wr.heap.size, 0, none⟩ 1 [c] Tryz.underlying65 Tryz.underlying5 Tryz.underlying9 (fun j hj => by
          have h0 : j = 0 := by simpa using hj
          subst h0
          rw [Lib.add_plain]
          simp [hcn])
      have hlt := hI.2.2.1
      have hcat : (⟨#[c]⟩ : ByteArray) ++ ⟨t.toArray⟩ = ⟨(c :: t).toArray⟩ := cat_mk [c] t
      have hlen : ¬ (9223372036854775807 < 1 + t.length) := by omega
      have hdec : (!decide (z = 0)) = true ∨ t = [] := by
        by_cases h : z = 0
        · right; by_cases h2 : t = []; exact h2; exact absurd ⟨h, h2⟩ hz
        · left; simp [h]
      have hmz : (Q.natAbs + (if (c :: t).toArray.size = 0 then 1 else 0)) < z.natAbs + (if t.toArray.size = 0 then 1 else 0) := by
        simp only [List.size_toArray, List.length_cons]
        by_cases h : t = []
        · subst h; simp; omega
        · have h2 : z ≠ 0 := fun h3 => hz ⟨h3, h⟩
          have : ¬ t.length = 0 := fun h4 => h (List.eq_nil_of_length_eq_zero h4)
          simp [this]; omega
      have HMZ := hide hmz
      have HST := hst
      clear hI hb HI hst hmz hu hlt
      by_cases hz0 : z = 0
      · have ht : t = [] := hdec.resolve_left (by simp [hz0])
        subst hz0 ht
        have hD0 : D = 0 := by rw [← hD]; rfl
        have hd0 : d = 0 := by omega
        subst hD0 hd0
        have hcv0 : (convert 65 9 (.slice (some ⟨wr.heap.size, 0, none⟩) 1 1)).run Tryz.prog (wr.alloc (.cells #[.int .u8 48] 5)) = .ok (.string ⟨#[c]⟩) (wr.alloc (.cells #[.int .u8 48] 5)) := hcv
        clear hdec hz hcv hw48 hw8
        go_wp2
        exact ⟨⟨[c], Q, rfl, rfl, HST.out, HB.out.alloc HB.out.size _⟩, HMZ.out⟩
      · by_cases hneg : D < 0
        · have hDD : -D = (d : Int) := by omega
          rw [hDD] at hwnD
          clear hdec hz
          go_wp2
          exact ⟨⟨c :: t, Q, rfl, rfl, HST.out, HB.out.alloc HB.out.size _⟩, HMZ.out⟩
        · have hDD : D = (d : Int) := by omega
          subst hDD
          have hneg' : 0 ≤ (d : Int) := by omega
          clear hdec hz
          go_wp2
          exact ⟨⟨c :: t, Q, rfl, rfl, HST.out, HB.out.alloc HB.out.size _⟩, HMZ.out⟩
end Go.Proofs.YtneblkdkhlgmcaaGreatDoor
namespace Go.Proofs.YtneblkdkhlgmcaaGreatDoor
open Go.ChangeShapes Go.WideShapes Go.ChangeAt Go.RowKit
set_option maxRecDepth 100000
set_option linter.unusedVariables false
set_option linter.unusedSimpArgs false
/-- A grammar, as far as a writer reads it. -/
structure Gs where
  s1 : Value
  s2 : Value
  s3 : Value
  outer : ByteArray
  power : ByteArray
  opn : ByteArray
  cls : ByteArray
  left : ByteArray
  right : ByteArray
  minus : ByteArray
  quote : ByteArray
  trains : Bool
  lone : Bool
  square : Bool
def wC (G : Gs) (rt : ByteArray) (bg : Bool) (a v : Value) : Array Value :=
  #[G.s1, G.s2, G.s3, .string G.outer, .string G.power, .string G.opn, .string G.cls, .string G.left, .string G.right, .string G.minus, .string G.quote, .bool G.trains, .bool G.lone, .bool G.square, .string rt, .bool bg, a, v]
/-- Bytes in a block. -/
def isB5 (o : Option Obj) : Prop := ∃ cs fz, o = some (.cells cs 5 fz)
/-- What a call keeps that writes to the block p and to bytes of its own. -/
structure Wk (B p : Nat) (w w' : World) : Prop where
  bel : Below B w w'
  keep : ∀ k, k < w.heap.size → k ≠ p → ¬ isB5 w.heap[k]? → w'.heap[k]? = w.heap[k]?
theorem Wk.refl (B p : Nat) (w : World) : Wk B p w w := ⟨Below.refl _ _, fun _ _ _ _ => rfl⟩
theorem Wk.trans {B p : Nat} {a b c : World} (h : Wk B p a b) (k : Wk B p b c) : Wk B p a c :=
  ⟨h.bel.trans k.bel, fun i hi hp h5 => by
    have e := h.keep i hi hp h5
    rw [← e]
    exact k.keep i (Nat.lt_of_lt_of_le hi h.bel.size) hp (by rw [e]; exact h5)⟩
theorem Wk.of {B p : Nat} {w w' : World} (h : Below w.heap.size w w') (hB : B ≤ w.heap.size) : Wk B p w w' := ⟨h.mono hB, fun k hk _ _ => h.block k hk⟩
theorem Wk.cell {B p : Nat} {w w' : World} (h : Wk B p w w') {a : Addr} (hl : a.block < w.heap.size) (hp : a.block ≠ p) (h5 : ¬ isB5 w.heap[a.block]?) : w'.cell? a = w.cell? a := by
  have e := h.keep a.block hl hp h5
  unfold World.cell?
  rw [e]
theorem heap_set {w : World} {p k : Nat} {cs : Array Value} {T : TypeId} {fz : Nat × Nat} (h : w.heap[p]? = some (.cells cs T fz)) (u : Value) : (w.setCell ⟨p, k, none⟩ u).heap[p]? = some (.cells (cs.setIfInBounds k u) T fz) := by
  simp [World.setCell, Array.getElem?_modify, h]
theorem heap_other {w : World} {p k q : Nat} (u : Value) (hq : q ≠ p) : (w.setCell ⟨p, k, none⟩ u).heap[q]? = w.heap[q]? := Below.heap_setCell _ _ _ _ (fun e => hq (by simp [e]))
theorem lt_heap {w : World} {p : Nat} {o : Obj} (h : w.heap[p]? = some o) : p < w.heap.size := by
  rcases Nat.lt_or_ge p w.heap.size with h' | h'
  · exact h'
  · simp [Array.getElem?_eq_none h'] at h
/-- A writer in the block p: its grammar, what the right argument is called, whether a word stands there, its text. -/
structure Wr (B : Nat) (w : World) (p : Nat) (G : Gs) (rt : ByteArray) (bg : Bool) (out : List UInt8) (a v : Value) : Prop where
  hB : B ≤ p
  ha : a = .pointer none ∨ a = .pointer (some ⟨p, 16, none⟩)
  blk : w.heap[p]? = some (.cells (wC G rt bg a v) 80 (0, 0))
  own : w.ownsRow B 5 1 v out.length (Lib.byteCells out)
theorem Wr.lt {B : Nat} {w : World} {p : Nat} {G : Gs} {rt : ByteArray} {bg : Bool} {out : List UInt8} {a v : Value} (h : Wr B w p G rt bg out a v) : p < w.heap.size := lt_heap h.blk
theorem Wr.cells {B : Nat} {w : World} {p : Nat} {G : Gs} {rt : ByteArray} {bg : Bool} {out : List UInt8} {a v : Value} (h : Wr B w p G rt bg out a v) (k : Nat) (u : Value) (hk : (wC G rt bg a v)[k]? = some u) : w.cell? ⟨p, k, none⟩ = some u := by
  rw [Lib.cell_of_heap h.blk]; exact hk
/-- All cells of a writer. -/
theorem Wr.all {B : Nat} {w : World} {p : Nat} {G : Gs} {rt : ByteArray} {bg : Bool} {out : List UInt8} {a v : Value} (h : Wr B w p G rt bg out a v) :
    (w.cell? ⟨p, 3, none⟩ = some (.string G.outer) ∧ w.cell? ⟨p, 4, none⟩ = some (.string G.power) ∧ w.cell? ⟨p, 5, none⟩ = some (.string G.opn) ∧ w.cell? ⟨p, 6, none⟩ = some (.string G.cls) ∧ w.cell? ⟨p, 7, none⟩ = some (.string G.left) ∧ w.cell? ⟨p, 8, none⟩ = some (.string G.right)) ∧
    (w.cell? ⟨p, 9, none⟩ = some (.string G.minus) ∧ w.cell? ⟨p, 10, none⟩ = some (.string G.quote) ∧ w.cell? ⟨p, 12, none⟩ = some (.bool G.lone) ∧ w.cell? ⟨p, 14, none⟩ = some (.string rt)) ∧
    w.cell? ⟨p, 15, none⟩ = some (.bool bg) ∧ w.cell? ⟨p, 16, none⟩ = some a ∧ w.cell? ⟨p, 17, none⟩ = some v :=
  ⟨⟨h.cells 3 _ rfl, h.cells 4 _ rfl, h.cells 5 _ rfl, h.cells 6 _ rfl, h.cells 7 _ rfl, h.cells 8 _ rfl⟩, ⟨h.cells 9 _ rfl, h.cells 10 _ rfl, h.cells 12 _ rfl, h.cells 14 _ rfl⟩, h.cells 15 _ rfl, h.cells 16 _ rfl, h.cells 17 _ rfl⟩
theorem Wr.frozen {B : Nat} {w : World} {p : Nat} {G : Gs} {rt : ByteArray} {bg : Bool} {out : List UInt8} {a v : Value} (h : Wr B w p G rt bg out a v) (k : Nat) : w.frozen? ⟨p, k, none⟩ = false := Lib.frozen_of_heap h.blk k
theorem Wr.shape {B : Nat} {w : World} {p : Nat} {G : Gs} {rt : ByteArray} {bg : Bool} {out : List UInt8} {a v : Value} (h : Wr B w p G rt bg out a v) : w.shape? p = some (80, 18) := by
  simp [World.shape?, h.blk, wC]
theorem Wr.ne {B : Nat} {w : World} {p : Nat} {G : Gs} {rt : ByteArray} {bg : Bool} {out : List UInt8} {a v : Value} (h : Wr B w p G rt bg out a v) : v.ownBlock ≠ some p := Lib.ownBlock_ne h.own h.blk (by decide)
theorem Wr.next {B : Nat} {w w' : World} {p : Nat} {G : Gs} {rt : ByteArray} {bg : Bool} {out : List UInt8} {a v : Value} (h : Wr B w p G rt bg out a v) (hb : Below w.heap.size w w') : Wr B w' p G rt bg out a v :=
  ⟨h.hB, h.ha, (hb.block p h.lt).trans h.blk, h.own.kept (row := none) ⟨hb.os, hb.tape, hb.output, hb.size, fun k hk _ => hb.block k hk⟩ (by cases hv : v.ownBlock <;> simp)⟩
/-- A store into the block: one of the first sixteen cells. -/
theorem Wr.own_set {B : Nat} {w : World} {p : Nat} {G : Gs} {rt : ByteArray} {bg : Bool} {out : List UInt8} {a v : Value} (h : Wr B w p G rt bg out a v) (k : Nat) (u : Value) : (w.setCell ⟨p, k, none⟩ u).ownsRow B 5 1 v out.length (Lib.byteCells out) :=
  h.own.kept (row := some p) ⟨rfl, rfl, rfl, by simp [World.setCell], fun q _ hk => heap_other u (fun e => hk (by simp [e]))⟩ (Or.inr h.ne)
theorem Wr.wk_set {B : Nat} {w : World} {p : Nat} (hB : B ≤ p) (k : Nat) (u : Value) : Wk B p w (w.setCell ⟨p, k, none⟩ u) :=
  ⟨(Below.refl B w).setCell (p := ⟨p, k, none⟩) hB _, fun q _ hq _ => heap_other u hq⟩
theorem sz58 : (Tryz.prog.info? 78).map (·.size) = some 2 := by kernel_rfl
theorem lies58 : liesAt Tryz.prog Tryz.prog.depth 80 (18 / Tryz.prog.cellsOf 80) 16 78 1 = true := by kernel_rfl
set_option maxHeartbeats 1000000 in
theorem copy89 {B : Nat} {w : World} {p : Nat} {G : Gs} {rt : ByteArray} {bg : Bool} {out : List UInt8} {a v : Value} (h : Wr B w p G rt bg out a v) :
    Calls Tryz.prog 134 #[.pointer (some ⟨p, 16, none⟩)] w fun e w' => e = .returned (.tuple #[]) ∧ Wr B w' p G rt bg out (.pointer (some ⟨p, 16, none⟩)) v ∧ Wk B p w w' ∧ (∀ k, k ≠ p → w'.heap[k]? = w.heap[k]?) ∧ w'.heap.size = w.heap.size := by
  obtain ⟨j, hj, hjs⟩ := Option.map_eq_some_iff.1 sz58
  rcases h.ha with rfl | rfl
  · have h0 := h.all.2.2.2.1
    have hfz := h.frozen 16
    have hsh := h.shape
    have HH := hide h
    clear h
    go_enter Tryz.func134, Tryz.ntmps134
    go_wp2
    rw [Lib.run_to_unsafe w ⟨p, 16, none⟩ Tryz.underlying76 Tryz.underlying171 hj (by rw [hjs]; decide) hsh (by show 16 < 18; decide)]
    simp only [Result.andThen]
    rw [Oper.upon_value]
    go_wp2
    rw [run_callFunc_extern Tryz.func140 (by kernel_rfl) (by kernel_rfl) (by kernel_rfl) (e := Extern.AbiNoEscape.same) (by kernel_rfl)]
    rw [Lib.run_noEscape]
    simp only [Result.andThen]
    rw [Oper.upon_value]
    go_wp2
    rw [Lib.run_from_unsafe w ⟨p, 16, none⟩ Tryz.underlying171 Tryz.underlying76 hj hsh lies58]
    simp only [Result.andThen]
    rw [Oper.upon_value]
    go_wp2
    go_end0
    refine ⟨rfl, ⟨HH.out.hB, Or.inr rfl, heap_set HH.out.blk _, HH.out.own_set 16 _⟩, Wr.wk_set HH.out.hB _ _, fun k hk => heap_other _ hk, by simp⟩
  · have h0 := h.all.2.2.2.1
    have HH := hide h
    clear h
    go_enter Tryz.func134, Tryz.ntmps134
    go_wp2
    rw [Lib.run_neq_ptr_same w _ Tryz.underlying76 hj]
    go_wp2
    go_end0
    exact ⟨rfl, HH.out, Wk.refl _ _ _, fun _ _ => rfl, rfl⟩
theorem info5 : (Tryz.prog.info? 5).map (fun i => (i.zero, i.size, i.bytes)) = some (some (.int .u8 0), 1, 1) := by kernel_rfl
set_option maxHeartbeats 2000000 in
theorem write79 {B : Nat} {w : World} {p : Nat} {G : Gs} {rt : ByteArray} {bg : Bool} {out : List UInt8} {a v : Value} (h : Wr B w p G rt bg out a v) (s : ByteArray) (hl : out.length + s.size ≤ 140737488355328) :
    Calls Tryz.prog 115 #[.pointer (some ⟨p, 16, none⟩), .string s] w fun e w' => ∃ r, e = .returned r ∧ (∃ a' v', Wr B w' p G rt bg (out ++ s.data.toList) a' v') ∧ Wk B p w w' := by
  obtain ⟨i0, hi, hz0, hz1, hz2⟩ := info_parts info5
  have HC := hide (copy89 h)
  clear h
  go_enter Tryz.func115, Tryz.ntmps115
  go_wp2_with fail
  refine HC.out.mono ?_
  rintro e w1 ⟨rfl, h1, k1, -, -⟩
  have c17 := h1.all.2.2.2.2
  have hBw : B ≤ w1.heap.size := Nat.le_trans h1.hB (Nat.le_of_lt h1.lt)
  have hown := h1.own
  have H1 := hide h1
  have K1 := hide k1
  clear h1 k1 HC
  go_wp2_with (at_builtin; refine Lib.wpList_append_own_string _ rfl _ _ 65 9 rfl B 5 i0 Tryz.underlying65 Tryz.underlying9 hi hz0 hz1 hz2 _ _ _ rfl hown s rfl ?c3 ?c4 ?c5 ?_)
  case c3 => unfold maxLen; omega
  case c4 => omega
  case c5 => exact hBw
  intro v' w2 hown' hgrow _
  have hb2 : w2.heap[p]? = some (.cells (wC G rt bg (.pointer (some ⟨p, 16, none⟩)) v) 80 (0, 0)) := by
    rw [hgrow.block p H1.out.lt (fun e => H1.out.ne e.symm)]
    exact H1.out.blk
  have d17 : w2.cell? ⟨p, 17, none⟩ = some v := by rw [Lib.cell_of_heap hb2]; rfl
  have f17 : w2.frozen? ⟨p, 17, none⟩ = false := Lib.frozen_of_heap hb2 17
  obtain ⟨ao, n', cap, rfl⟩ : ∃ ao n' cap, v' = .slice ao n' cap := by
    rcases hown'.2 with ⟨hv, _⟩ | ⟨g, cap, cur, hv, _⟩
    · exact ⟨_, _, _, hv⟩
    · exact ⟨_, _, _, hv⟩
  have HG := hide hgrow
  have HO := hide hown'
  have HB2 := hide hb2
  clear hgrow hown' hown hb2
  go_wp2
  go_ret2
  have hne := Lib.ownBlock_ne HO.out HB2.out (by decide)
  refine ⟨_, rfl, ⟨.pointer (some ⟨p, 16, none⟩), .slice ao n' cap, H1.out.hB, Or.inr rfl, heap_set HB2.out _, ?_⟩, K1.out.trans ⟨?_, ?_⟩⟩
  · have h := HO.out.kept (w' := w2.setCell ⟨p, 17, none⟩ (.slice ao n' cap)) (row := some p) ⟨rfl, rfl, rfl, by simp [World.setCell], fun q _ hk => heap_other _ (fun e => hk (by simp [e]))⟩ (Or.inr hne)
    rw [Lib.byteCells_append, List.length_append]
    exact h
  · exact ((Below.refl B w1).grown HG.out hBw (fun k hk => (H1.out.own.lt k hk).1)).setCell (p := ⟨p, 17, none⟩) H1.out.hB _
  · intro q hq hqp h5
    rw [heap_other _ hqp]
    refine HG.out.block q hq (fun e => h5 ?_)
    rcases H1.out.own.2 with ⟨rfl, -⟩ | ⟨g, cap, cur, rfl, -, hg, -⟩
    · cases e
    · cases e; exact ⟨_, _, hg⟩
end Go.Proofs.YtneblkdkhlgmcaaGreatDoor
namespace Go.Proofs.YtneblkdkhlgmcaaGreatDoor
open Go.ChangeShapes Go.WideShapes Go.ChangeAt Go.RowKit
set_option maxRecDepth 100000
set_option linter.unusedVariables false
set_option linter.unusedSimpArgs false
theorem alloc_one (w : World) (o : Obj) : Below w.heap.size w (w.alloc o) := (Below.refl _ _).alloc (Nat.le_refl _) _
/-- Words in a row that a writer does not touch. -/
def StrR (p : Nat) (w : World) (ad : Option Addr) (ws : List ByteArray) : Prop :=
  ws.length ≤ 1000000 ∧ ∀ j, j < ws.length → ∃ b off, ad = some ⟨b, off, none⟩ ∧ b < w.heap.size ∧ b ≠ p ∧ ¬ isB5 w.heap[b]? ∧ w.cell? ⟨b, off + j, none⟩ = some (.string (ws[j]?.getD ⟨#[]⟩))
/-- The bytes of words. -/
def fl (ws : List ByteArray) : List UInt8 := ws.flatMap fun s => s.data.toList
theorem fl_append (a b : List ByteArray) : fl (a ++ b) = fl a ++ fl b := by simp [fl]
theorem take_snoc {ws : List ByteArray} {j : Nat} (h : j < ws.length) : ws.take (j + 1) = ws.take j ++ [ws[j]?.getD ⟨#[]⟩] := by
  rw [List.take_succ_eq_append_getElem h, List.getElem?_eq_getElem h]; rfl
/-- What a call that writes tells. -/
def GvT (B p : Nat) (G : Gs) (rt : ByteArray) (bg : Bool) (out : List UInt8) (w : World) (e : Ending) (w' : World) : Prop :=
  e = .returned (.tuple #[]) ∧ (∃ a v, Wr B w' p G rt bg out a v) ∧ Wk B p w w'
theorem fl_take_le (ws : List ByteArray) (j : Nat) : (fl (ws.take j)).length ≤ (fl ws).length := by
  have h := congrArg (fun l => (fl l).length) (List.take_append_drop j ws)
  simp only [fl_append, List.length_append] at h
  omega
set_option maxHeartbeats 2000000 in
theorem glue62 {B : Nat} {w : World} {p : Nat} {G : Gs} {rt : ByteArray} {bg : Bool} {out : List UInt8} {a v : Value} (h : Wr B w p G rt bg out a v) {ad : Option Addr} {ws : List ByteArray} (c : Nat) (hr : StrR p w ad ws) (hl : out.length + (fl ws).length ≤ 140737488355328) :
    Calls Tryz.prog 88 #[.pointer (some ⟨p, 0, none⟩), .slice ad ws.length c] w (GvT B p G rt bg (out ++ fl ws) w) := by
  have HH := hide h
  have HR := hide hr
  have hn := hr.1
  clear h hr
  go_enter Tryz.func88, Tryz.ntmps88
  go_wp2
  go_loopw [8] (fun i wr => ∃ j : Nat, j ≤ ws.length ∧ i = .int .i64 j ∧ (∃ a' v', Wr B wr p G rt bg (out ++ fl (ws.take j)) a' v') ∧ Wk B p w wr) (fun i _ => ws.length - (match i with | .int _ z => z.toNat | _ => 0))
  case atStart => exact ⟨0, Nat.zero_le _, rfl, ⟨a, v, by simpa [fl] using HH.out⟩, Wk.refl _ _ _⟩
  case round =>
    obtain ⟨j, hj, rfl, ⟨a', v', hw⟩, hk⟩ := hrel
    have HW := hide hw
    have HK := hide hk
    by_cases hlt : j < ws.length
    · obtain ⟨b, off, rfl, hb, hbp, h5, hc⟩ := HR.out.2 j hlt
      have hcw := (hk.cell (a := ⟨b, off + j, none⟩) hb hbp h5).trans hc
      obtain ⟨s, hs⟩ : ∃ s, ws[j]?.getD ⟨#[]⟩ = s := ⟨_, rfl⟩
      rw [hs] at hcw
      have hle := fl_take_le ws (j + 1)
      rw [take_snoc hlt, hs, fl_append, List.length_append] at hle
      have hfs : fl [s] = s.data.toList := by simp [fl]
      rw [hfs] at hle
      have hsz : s.data.toList.length = s.size := by simp
      have HC := hide (write79 hw s (by rw [List.length_append]; omega))
      have HE : Hid (out ++ fl (ws.take (j + 1)) = out ++ fl (ws.take j) ++ s.data.toList) := hide (by rw [take_snoc hlt, hs, fl_append, hfs, List.append_assoc])
      clear hw hk hc hle hfs hsz hs
      go_wp2_with fail
      refine HC.out.mono ?_
      rintro e w2 ⟨r, rfl, ⟨a2, v2, hw2⟩, hk2⟩
      have HW2 := hide hw2
      have HK2 := hide hk2
      clear hw2 hk2 HC
      go_wp2
      refine ⟨⟨j + 1, by omega, by go_num, ⟨a2, v2, by rw [HE.out]; exact HW2.out⟩, HK.out.trans HK2.out⟩, ?_⟩
      show ws.length - _ < ws.length - _
      simp
      omega
    · have hje : j = ws.length := by omega
      subst hje
      rw [List.take_length] at HW
      clear hw hk
      go_wp2
      go_end0
      exact ⟨rfl, ⟨a', v', HW.out⟩, HK.out⟩
theorem StrR.one {p : Nat} {w : World} (hp : p < w.heap.size) (s : ByteArray) : StrR p (w.alloc (.cells #[.string s] 9)) (some ⟨w.heap.size, 0, none⟩) [s] :=
  ⟨by simp, fun j hj => by
    have h0 : j = 0 := by simpa using hj
    subst h0
    refine ⟨w.heap.size, 0, rfl, by simp, by omega, ?_, by simp⟩
    rintro ⟨cs, fz, h⟩
    rw [heap_alloc_new] at h
    cases h⟩
/-- Words, each with a blank ahead, if one stands there. -/
def pT : Bool → List ByteArray → List UInt8
  | _, [] => []
  | bg, s :: r => (if bg then [32] else []) ++ s.data.toList ++ pT true r
theorem pT_snoc (bg : Bool) (l : List ByteArray) (s : ByteArray) : pT bg (l ++ [s]) = pT bg l ++ ((if bg || !l.isEmpty then [32] else []) ++ s.data.toList) := by
  induction l generalizing bg with
  | nil => simp [pT]
  | cons x r ih => simp [pT, ih]
theorem pT_take_le (bg : Bool) (ws : List ByteArray) (j : Nat) : (pT bg (ws.take j)).length ≤ (pT bg ws).length := by
  induction ws generalizing bg j with
  | nil => simp
  | cons x r ih =>
    cases j with
    | zero => simp [pT]
    | succ j =>
      simp only [List.take_succ_cons, pT, List.length_append]
      have := ih true j
      omega
theorem Wr.begin {B : Nat} {w : World} {p : Nat} {G : Gs} {rt : ByteArray} {bg : Bool} {out : List UInt8} {a v : Value} (h : Wr B w p G rt bg out a v) : Wr B (w.setCell ⟨p, 15, none⟩ (.bool true)) p G rt true out a v :=
  ⟨h.hB, h.ha, by rw [heap_set h.blk]; rfl, h.own_set 15 _⟩
set_option maxHeartbeats 4000000 in
theorem put58 {B : Nat} {w : World} {p : Nat} {G : Gs} {rt : ByteArray} {bg : Bool} {out : List UInt8} {a v : Value} (h : Wr B w p G rt bg out a v) {ad : Option Addr} {ws : List ByteArray} (c : Nat) (hr : StrR p w ad ws) (hl : out.length + (pT bg ws).length ≤ 140737488355328) :
    Calls Tryz.prog 51 #[.pointer (some ⟨p, 0, none⟩), .slice ad ws.length c] w (GvT B p G rt (bg || !ws.isEmpty) (out ++ pT bg ws) w) := by
  have HH := hide h
  have HR := hide hr
  have hn := hr.1
  clear h hr
  go_enter Tryz.func51, Tryz.ntmps51
  go_wp2
  go_loopw [8] (fun i wr => ∃ j : Nat, j ≤ ws.length ∧ i = .int .i64 j ∧ (∃ a' v', Wr B wr p G rt (bg || !(ws.take j).isEmpty) (out ++ pT bg (ws.take j)) a' v') ∧ Wk B p w wr) (fun i _ => ws.length - (match i with | .int _ z => z.toNat | _ => 0))
  case atStart => exact ⟨0, Nat.zero_le _, rfl, ⟨a, v, by simpa [pT] using HH.out⟩, Wk.refl _ _ _⟩
  case round =>
    obtain ⟨j, hj, rfl, ⟨a', v', hw⟩, hk⟩ := hrel
    have HK := hide hk
    by_cases hlt : j < ws.length
    · obtain ⟨b, off, rfl, hb, hbp, h5, hc⟩ := HR.out.2 j hlt
      have hcw := (hk.cell (a := ⟨b, off + j, none⟩) hb hbp h5).trans hc
      obtain ⟨s, hs⟩ : ∃ s, ws[j]?.getD ⟨#[]⟩ = s := ⟨_, rfl⟩
      rw [hs] at hcw
      have hle := pT_take_le bg ws (j + 1)
      rw [take_snoc hlt, hs, pT_snoc, List.length_append] at hle
      have hsz : s.data.toList.length = s.size := by simp
      have hne : (ws.take (j + 1)).isEmpty = false := by rw [take_snoc hlt]; simp
      have HE : Hid (out ++ pT bg (ws.take (j + 1)) = out ++ pT bg (ws.take j) ++ ((if bg || !(ws.take j).isEmpty then [32] else []) ++ s.data.toList)) := hide (by rw [take_snoc hlt, hs, pT_snoc, List.append_assoc])
      obtain ⟨o1, ho1⟩ : ∃ o1, out ++ pT bg (ws.take j) = o1 := ⟨_, rfl⟩
      have hlo : o1.length = out.length + (pT bg (ws.take j)).length := by rw [← ho1, List.length_append]
      rw [ho1] at hw HE
      have HNE := hide hne
      clear hk hc hs hne ho1
      have hfl : fl [s] = s.data.toList := by simp [fl]
      cases hbt : (bg || !(ws.take j).isEmpty) with
      | true =>
        rw [hbt] at hw HE hle
        simp only [if_true, List.length_append, List.length_cons, List.length_nil] at hle
        have c15 := hw.all.2.2.1
        have HG1 := hide (glue62 (hw.next (alloc_one wr (.cells #[.string ⟨#[32]⟩] 9))) 1 (StrR.one hw.lt ⟨#[32]⟩) (by show o1.length + 1 ≤ _; omega))
        have HKA := hide (Wk.of (B := B) (p := p) (alloc_one wr (.cells #[.string ⟨#[32]⟩] 9)) (Nat.le_trans hw.hB (Nat.le_of_lt hw.lt)))
        have HLT := hide hw.lt
        clear hw
        go_wp2_with fail
        refine HG1.out.mono ?_
        rintro e w2 ⟨rfl, ⟨a2, v2, hw2⟩, hk2⟩
        have HG2 := hide (glue62 (hw2.next (alloc_one w2 (.cells #[.string s] 9))) 1 (StrR.one hw2.lt s) (by rw [hfl, List.length_append]; show o1.length + 1 + _ ≤ _; omega))
        have HKB := hide (Wk.of (B := B) (p := p) (alloc_one w2 (.cells #[.string s] 9)) (Nat.le_trans hw2.hB (Nat.le_of_lt hw2.lt)))
        have HK2 := hide hk2
        clear hw2 hk2 HG1
        go_wp2_with fail
        refine HG2.out.mono ?_
        rintro e w3 ⟨rfl, ⟨a3, v3, hw3⟩, hk3⟩
        have f15 := hw3.frozen 15
        have c15' := hw3.all.2.2.1
        have HW3 := hide hw3
        have HK3 := hide hk3
        have hl3 := hw3.lt
        clear hw3 hk3 HG2
        go_wp2
        refine ⟨⟨j + 1, by omega, by go_num, ⟨a3, v3, ?_⟩, ?_⟩, ?_⟩
        · rw [HNE.out, HE.out]
          have h9 := HW3.out.begin
          rw [hfl] at h9
          simpa [fl, List.append_assoc] using h9
        · exact ((((HK.out.trans HKA.out).trans HK2.out).trans HKB.out).trans HK3.out).trans (Wr.wk_set HW3.out.hB 15 _)
        · show ws.length - _ < ws.length - _
          simp
          omega
      | false =>
        rw [hbt] at hw HE hle
        simp only [Bool.false_eq_true, if_false, List.length_append, List.nil_append] at hle
        have c15 := hw.all.2.2.1
        have HG2 := hide (glue62 (hw.next (alloc_one wr (.cells #[.string s] 9))) 1 (StrR.one hw.lt s) (by rw [hfl]; omega))
        have HKB := hide (Wk.of (B := B) (p := p) (alloc_one wr (.cells #[.string s] 9)) (Nat.le_trans hw.hB (Nat.le_of_lt hw.lt)))
        have HLT := hide hw.lt
        clear hw
        go_wp2_with fail
        refine HG2.out.mono ?_
        rintro e w3 ⟨rfl, ⟨a3, v3, hw3⟩, hk3⟩
        have f15 := hw3.frozen 15
        have c15' := hw3.all.2.2.1
        have HW3 := hide hw3
        have HK3 := hide hk3
        have hl3 := hw3.lt
        clear hw3 hk3 HG2
        go_wp2
        refine ⟨⟨j + 1, by omega, by go_num, ⟨a3, v3, ?_⟩, ?_⟩, ?_⟩
        · rw [HNE.out, HE.out]
          have h9 := HW3.out.begin
          rw [hfl] at h9
          simpa [fl, List.append_assoc] using h9
        · exact ((HK.out.trans HKB.out).trans HK3.out).trans (Wr.wk_set HW3.out.hB 15 _)
        · show ws.length - _ < ws.length - _
          simp
          omega
    · have hje : j = ws.length := by omega
      subst hje
      rw [List.take_length] at hw
      have HW := hide hw
      clear hw hk
      go_wp2
      go_end0
      exact ⟨rfl, ⟨a', v', HW.out⟩, HK.out⟩
end Go.Proofs.YtneblkdkhlgmcaaGreatDoor
namespace Go.Proofs.YtneblkdkhlgmcaaGreatDoor
open Go.ChangeShapes Go.WideShapes Go.ChangeAt Go.RowKit
set_option maxRecDepth 100000
set_option linter.unusedVariables false
set_option linter.unusedSimpArgs false
theorem us_none (W : World) (q : Option Addr) : (Builtin.unsafeString_ #[107, 3] 9 #[.pointer q, .int .i64 0]).run Tryz.prog W = .ok (.string .empty) W :=
  Lib.run_unsafeString_none W _ _ _ q
theorem cells5 : Tryz.prog.cellsOf 5 = 1 := by kernel_rfl
set_option maxHeartbeats 2000000 in
theorem str_nil (B p : Nat) (w : World) (c1 : w.drew.cell? ⟨p, 17, none⟩ = some (.slice none 0 0)) :
    Calls Tryz.prog 35 #[.pointer (some ⟨p, 16, none⟩)] w fun e w' => e = .returned (.string ⟨#[]⟩) ∧ Below B w w' := by
  have hUS := us_none
  have hSD : (Builtin.unsafeSliceData_ #[65] 107 #[.slice none 0 0]).run Tryz.prog w.drew = .ok (.pointer none) w.drew := rfl
  go_enter Tryz.func35, Tryz.ntmps35
  go_wp2
  go_region_held3 (fun W => W.cell? ⟨p, 17, none⟩ = some (.slice none 0 0)) (first | exact c1 | assumption) (fail)
  all_goals (go_wp2; go_ret; exact ⟨rfl, Below.drew (Below.refl B w)⟩)
set_option maxHeartbeats 2000000 in
theorem str_noroom (B p g : Nat) (cur : Array Value) (w : World) (hBw : B ≤ w.heap.size) (hp : p < w.heap.size) (c1 : w.drew.cell? ⟨p, 17, none⟩ = some (.slice (some ⟨g, 0, none⟩) 0 0)) (hg : w.heap[g]? = some (.cells cur 5 (0, 0))) :
    Calls Tryz.prog 35 #[.pointer (some ⟨p, 16, none⟩)] w fun e w' => e = .returned (.string ⟨#[]⟩) ∧ Below B w w' := by
  have hUS := us_none
  have hSD : (Builtin.unsafeSliceData_ #[65] 107 #[.slice (some ⟨g, 0, none⟩) 0 0]).run Tryz.prog w.drew = .ok (.pointer (some ⟨w.drew.heap.size, 0, none⟩)) (w.drew.alloc (.view ⟨g, 0, none⟩ 5)) :=
    Lib.run_unsafeSliceData_zero w.drew _ _ 5 Tryz.underlying107 ⟨g, 0, none⟩ 0 (5, cur.size) (by have hg' : w.drew.heap[g]? = some (.cells cur 5 (0, 0)) := hg; simp [World.shape?, hg'])
  have c2 : (w.drew.alloc (.view ⟨g, 0, none⟩ 5)).cell? ⟨p, 17, none⟩ = some (.slice (some ⟨g, 0, none⟩) 0 0) := by
    have h : (w.drew.alloc (.view ⟨g, 0, none⟩ 5)).heap[p]? = w.drew.heap[p]? := Lib.alloc_old w.drew _ p hp
    rw [← c1]
    unfold World.cell?
    rw [h]
  have c3 : (w.alloc (.view ⟨g, 0, none⟩ 5)).drew.cell? ⟨p, 17, none⟩ = some (.slice (some ⟨g, 0, none⟩) 0 0) := c2
  have c0 : w.cell? ⟨p, 17, none⟩ = some (.slice (some ⟨g, 0, none⟩) 0 0) := c1
  go_enter Tryz.func35, Tryz.ntmps35
  go_wp2
  go_region_held3 (fun W => W.cell? ⟨p, 17, none⟩ = some (.slice (some ⟨g, 0, none⟩) 0 0)) (first | exact c1 | exact c2 | assumption) (fail)
  all_goals (go_wp2; go_ret; exact ⟨rfl, (Below.drew (Below.refl B w)).alloc hBw _⟩)
set_option maxHeartbeats 2000000 in
theorem str_room (B p g cap : Nat) (w : World) (hc0 : cap ≠ 0) (c1 : w.drew.cell? ⟨p, 17, none⟩ = some (.slice (some ⟨g, 0, none⟩) 0 cap)) :
    Calls Tryz.prog 35 #[.pointer (some ⟨p, 16, none⟩)] w fun e w' => e = .returned (.string ⟨#[]⟩) ∧ Below B w w' := by
  have hUS := us_none
  have hSD : (Builtin.unsafeSliceData_ #[65] 107 #[.slice (some ⟨g, 0, none⟩) 0 cap]).run Tryz.prog w.drew = .ok (.pointer (some ⟨g, 0, none⟩)) w.drew :=
    Lib.run_unsafeSliceData_row _ _ _ _ _ _ hc0
  clear hc0
  go_enter Tryz.func35, Tryz.ntmps35
  go_wp2
  go_region_held3 (fun W => W.cell? ⟨p, 17, none⟩ = some (.slice (some ⟨g, 0, none⟩) 0 cap)) (first | exact c1 | assumption) (fail)
  all_goals (go_wp2; go_ret; exact ⟨rfl, Below.drew (Below.refl B w)⟩)
set_option maxHeartbeats 2000000 in
theorem str_some {B p : Nat} {l : List UInt8} {w : World} {v : Value} (hown : w.ownsRow B 5 1 v l.length (Lib.byteCells l)) (h0 : l ≠ []) (hne : v.ownBlock ≠ some p) (c17 : w.cell? ⟨p, 17, none⟩ = some v) :
    Calls Tryz.prog 35 #[.pointer (some ⟨p, 16, none⟩)] w fun e w' => e = .returned (.string ⟨l.toArray⟩) ∧ Below B w w' := by
  have hl0 : l.length ≠ 0 := by simpa using h0
  obtain ⟨g, cap, cur, rfl, hbg, hg, hnc, hcm, hcs, htake⟩ : ∃ g cap cur, v = .slice (some ⟨g, 0, none⟩) l.length cap ∧ B ≤ g ∧ w.heap[g]? = some (.cells cur 5 (0, 0)) ∧ l.length ≤ cap ∧ cap ≤ maxLen ∧ cur.size = cap * 1 ∧ cur.toList.take (l.length * 1) = Lib.byteCells l := by
    rcases hown.2 with ⟨_, hz⟩ | ⟨g, cap, cur, hv, r⟩
    · exact absurd hz hl0
    · exact ⟨g, cap, cur, hv, r⟩
  have c1 : w.drew.cell? ⟨p, 17, none⟩ = some (.slice (some ⟨g, 0, none⟩) l.length cap) := c17
  have hSD : (Builtin.unsafeSliceData_ #[65] 107 #[.slice (some ⟨g, 0, none⟩) l.length cap]).run Tryz.prog w.drew = .ok (.pointer (some ⟨g, 0, none⟩)) w.drew :=
    Lib.run_unsafeSliceData_row _ _ _ _ _ _ (by omega)
  have hUS : (Builtin.unsafeString_ #[107, 3] 9 #[.pointer (some ⟨g, 0, none⟩), .int .i64 l.length]).run Tryz.prog w.drew = .ok (.string ⟨l.toArray⟩) (w.drew.freeze ⟨g, 0, none⟩ l.length) := by
    refine Lib.run_unsafeString_row w.drew 107 3 9 5 Tryz.underlying107 cells5 g cur.size (by have hg' : w.drew.heap[g]? = some (.cells cur 5 (0, 0)) := hg; simp [World.shape?, hg']) l h0 (by omega) (by unfold maxLen at hcm; omega) ?_
    intro j x hx
    have := hown.cells (g := g) rfl j (.int .u8 x.toNat) (by simp [Lib.byteCells, hx])
    exact this
  have cf : (w.drew.freeze ⟨g, 0, none⟩ l.length).cell? ⟨p, 17, none⟩ = some (.slice (some ⟨g, 0, none⟩) l.length cap) := by
    have hgp : g ≠ p := fun e => hne (by rw [e]; rfl)
    have hh : (w.drew.freeze ⟨g, 0, none⟩ l.length).heap[p]? = w.drew.heap[p]? := by
      unfold World.freeze
      split
      · rfl
      · simp only [Array.getElem?_modify]
        rw [if_neg hgp]
    rw [← c1]
    simp only [World.cell?, hh]
  go_enter Tryz.func35, Tryz.ntmps35
  go_wp2
  go_region_held3 (fun W => W.cell? ⟨p, 17, none⟩ = some (.slice (some ⟨g, 0, none⟩) l.length cap)) (first | exact c1 | exact cf | assumption) (fail)
  all_goals (go_wp2; go_ret; exact ⟨rfl, Lib.below_freeze (Below.drew (Below.refl B w)) (p := ⟨g, 0, none⟩) hbg _⟩)
theorem string26 {B : Nat} {w : World} {p : Nat} {G : Gs} {rt : ByteArray} {bg : Bool} {out : List UInt8} {a v : Value} (h : Wr B w p G rt bg out a v) :
    Calls Tryz.prog 35 #[.pointer (some ⟨p, 16, none⟩)] w fun e w' => e = .returned (.string ⟨out.toArray⟩) ∧ Below B w w' := by
  by_cases h0 : out = []
  · subst h0
    have c17 := h.all.2.2.2.2
    rcases h.own.2 with ⟨rfl, -⟩ | ⟨g, cap, cur, rfl, hbg, hg, -, -, -, -⟩
    · exact str_nil B p w c17
    · by_cases hc0 : cap = 0
      · subst hc0
        exact str_noroom B p g cur w (Nat.le_trans h.hB (Nat.le_of_lt h.lt)) h.lt c17 hg
      · exact str_room B p g cap w hc0 c17
  · exact str_some h.own h0 h.ne h.all.2.2.2.2
end Go.Proofs.YtneblkdkhlgmcaaGreatDoor
namespace Go.Proofs.YtneblkdkhlgmcaaGreatDoor
open Go.ChangeShapes Go.WideShapes Go.ChangeAt Go.RowKit
set_option maxRecDepth 100000
set_option linter.unusedVariables false
def Good (z : Int) : Prop := (0 ≤ z ∧ z < 55296) ∨ (57343 < z ∧ z < 1114112)
instance (z : Int) : Decidable (Good z) := inferInstanceAs (Decidable (_ ∨ _))
set_option maxHeartbeats 1000000 in
theorem validRune_any (z : Int) (w : World) : Calls Tryz.prog 139 #[.int .i32 z] w fun e w' => e = .returned (.bool (decide (Good z))) ∧ w' = w := by
  by_cases h1 : z < 0
  · have hr : decide (Good z) = false := decide_eq_false (by unfold Good; omega)
    rw [hr]
    clear hr
    have : ¬ 0 ≤ z := by omega
    have : ¬ 57343 < z := by omega
    go_enter Tryz.func139, Tryz.ntmps139
    go_wp2
    go_ret
    exact ⟨rfl, rfl⟩
  · have h1' : 0 ≤ z := by omega
    clear h1
    by_cases h2 : z < 55296
    · have hr : decide (Good z) = true := decide_eq_true (by unfold Good; omega)
      rw [hr]
      clear hr
      go_enter Tryz.func139, Tryz.ntmps139
      go_wp2
      go_ret
      exact ⟨rfl, rfl⟩
    · by_cases h3 : 57343 < z
      · by_cases h4 : z ≤ 1114111
        · have hr : decide (Good z) = true := decide_eq_true (by unfold Good; omega)
          rw [hr]
          clear hr
          go_enter Tryz.func139, Tryz.ntmps139
          go_wp2
          go_ret
          exact ⟨rfl, rfl⟩
        · have hr : decide (Good z) = false := decide_eq_false (by unfold Good; omega)
          rw [hr]
          clear hr
          go_enter Tryz.func139, Tryz.ntmps139
          go_wp2
          go_ret
          exact ⟨rfl, rfl⟩
      · have hr : decide (Good z) = false := decide_eq_false (by unfold Good; omega)
        rw [hr]
        clear hr
        go_enter Tryz.func139, Tryz.ntmps139
        go_wp2
        go_ret
        exact ⟨rfl, rfl⟩
set_option maxHeartbeats 1000000 in
theorem isSign_any (z : Int) (w : World) : Calls Tryz.prog 132 #[.int .i64 z] w fun e w' => e = .returned (.bool (decide (Good z))) ∧ w' = w := by
  have C := validRune_any (wrap32 z) w
  by_cases h : -2147483648 ≤ z ∧ z ≤ 2147483647
  · have hw : wrap32 z = z := by unfold wrap32; omega
    rw [hw] at C
    clear hw
    obtain ⟨h1, h2⟩ := h
    go_enter Tryz.func132, Tryz.ntmps132
    go_wp2_with (go_at_call 139; refine C.mono ?_; rintro e w' ⟨rfl, hw⟩; rw [hw])
    go_ret
    exact ⟨rfl, rfl⟩
  · have hr : decide (Good z) = false := decide_eq_false (by unfold Good; omega)
    have hw : ¬ z = wrap32 z := by unfold wrap32; omega
    rw [hr]
    clear hr C h
    have hb1 : -2147483648 ≤ wrap32 z := by unfold wrap32; omega
    have hb2 : wrap32 z ≤ 2147483647 := by unfold wrap32; omega
    have hd : decide (z = wrap32 z) = false := decide_eq_false hw
    generalize hy : wrap32 z = y at hw hb1 hb2 hd
    go_enter Tryz.func132, Tryz.ntmps132
    go_wp2_with fail
    go_ret
    exact ⟨rfl, rfl⟩
set_option maxHeartbeats 1000000 in
theorem rgood_any (z : Int) (w : World) : Calls Tryz.prog 131 #[.int .i64 z] w fun e w' => e = .returned (.bool (decide (Good z))) ∧ w' = w := by
  by_cases h1 : z < 0
  · have hr : decide (Good z) = false := decide_eq_false (by unfold Good; omega)
    rw [hr]
    clear hr
    have : ¬ 0 ≤ z := by omega
    have : ¬ 57343 < z := by omega
    go_enter Tryz.func131, Tryz.ntmps131
    go_wp2
    go_ret
    exact ⟨rfl, rfl⟩
  · have h1' : 0 ≤ z := by omega
    clear h1
    by_cases h2 : z < 55296
    · have hr : decide (Good z) = true := decide_eq_true (by unfold Good; omega)
      rw [hr]
      clear hr
      go_enter Tryz.func131, Tryz.ntmps131
      go_wp2
      go_ret
      exact ⟨rfl, rfl⟩
    · by_cases h3 : 57343 < z
      · by_cases h4 : z < 1114112
        · have hr : decide (Good z) = true := decide_eq_true (by unfold Good; omega)
          rw [hr]
          clear hr
          go_enter Tryz.func131, Tryz.ntmps131
          go_wp2
          go_ret
          exact ⟨rfl, rfl⟩
        · have hr : decide (Good z) = false := decide_eq_false (by unfold Good; omega)
          rw [hr]
          clear hr
          go_enter Tryz.func131, Tryz.ntmps131
          go_wp2
          go_ret
          exact ⟨rfl, rfl⟩
      · have hr : decide (Good z) = false := decide_eq_false (by unfold Good; omega)
        rw [hr]
        clear hr
        go_enter Tryz.func131, Tryz.ntmps131
        go_wp2
        go_ret
        exact ⟨rfl, rfl⟩
/-- Whether a cell may be, given the same of the array in its box. -/
def chkC (f : Ar → Int) (c : Ce) : Int :=
  if c.1 = 2 ∧ c.2.1 = 0 ∧ c.2.2.length = 1 then f (bAt c.2.2 0) else if c.2.2.length = 0 ∧ (c.1 = 0 ∨ c.1 = 1 ∧ Good c.2.1) then 0 else 1
def chkF (f : Ar → Int) (x : Ar) (i : Nat) : Int := chkC f (cAt x.cells i)
/-- Whether an array may be, given the same of the arrays in its boxes. -/
def chkB (f : Ar → Int) (x : Ar) : Int :=
  if sizeE x.shape ≠ 0 then sizeE x.shape else if sizeV x.shape ≠ x.cells.length then 1 else if hasLong x.shape then 12 else firstUp (chkF f x) x.cells.length
/-- Whether an array may be that may bear so many boxes within one another. -/
def chkA : Nat → Ar → Int
  | 0, x => chkB (fun _ => 15) x
  | r + 1, x => chkB (chkA r) x
/-- What the look into the next box promises. -/
def InnerC (k n B : Nat) (f : Ar → Int) : Prop := B ≤ 8 ∧ (B = 8 → f = fun _ => 15) ∧ (B < 8 → ∀ y lo vb w, ArIn n lo w y vb → Calls Tryz.prog k #[vb, .int .i64 ((B : Int) + 1)] w fun e w' => e = .returned (.int .i64 (f y)) ∧ Below w.heap.size w w')
theorem one_alloc (w : World) (o : Obj) : Below w.heap.size w (w.alloc o) := (Below.refl _ _).alloc (Nat.le_refl _) _
theorem cell_one {w : World} {b off : Nat} {v : Value} (h : w.cell? ⟨b, off, none⟩ = some v) (hb : b < w.heap.size) (o : Obj) : (w.alloc o).cell? ⟨b, off, none⟩ = some v :=
  ((one_alloc w o).cell (p := ⟨b, off, none⟩) hb).trans h
set_option maxHeartbeats 1000000 in
theorem checkCell_any (n B : Nat) (f : Ar → Int) (IH : InnerC 85 n B f) (c : Ce) (lo : Nat) (w : World) (v0 v1 v2 : Value) (hc : CeIn (ArIn n lo w) lo w c v0 v1 v2) :
    Calls Tryz.prog 112 #[.agg #[v0, v1, v2], .int .i64 (B : Int)] w fun e w' => e = .returned (.int .i64 (chkC f c)) ∧ Below w.heap.size w w' := by
  obtain ⟨rfl, rfl, a, cap, rfl, hl, hx⟩ := hc
  obtain ⟨k, N, box⟩ := c
  simp only at hl hx ⊢
  obtain ⟨i1, i2, i3⟩ := IH
  have K1 : Hid (k = 2 ∧ N = 0 ∧ box.length = 1 → chkC f (k, N, box) = f (bAt box 0)) := fun h => by unfold chkC; rw [if_pos h]
  have K2 : Hid (¬ (k = 2 ∧ N = 0 ∧ box.length = 1) → box.length = 0 ∧ (k = 0 ∨ k = 1 ∧ Good N) → chkC f (k, N, box) = 0) := fun h h' => by unfold chkC; rw [if_neg h, if_pos h']
  have K3 : Hid (¬ (k = 2 ∧ N = 0 ∧ box.length = 1) → ¬ (box.length = 0 ∧ (k = 0 ∨ k = 1 ∧ Good N)) → chkC f (k, N, box) = 1) := fun h h' => by unfold chkC; rw [if_neg h, if_neg h']
  generalize chkC f (k, N, box) = r at K1 K2 K3
  by_cases h1 : k = 2 ∧ N = 0 ∧ box.length = 1
  · have hr := K1.out h1
    obtain ⟨rfl, rfl, hb1⟩ := h1
    rcases hx with hx | ⟨b, off, rfl, hlo, hb, hx⟩
    · rw [hx] at hb1; simp at hb1
    obtain ⟨s0, s1, e0, e1, e2⟩ := hx 0 (by omega)
    simp only [Nat.zero_mul, Nat.add_zero] at e0 e1
    have g0 := cell_one e0 hb
    have g1 := cell_one e1 hb
    clear K1 K2 K3 hx hlo
    by_cases h8 : B = 8
    · subst h8
      have hr' : Hid (r = 15) := by rw [hr, i2 rfl]; exact rfl
      clear hr i2 i3 e2
      rw [hb1]
      go_enter Tryz.func112, Tryz.ntmps112
      go_wp2
      go_ret
      exact ⟨retI hr'.out.symm, one_alloc _ _⟩
    · have i4 := i3 (by omega) (bAt box 0) lo _ ((w.alloc (.cells #[.int .i64 2, .int .i64 0, .slice (some ⟨b, off, none⟩) 1 cap] 64))) (e2.next (one_alloc _ _))
      rw [← hr] at i4
      have hB : (B : Int) < 8 := by omega
      have HB1 : Hid (Below w.heap.size w (w.alloc (.cells #[.int .i64 2, .int .i64 0, .slice (some ⟨b, off, none⟩) 1 cap] 64))) := one_alloc _ _
      clear i2 i3 h8 hr e2
      rw [hb1]
      clear hb1
      go_enter Tryz.func112, Tryz.ntmps112
      go_wp2_with fail
      refine i4.mono ?_
      rintro e w1 ⟨rfl, hb1⟩
      go_wp2
      go_ret
      exact ⟨rfl, HB1.out.trans (hb1.mono HB1.out.size)⟩
  · have K2' : Hid (box.length = 0 ∧ (k = 0 ∨ k = 1 ∧ Good N) → r = 0) := K2.out h1
    have K3' : Hid (¬ (box.length = 0 ∧ (k = 0 ∨ k = 1 ∧ Good N)) → r = 1) := K3.out h1
    clear K1 K2 K3 hx i2 i3
    generalize box.length = L at *
    by_cases hk2 : k = 2
    · have hr : Hid (r = 1) := K3'.out (by omega)
      subst hk2
      clear K2' K3'
      by_cases hN : N = 0
      · subst hN
        have hL : ¬ L = 1 := by omega
        clear h1
        by_cases hL0 : L = 0
        · subst hL0
          go_enter Tryz.func112, Tryz.ntmps112
          go_wp2
          go_ret
          exact ⟨retI hr.out.symm, one_alloc _ _⟩
        · have hL' : ¬ (L : Int) = 1 := by omega
          have hL0' : ¬ (L : Int) = 0 := by omega
          go_enter Tryz.func112, Tryz.ntmps112
          go_wp2
          go_ret
          exact ⟨retI hr.out.symm, one_alloc _ _⟩
      · clear h1
        by_cases hL0 : L = 0
        · subst hL0
          go_enter Tryz.func112, Tryz.ntmps112
          go_wp2
          go_ret
          exact ⟨retI hr.out.symm, one_alloc _ _⟩
        · have hL0' : ¬ (L : Int) = 0 := by omega
          go_enter Tryz.func112, Tryz.ntmps112
          go_wp2
          go_ret
          exact ⟨retI hr.out.symm, one_alloc _ _⟩
    · clear h1
      by_cases hL0 : L = 0
      · by_cases hk0 : k = 0
        · have hr : Hid (r = 0) := K2'.out ⟨hL0, Or.inl hk0⟩
          subst hL0
          subst hk0
          clear K2' K3'
          go_enter Tryz.func112, Tryz.ntmps112
          go_wp2
          go_ret
          exact ⟨retI hr.out.symm, one_alloc _ _⟩
        · by_cases hk1 : k = 1
          · by_cases hg : Good N
            · have hr : Hid (r = 0) := K2'.out ⟨hL0, Or.inr ⟨hk1, hg⟩⟩
              subst hL0
              subst hk1
              have C := fun w => isSign_any N w
              rw [decide_eq_true hg] at C
              clear K2' K3' hg
              go_enter Tryz.func112, Tryz.ntmps112
              go_wp2_with (go_at_call 132; refine (C _).mono ?_; rintro e w' ⟨rfl, hw⟩; rw [hw])
              go_ret
              exact ⟨retI hr.out.symm, one_alloc _ _⟩
            · have hr : Hid (r = 1) := K3'.out (by
                rintro ⟨_, h | h⟩
                · exact hk0 h
                · exact hg h.2)
              subst hL0
              subst hk1
              have C := fun w => isSign_any N w
              rw [decide_eq_false hg] at C
              clear K2' K3' hg
              go_enter Tryz.func112, Tryz.ntmps112
              go_wp2_with (go_at_call 132; refine (C _).mono ?_; rintro e w' ⟨rfl, hw⟩; rw [hw])
              go_ret
              exact ⟨retI hr.out.symm, one_alloc _ _⟩
          · have hr : Hid (r = 1) := K3'.out (by
              rintro ⟨_, h | h⟩
              · exact hk0 h
              · exact hk1 h.1)
            subst hL0
            clear K2' K3'
            go_enter Tryz.func112, Tryz.ntmps112
            go_wp2
            go_ret
            exact ⟨retI hr.out.symm, one_alloc _ _⟩
      · have hr : Hid (r = 1) := K3'.out (fun h => hL0 h.1)
        have hL0' : ¬ (L : Int) = 0 := by omega
        clear K2' K3'
        go_enter Tryz.func112, Tryz.ntmps112
        go_wp2
        go_ret
        exact ⟨retI hr.out.symm, one_alloc _ _⟩
end Go.Proofs.YtneblkdkhlgmcaaGreatDoor
namespace Go.Proofs.YtneblkdkhlgmcaaGreatDoor
open Go.ChangeShapes Go.WideShapes Go.ChangeAt Go.RowKit
set_option maxRecDepth 100000
set_option linter.unusedVariables false
theorem info33 : (Tryz.prog.info? 64).map (fun i => (i.zero, i.size, i.bytes)) = some (some (.agg #[.int .i64 0, .int .i64 0, .slice none 0 0]), 3, 40) := by kernel_rfl
/-- What a row of new cells holds. -/
def zero3 (m : Nat) : Value := if m % 3 = 0 then .int .i64 0 else if m % 3 = 1 then .int .i64 0 else .slice none 0 0
/-- A row of cells of memory, as an array's cells. -/
def CellsIn (n lo : Nat) (w : World) (cs : List Ce) (a2 : Option Addr) : Prop :=
  cs = [] ∨ ∃ b off, a2 = some ⟨b, off, none⟩ ∧ lo ≤ b ∧ b < w.heap.size ∧
    ∀ i, i < cs.length → ∃ v0 v1 v2, w.cell? ⟨b, off + i * 3, none⟩ = some v0 ∧ w.cell? ⟨b, off + i * 3 + 1, none⟩ = some v1 ∧ w.cell? ⟨b, off + i * 3 + 2, none⟩ = some v2 ∧ CeIn (ArIn n lo w) lo w (cAt cs i) v0 v1 v2
theorem arIn_mk {n lo : Nat} {w : World} {x : Ar} {a1 a2 : Option Addr} {c1 c2 k1 k2 : Nat} (R : Row lo w a1 x.shape) (hl : x.cells.length ≤ 5864062014805) (hc : CellsIn n lo w x.cells a2) (e1 : x.shape.length = k1) (e2 : x.cells.length = k2) : ArIn (n + 1) lo w x (.agg #[.slice a1 k1 c1, .slice a2 k2 c2]) := by
  subst e1
  subst e2
  exact ⟨a1, c1, a2, c2, rfl, R, hl, hc⟩
def numCs (k : Int) (l : List Int) : List Ce := l.map fun z => (k, z, [])
theorem numCs_len (k : Int) (l : List Int) : (numCs k l).length = l.length := by simp [numCs]
theorem numCs_at (k : Int) (l : List Int) (i : Nat) (hi : i < l.length) : cAt (numCs k l) i = (k, l[i]?.getD 0, []) := by simp [cAt, numCs, hi]
/-- What the row of numbers as cells holds, up to number j. -/
def numF (k : Int) (l : List Int) (j m : Nat) : Value := if m < j * 3 then (if m % 3 = 0 then .int .i64 k else if m % 3 = 1 then .int .i64 (l[m / 3]?.getD 0) else .slice none 0 0) else zero3 m
/-- A call that hands back an array in memory of its own. -/
def GivesA (n : Nat) (x : Ar) (w : World) (e : Ending) (w' : World) : Prop := (∃ v, e = .returned v ∧ ArIn n w.heap.size w' x v) ∧ Below w.heap.size w w'
def numsA (l : List Int) : Ar := .mk [(l.length : Int)] (numCs 0 l)
def atomA (z : Int) : Ar := .mk [] (numCs 0 [z])
theorem row_one {lo : Nat} {w : World} {b : Nat} {z : Int} (hb : b < w.heap.size) (hlo : lo ≤ b) (h : w.cell? ⟨b, 0, none⟩ = some (.int .i64 z)) : Row lo w (some ⟨b, 0, none⟩) [z] := by
  refine ⟨by simp, Or.inr ⟨b, 0, rfl, hlo, hb, ?_⟩⟩
  intro i hi
  have : i = 0 := by simpa using hi
  subst this
  simpa using h
theorem CeIn.low {P Q : Ar → Value → Prop} {lo lo' : Nat} {w : World} {c : Ce} {v0 v1 v2 : Value} (h : CeIn P lo w c v0 v1 v2) (hl : lo' ≤ lo) (hPQ : ∀ x v, P x v → Q x v) : CeIn Q lo' w c v0 v1 v2 := h.mono hl (Below.refl _ _) hPQ
theorem CellsIn.mono {n lo lo' : Nat} {w w' : World} {cs : List Ce} {a2 : Option Addr} (h : CellsIn n lo w cs a2) (hl : lo' ≤ lo) (hb : Below w.heap.size w w') : CellsIn n lo' w' cs a2 := by
  rcases h with hc | ⟨b, off, ha, hlo, hbb, hc⟩
  · exact Or.inl hc
  · refine Or.inr ⟨b, off, ha, Nat.le_trans hl hlo, Nat.lt_of_lt_of_le hbb hb.size, fun i hi => ?_⟩
    obtain ⟨v0, v1, v2, e0, e1, e2, e3⟩ := hc i hi
    exact ⟨v0, v1, v2, (hb.cell (p := ⟨b, off + i * 3, none⟩) hbb).trans e0, (hb.cell (p := ⟨b, off + i * 3 + 1, none⟩) hbb).trans e1, (hb.cell (p := ⟨b, off + i * 3 + 2, none⟩) hbb).trans e2, e3.mono hl hb fun x v h => h.mono hl hb⟩
/-- From block lo on all is as it was. -/
def Keeps (lo : Nat) (w w' : World) : Prop := w.heap.size ≤ w'.heap.size ∧ ∀ b, lo ≤ b → b < w.heap.size → w'.heap[b]? = w.heap[b]?
theorem Keeps.refl (lo : Nat) (w : World) : Keeps lo w w := ⟨Nat.le_refl _, fun _ _ _ => rfl⟩
theorem Keeps.setCell {lo : Nat} {w w' : World} (h : Keeps lo w w') {p : Addr} (hp : p.block < lo) (v : Value) : Keeps lo w (w'.setCell p v) := by
  refine ⟨?_, fun b h1 h2 => ?_⟩
  · have : (w'.setCell p v).heap.size = w'.heap.size := by simp
    rw [this]; exact h.1
  · rw [Below.heap_setCell w' p v b (by omega)]
    exact h.2 b h1 h2
theorem Keeps.cell {lo : Nat} {w w' : World} (h : Keeps lo w w') {p : Addr} (h1 : lo ≤ p.block) (h2 : p.block < w.heap.size) : w'.cell? p = w.cell? p := World.cell?_of_block (w := w) (h.2 p.block h1 h2)
theorem Row.keeps {lo : Nat} {w w' : World} {a : Option Addr} {zs : List Int} (h : Row lo w a zs) (hk : Keeps lo w w') : Row lo w' a zs := by
  obtain ⟨h2, h3⟩ := h
  refine ⟨h2, ?_⟩
  rcases h3 with h3 | ⟨b, off, ha, hlo, hbb, hc⟩
  · exact Or.inl h3
  · exact Or.inr ⟨b, off, ha, hlo, Nat.lt_of_lt_of_le hbb hk.1, fun i hi => (hk.cell (p := ⟨b, off + i, none⟩) hlo hbb).trans (hc i hi)⟩
theorem CeIn.keeps {P Q : Ar → Value → Prop} {lo : Nat} {w w' : World} {c : Ce} {v0 v1 v2 : Value} (h : CeIn P lo w c v0 v1 v2) (hk : Keeps lo w w') (hPQ : ∀ x v, P x v → Q x v) : CeIn Q lo w' c v0 v1 v2 := by
  obtain ⟨h0, h1, a, cap, h2, h3, h4⟩ := h
  refine ⟨h0, h1, a, cap, h2, h3, ?_⟩
  rcases h4 with h4 | ⟨b, off, ha, hlo, hbb, hc⟩
  · exact Or.inl h4
  · refine Or.inr ⟨b, off, ha, hlo, Nat.lt_of_lt_of_le hbb hk.1, fun j hj => ?_⟩
    obtain ⟨u0, u1, e0, e1, e2⟩ := hc j hj
    exact ⟨u0, u1, (hk.cell (p := ⟨b, off + j * 2, none⟩) hlo hbb).trans e0, (hk.cell (p := ⟨b, off + j * 2 + 1, none⟩) hlo hbb).trans e1, hPQ _ _ e2⟩
theorem ArIn.keeps {n lo : Nat} {w w' : World} {x : Ar} {v : Value} (h : ArIn n lo w x v) (hk : Keeps lo w w') : ArIn n lo w' x v := by
  induction n generalizing x v with
  | zero => exact h.elim
  | succ n ih =>
    obtain ⟨a1, c1, a2, c2, hv, hR, hlen, hc⟩ := h
    refine ⟨a1, c1, a2, c2, hv, hR.keeps hk, hlen, ?_⟩
    rcases hc with hc | ⟨b, off, ha, hlo, hbb, hc⟩
    · exact Or.inl hc
    · refine Or.inr ⟨b, off, ha, hlo, Nat.lt_of_lt_of_le hbb hk.1, fun i hi => ?_⟩
      obtain ⟨v0, v1, v2, e0, e1, e2, e3⟩ := hc i hi
      exact ⟨v0, v1, v2, (hk.cell (p := ⟨b, off + i * 3, none⟩) hlo hbb).trans e0, (hk.cell (p := ⟨b, off + i * 3 + 1, none⟩) hlo hbb).trans e1, (hk.cell (p := ⟨b, off + i * 3 + 2, none⟩) hlo hbb).trans e2, e3.keeps hk fun x v h => ih h⟩
theorem CellsIn.keeps {n lo : Nat} {w w' : World} {cs : List Ce} {a2 : Option Addr} (h : CellsIn n lo w cs a2) (hk : Keeps lo w w') : CellsIn n lo w' cs a2 := by
  rcases h with hc | ⟨b, off, ha, hlo, hbb, hc⟩
  · exact Or.inl hc
  · refine Or.inr ⟨b, off, ha, hlo, Nat.lt_of_lt_of_le hbb hk.1, fun i hi => ?_⟩
    obtain ⟨v0, v1, v2, e0, e1, e2, e3⟩ := hc i hi
    exact ⟨v0, v1, v2, (hk.cell (p := ⟨b, off + i * 3, none⟩) hlo hbb).trans e0, (hk.cell (p := ⟨b, off + i * 3 + 1, none⟩) hlo hbb).trans e1, (hk.cell (p := ⟨b, off + i * 3 + 2, none⟩) hlo hbb).trans e2, e3.keeps hk fun x v h => h.keeps hk⟩
theorem frozen_new (w : World) (cs : Array Value) (t : TypeId) (i : Nat) : (w.alloc (.cells cs t)).frozen? ⟨w.heap.size, i, none⟩ = false := by
  have : (w.alloc (.cells cs t)).heap[w.heap.size]? = some (.cells cs t) := by
    show (w.heap.push _)[w.heap.size]? = _
    simp
  unfold World.frozen?
  simp only [this]
  simp
/-- Two cells of memory, stored into: they hold what was stored. -/
theorem set_two {w : World} {s : Nat} {u v : Value} (h0 : w.cell? ⟨s, 0, none⟩ = some u) (h1 : w.cell? ⟨s, 1, none⟩ = some v) (x y : Value) : (w.setCell ⟨s, 0, none⟩ x).cell? ⟨s, 0, none⟩ = some x ∧ ((w.setCell ⟨s, 0, none⟩ x).setCell ⟨s, 1, none⟩ y).cell? ⟨s, 1, none⟩ = some y := by
  refine ⟨World.cell?_setCell_same' _ _ _ (by rw [h0]; rfl), World.cell?_setCell_same' _ _ _ ?_⟩
  rw [World.cell?_setCell_other _ _ _ _ (by simp), h1]
  rfl
end Go.Proofs.YtneblkdkhlgmcaaGreatDoor
namespace Go.Proofs.YtneblkdkhlgmcaaGreatDoor
open Go.ChangeShapes Go.WideShapes Go.ChangeAt Go.RowKit
set_option maxRecDepth 100000
set_option linter.unusedVariables false
/-- A new block that may be written. -/
def softO : Obj → Prop
  | .cells _ _ f => f = (0, 0)
  | _ => True
def Fz (w w' : World) : Prop := w.heap.size ≤ w'.heap.size ∧ (∀ p : Addr, p.block < w.heap.size → w'.frozen? p = w.frozen? p) ∧ ∀ p : Addr, w.heap.size ≤ p.block → w'.frozen? p = false
theorem frozen_end {w : World} {p : Addr} (h : w.heap.size ≤ p.block) : w.frozen? p = false := by
  unfold World.frozen?
  rw [Array.getElem?_eq_none h]
theorem Fz.refl (w : World) : Fz w w := ⟨Nat.le_refl _, fun _ _ => rfl, fun _ h => frozen_end h⟩
theorem Fz.trans {a b c : World} (h : Fz a b) (k : Fz b c) : Fz a c := by
  refine ⟨Nat.le_trans h.1 k.1, fun p hp => (k.2.1 p (Nat.lt_of_lt_of_le hp h.1)).trans (h.2.1 p hp), fun p hp => ?_⟩
  by_cases hb : p.block < b.heap.size
  · exact (k.2.1 p hb).trans (h.2.2 p hp)
  · exact k.2.2 p (by omega)
theorem Fz.setCell (w : World) (q : Addr) (v : Value) : Fz w (w.setCell q v) := ⟨by simp, fun p _ => by simp, fun p hp => by simpa using frozen_end hp⟩
theorem Fz.alloc (w : World) (o : Obj) (ho : softO o) : Fz w (w.alloc o) := by
  refine ⟨by simp, fun p hp => World.frozen?_of_block (w := w) (Below.heap_alloc w o _ hp), fun p hp => ?_⟩
  unfold World.frozen?
  have e : (w.alloc o).heap[p.block]? = if p.block = w.heap.size then some o else w.heap[p.block]? := by
    show (w.heap.push o)[p.block]? = _
    rw [Array.getElem?_push]
  rw [e]
  by_cases h : p.block = w.heap.size
  · rw [if_pos h]
    cases o with
    | cells c t f => have : f = (0, 0) := ho; subst this; simp
    | _ => rfl
  · rw [if_neg h, Array.getElem?_eq_none hp]
structure BelowS (B : Nat) (w w' : World) : Prop where
  b : Below B w w'
  z : Fz w w'
instance {B : Nat} {w w' : World} : Coe (BelowS B w w') (Below B w w') := ⟨BelowS.b⟩
namespace BelowS
variable {B B' : Nat} {a b c w w' : World}
theorem refl (B : Nat) (w : World) : BelowS B w w := ⟨Below.refl _ _, Fz.refl _⟩
theorem trans (h : BelowS B a b) (k : BelowS B b c) : BelowS B a c := ⟨h.b.trans k.b, h.z.trans k.z⟩
theorem mono (h : BelowS B w w') (hB : B' ≤ B) : BelowS B' w w' := ⟨h.b.mono hB, h.z⟩
theorem drew (h : BelowS B a w) : BelowS B a w.drew := ⟨h.b.drew, h.z⟩
theorem heap_setCell (w : World) (a : Addr) (u : Value) (k : Nat) (h : k ≠ a.block) : (w.setCell a u).heap[k]? = w.heap[k]? := Below.heap_setCell w a u k h
theorem alloc (h : BelowS B a w) (hB : B ≤ w.heap.size) (o : Obj) (ho : softO o := by exact rfl) : BelowS B a (w.alloc o) := ⟨h.b.alloc hB o, h.z.trans (Fz.alloc w o ho)⟩
theorem setCell (h : BelowS B a w) {p : Addr} (hp : B ≤ p.block) (u : Value) : BelowS B a (w.setCell p u) := ⟨h.b.setCell hp u, h.z.trans (Fz.setCell w p u)⟩
theorem size (h : BelowS B w w') : w.heap.size ≤ w'.heap.size := h.b.size
theorem block (h : BelowS B w w') : ∀ k, k < B → w'.heap[k]? = w.heap[k]? := h.b.block
theorem cell (h : BelowS B w w') {p : Addr} (hp : p.block < B) : w'.cell? p = w.cell? p := h.b.cell hp
theorem frozen (h : BelowS B w w') {p : Addr} (hp : p.block < B) : w'.frozen? p = w.frozen? p := h.b.frozen hp
end BelowS
end Go.Proofs.YtneblkdkhlgmcaaGreatDoor
namespace Go.Proofs.YtneblkdkhlgmcaaGreatDoor.Rn
/-- There is a sign of that number. -/
def Good (n : Int) : Prop := (0 ≤ n ∧ n < 55296) ∨ (57343 < n ∧ n < 1114112)
instance (n : Int) : Decidable (Good n) := by unfold Good; infer_instance
def goodB (n : Int) : Bool := decide (Good n)
/-- How many bytes a sign has. -/
def wid (n : Int) : Nat := if n < 128 then 1 else if n < 2048 then 2 else if n < 65536 then 3 else 4
/-- A sign's bytes. -/
def put (n : Int) : List Int :=
  if n < 128 then [n]
  else if n < 2048 then [192 + n / 64, 128 + n % 64]
  else if n < 65536 then [224 + n / 4096, 128 + n / 64 % 64, 128 + n % 64]
  else [240 + n / 262144, 128 + n / 4096 % 64, 128 + n / 64 % 64, 128 + n % 64]
def enc (l : List Int) : List Int := l.flatMap put
def Byte (c : Int) : Prop := 0 ≤ c ∧ c < 256
theorem Good.rng {n : Int} (h : Good n) : 0 ≤ n ∧ n < 1114112 := by unfold Good at h; omega
theorem put_length (n : Int) : (put n).length = wid n := by
  unfold put wid
  split <;> (try split) <;> (try split) <;> rfl
theorem wid_pos (n : Int) : 1 ≤ wid n ∧ wid n ≤ 4 := by
  unfold wid
  split <;> (try split) <;> (try split) <;> omega
theorem put_bytes {n : Int} (h : Good n) : ∀ c ∈ put n, Byte c := by
  have := h.rng
  unfold put Byte
  intro c hc
  split at hc
  · simp at hc; omega
  · split at hc
    · simp at hc; omega
    · split at hc
      · simp at hc; omega
      · simp at hc; omega
theorem enc_cons (n : Int) (l : List Int) : enc (n :: l) = put n ++ enc l := by simp [enc]
theorem enc_append (l m : List Int) : enc (l ++ m) = enc l ++ enc m := by simp [enc]
theorem enc_bytes {l : List Int} (h : ∀ z ∈ l, Good z) : ∀ c ∈ enc l, Byte c := by
  intro c hc
  simp only [enc, List.mem_flatMap] at hc
  obtain ⟨z, hz, hc⟩ := hc
  exact put_bytes (h z hz) c hc
theorem enc_len (l : List Int) : l.length ≤ (enc l).length ∧ (enc l).length ≤ 4 * l.length := by
  induction l with
  | nil => simp [enc]
  | cons x l ih =>
    have := wid_pos x
    rw [enc_cons, List.length_append, put_length, List.length_cons]
    omega
end Go.Proofs.YtneblkdkhlgmcaaGreatDoor.Rn
namespace Go.Proofs.YtneblkdkhlgmcaaGreatDoor.Rn
open Go.ChangeShapes Go.WideShapes Go.ChangeAt Go.RowKit
set_option maxRecDepth 100000
theorem retB {a b : Bool} (h : a = b) : Ending.returned (.bool a) = .returned (.bool b) := by rw [h]
theorem retI {k : IntKind} {a b : Int} (h : a = b) : Ending.returned (.int k a) = .returned (.int k b) := by rw [h]
theorem retII {k l : IntKind} {a b c d : Int} (h : a = b) (h2 : c = d) : Ending.returned (.tuple #[.int k a, .int l c]) = .returned (.tuple #[.int k b, .int l d]) := by rw [h, h2]
theorem goodB_true {n : Int} (h : Good n) : goodB n = true := decide_eq_true h
theorem goodB_false {n : Int} (h : ¬ Good n) : goodB n = false := decide_eq_false h
set_option maxHeartbeats 400000 in
theorem good_any (n : Int) (w : World) : Calls Tryz.prog 113 #[.int .i64 n] w fun e w' => e = .returned (.bool (goodB n)) ∧ w' = w := by
  by_cases h1 : n < 0
  · have e : goodB n = false := goodB_false (by unfold Good; omega)
    rw [e]
    go_enter Tryz.func113, Tryz.ntmps113
    go_wp2
    go_ret
    exact ⟨rfl, rfl⟩
  · by_cases h2 : n ≤ 1114111
    · by_cases h3 : n < 55296
      · have e : goodB n = true := goodB_true (by unfold Good; omega)
        rw [e]
        go_enter Tryz.func113, Tryz.ntmps113
        go_wp2
        go_ret
        exact ⟨rfl, rfl⟩
      · by_cases h4 : 57343 < n
        · have e : goodB n = true := goodB_true (by unfold Good; omega)
          rw [e]
          go_enter Tryz.func113, Tryz.ntmps113
          go_wp2
          go_ret
          exact ⟨rfl, rfl⟩
        · have e : goodB n = false := goodB_false (by unfold Good; omega)
          rw [e]
          go_enter Tryz.func113, Tryz.ntmps113
          go_wp2
          go_ret
          exact ⟨rfl, rfl⟩
    · have e : goodB n = false := goodB_false (by unfold Good; omega)
      have h2' : 1114111 < n := by omega
      rw [e]
      go_enter Tryz.func113, Tryz.ntmps113
      go_wp2
      go_ret
      exact ⟨rfl, rfl⟩
theorem wid_any (n : Int) (w : World) : Calls Tryz.prog 53 #[.int .i64 n] w fun e w' => e = .returned (.int .i64 (wid n)) ∧ w' = w := by
  unfold wid
  by_cases h1 : n < 128
  · rw [if_pos h1]
    go_enter Tryz.func53, Tryz.ntmps53
    go_wp2
    go_ret
    exact ⟨rfl, rfl⟩
  · rw [if_neg h1]
    by_cases h2 : n < 2048
    · rw [if_pos h2]
      go_enter Tryz.func53, Tryz.ntmps53
      go_wp2
      go_ret
      exact ⟨rfl, rfl⟩
    · rw [if_neg h2]
      by_cases h3 : n < 65536
      · rw [if_pos h3]
        go_enter Tryz.func53, Tryz.ntmps53
        go_wp2
        go_ret
        exact ⟨rfl, rfl⟩
      · rw [if_neg h3]
        go_enter Tryz.func53, Tryz.ntmps53
        go_wp2
        go_ret
        exact ⟨rfl, rfl⟩
end Go.Proofs.YtneblkdkhlgmcaaGreatDoor.Rn
namespace Go.Proofs.YtneblkdkhlgmcaaGreatDoor
open Go.ChangeShapes Go.WideShapes Go.ChangeAt Go.RowKit
set_option maxRecDepth 100000
set_option linter.unusedVariables false
theorem cell_new (w : World) (cs : Array Value) (t : TypeId) (fr : Nat × Nat) (i : Nat) (v : Value) (h : cs[i]? = some v) : (w.alloc (.cells cs t fr)).cell? ⟨w.heap.size, i, none⟩ = some v := by
  have : (w.alloc (.cells cs t fr)).heap[w.heap.size]? = some (.cells cs t fr) := by
    show (w.heap.push _)[w.heap.size]? = _
    simp
  unfold World.cell?
  simp only [this, h]
  rfl
theorem cell_new1 (w : World) (cs : Array Value) (t : TypeId) (fr : Nat × Nat) (o2 : Obj) (i : Nat) (v : Value) (h : cs[i]? = some v) : ((w.alloc (.cells cs t fr)).alloc o2).cell? ⟨w.heap.size, i, none⟩ = some v :=
  (((Below.refl _ _).alloc (Nat.le_refl _) o2).cell (p := ⟨w.heap.size, i, none⟩) (by simp)).trans (cell_new w cs t fr i v h)
theorem cell_new2 (w : World) (cs : Array Value) (t : TypeId) (fr : Nat × Nat) (o1 : Obj) (i : Nat) (v : Value) (h : cs[i]? = some v) : ((w.alloc o1).alloc (.cells cs t fr)).cell? ⟨w.heap.size + 1, i, none⟩ = some v := by
  have := cell_new (w.alloc o1) cs t fr i v h
  simpa using this
theorem size_two (w : World) (o1 o2 : Obj) : ((w.alloc o1).alloc o2).heap.size = w.heap.size + 2 := by simp
end Go.Proofs.YtneblkdkhlgmcaaGreatDoor
namespace Go.Proofs.YtneblkdkhlgmcaaGreatDoor
open Go.ChangeShapes Go.WideShapes Go.ChangeAt Go.RowKit
set_option maxRecDepth 100000
set_option linter.unusedVariables false
set_option maxHeartbeats 1000000 in
theorem rcheckCell_any (n B : Nat) (f : Ar → Int) (IH : InnerC 89 n B f) (c : Ce) (lo : Nat) (w : World) (v0 v1 v2 : Value) (hc : CeIn (ArIn n lo w) lo w c v0 v1 v2) :
    Calls Tryz.prog 117 #[.agg #[v0, v1, v2], .int .i64 (B : Int)] w fun e w' => e = .returned (.int .i64 (chkC f c)) ∧ Below w.heap.size w w' := by
  obtain ⟨rfl, rfl, a, cap, rfl, hl, hx⟩ := hc
  obtain ⟨k, N, box⟩ := c
  simp only at hl hx ⊢
  obtain ⟨i1, i2, i3⟩ := IH
  have K1 : Hid (k = 2 ∧ N = 0 ∧ box.length = 1 → chkC f (k, N, box) = f (bAt box 0)) := fun h => by unfold chkC; rw [if_pos h]
  have K2 : Hid (¬ (k = 2 ∧ N = 0 ∧ box.length = 1) → box.length = 0 ∧ (k = 0 ∨ k = 1 ∧ Good N) → chkC f (k, N, box) = 0) := fun h h' => by unfold chkC; rw [if_neg h, if_pos h']
  have K3 : Hid (¬ (k = 2 ∧ N = 0 ∧ box.length = 1) → ¬ (box.length = 0 ∧ (k = 0 ∨ k = 1 ∧ Good N)) → chkC f (k, N, box) = 1) := fun h h' => by unfold chkC; rw [if_neg h, if_neg h']
  generalize chkC f (k, N, box) = r at K1 K2 K3
  by_cases h1 : k = 2 ∧ N = 0 ∧ box.length = 1
  · have hr := K1.out h1
    obtain ⟨rfl, rfl, hb1⟩ := h1
    rcases hx with hx | ⟨b, off, rfl, hlo, hb, hx⟩
    · rw [hx] at hb1; simp at hb1
    obtain ⟨s0, s1, e0, e1, e2⟩ := hx 0 (by omega)
    simp only [Nat.zero_mul, Nat.add_zero] at e0 e1
    have g0 := cell_one e0 hb
    have g1 := cell_one e1 hb
    clear K1 K2 K3 hx hlo
    by_cases h8 : B = 8
    · subst h8
      have hr' : Hid (r = 15) := by rw [hr, i2 rfl]; exact rfl
      clear hr i2 i3 e2
      rw [hb1]
      go_enter Tryz.func117, Tryz.ntmps117
      go_wp2
      go_ret
      exact ⟨retI hr'.out.symm, one_alloc _ _⟩
    · have i4 := i3 (by omega) (bAt box 0) lo _ ((w.alloc (.cells #[.int .i64 2, .int .i64 0, .slice (some ⟨b, off, none⟩) 1 cap] 64))) (e2.next (one_alloc _ _))
      rw [← hr] at i4
      have hB : (B : Int) < 8 := by omega
      have hB8 : ¬ (B : Int) = 8 := by omega
      have HB1 : Hid (Below w.heap.size w (w.alloc (.cells #[.int .i64 2, .int .i64 0, .slice (some ⟨b, off, none⟩) 1 cap] 64))) := one_alloc _ _
      clear i2 i3 h8 hr e2
      rw [hb1]
      clear hb1
      go_enter Tryz.func117, Tryz.ntmps117
      go_wp2_with fail
      refine i4.mono ?_
      rintro e w1 ⟨rfl, hb1⟩
      go_wp2
      go_ret
      exact ⟨rfl, HB1.out.trans (hb1.mono HB1.out.size)⟩
  · have K2' : Hid (box.length = 0 ∧ (k = 0 ∨ k = 1 ∧ Good N) → r = 0) := K2.out h1
    have K3' : Hid (¬ (box.length = 0 ∧ (k = 0 ∨ k = 1 ∧ Good N)) → r = 1) := K3.out h1
    clear K1 K2 K3 hx i2 i3
    generalize box.length = L at *
    by_cases hk2 : k = 2
    · have hr : Hid (r = 1) := K3'.out (by omega)
      subst hk2
      clear K2' K3'
      by_cases hN : N = 0
      · subst hN
        have hL : ¬ L = 1 := by omega
        clear h1
        by_cases hL0 : L = 0
        · subst hL0
          go_enter Tryz.func117, Tryz.ntmps117
          go_wp2
          go_ret
          exact ⟨retI hr.out.symm, one_alloc _ _⟩
        · have hL' : ¬ (L : Int) = 1 := by omega
          have hL0' : ¬ (L : Int) = 0 := by omega
          have hLp : (0 : Int) < (L : Int) := by omega
          go_enter Tryz.func117, Tryz.ntmps117
          go_wp2
          go_ret
          exact ⟨retI hr.out.symm, one_alloc _ _⟩
      · clear h1
        by_cases hL0 : L = 0
        · subst hL0
          go_enter Tryz.func117, Tryz.ntmps117
          go_wp2
          go_ret
          exact ⟨retI hr.out.symm, one_alloc _ _⟩
        · have hL0' : ¬ (L : Int) = 0 := by omega
          have hLp : (0 : Int) < (L : Int) := by omega
          go_enter Tryz.func117, Tryz.ntmps117
          go_wp2
          go_ret
          exact ⟨retI hr.out.symm, one_alloc _ _⟩
    · clear h1
      by_cases hL0 : L = 0
      · by_cases hk0 : k = 0
        · have hr : Hid (r = 0) := K2'.out ⟨hL0, Or.inl hk0⟩
          subst hL0
          subst hk0
          clear K2' K3'
          go_enter Tryz.func117, Tryz.ntmps117
          go_wp2
          go_ret
          exact ⟨retI hr.out.symm, one_alloc _ _⟩
        · by_cases hk1 : k = 1
          · by_cases hg : Good N
            · have hr : Hid (r = 0) := K2'.out ⟨hL0, Or.inr ⟨hk1, hg⟩⟩
              subst hL0
              subst hk1
              have C := fun w => rgood_any N w
              rw [decide_eq_true hg] at C
              clear K2' K3' hg
              go_enter Tryz.func117, Tryz.ntmps117
              go_wp2_with (go_at_call 131; refine (C _).mono ?_; rintro e w' ⟨rfl, hw⟩; rw [hw])
              go_ret
              exact ⟨retI hr.out.symm, one_alloc _ _⟩
            · have hr : Hid (r = 1) := K3'.out (by
                rintro ⟨_, h | h⟩
                · exact hk0 h
                · exact hg h.2)
              subst hL0
              subst hk1
              have C := fun w => rgood_any N w
              rw [decide_eq_false hg] at C
              clear K2' K3' hg
              go_enter Tryz.func117, Tryz.ntmps117
              go_wp2_with (go_at_call 131; refine (C _).mono ?_; rintro e w' ⟨rfl, hw⟩; rw [hw])
              go_ret
              exact ⟨retI hr.out.symm, one_alloc _ _⟩
          · have hr : Hid (r = 1) := K3'.out (by
              rintro ⟨_, h | h⟩
              · exact hk0 h
              · exact hk1 h.1)
            subst hL0
            clear K2' K3'
            go_enter Tryz.func117, Tryz.ntmps117
            go_wp2
            go_ret
            exact ⟨retI hr.out.symm, one_alloc _ _⟩
      · have hr : Hid (r = 1) := K3'.out (fun h => hL0 h.1)
        have hL0' : ¬ (L : Int) = 0 := by omega
        have hLp : (0 : Int) < (L : Int) := by omega
        clear K2' K3'
        go_enter Tryz.func117, Tryz.ntmps117
        go_wp2
        go_ret
        exact ⟨retI hr.out.symm, one_alloc _ _⟩
theorem cells_at {n lo : Nat} {w : World} {a2 : Option Addr} {cs : List Ce} (hc : cs = [] ∨ ∃ b off, a2 = some ⟨b, off, none⟩ ∧ lo ≤ b ∧ b < w.heap.size ∧
      ∀ i, i < cs.length → ∃ v0 v1 v2, w.cell? ⟨b, off + i * 3, none⟩ = some v0 ∧ w.cell? ⟨b, off + i * 3 + 1, none⟩ = some v1 ∧ w.cell? ⟨b, off + i * 3 + 2, none⟩ = some v2 ∧ CeIn (ArIn n lo w) lo w (cAt cs i) v0 v1 v2) (i : Nat) (hi : i < cs.length) :
    ∃ b off z0 z1 ab nb cb, a2 = some ⟨b, off, none⟩ ∧ ∀ wr, Below w.heap.size w wr → wr.cell? ⟨b, off + i * 3, none⟩ = some (.int .i64 z0) ∧ wr.cell? ⟨b, off + i * 3 + 1, none⟩ = some (.int .i64 z1) ∧ wr.cell? ⟨b, off + i * 3 + 2, none⟩ = some (.slice ab nb cb) ∧ CeIn (ArIn n lo wr) lo wr (cAt cs i) (.int .i64 z0) (.int .i64 z1) (.slice ab nb cb) := by
  rcases hc with hc | ⟨b, off, ha, hlo, hb, hc⟩
  · rw [hc] at hi; simp at hi
  obtain ⟨v0, v1, v2, e0, e1, e2, e3⟩ := hc i hi
  have e4 := e3
  obtain ⟨rfl, rfl, ab, cb, rfl, -⟩ := e4
  exact ⟨b, off, _, _, ab, _, cb, ha, fun wr hw => ⟨(hw.cell (p := ⟨b, off + i * 3, none⟩) hb).trans e0, (hw.cell (p := ⟨b, off + i * 3 + 1, none⟩) hb).trans e1, (hw.cell (p := ⟨b, off + i * 3 + 2, none⟩) hb).trans e2, e3.mono (Nat.le_refl _) hw fun x v h => h.next hw⟩⟩
theorem cell_new0 (w : World) (cs : Array Value) (t : TypeId) (i : Nat) (v : Value) (h : cs[i]? = some v) : (w.alloc (.cells cs t)).cell? ⟨w.heap.size, i, none⟩ = some v := cell_new w cs t (0, 0) i v h
set_option maxHeartbeats 2000000 in
theorem checkB_any (n B : Nat) (f : Ar → Int) (IH : InnerC 85 n B f) (x : Ar) (lo : Nat) (va : Value) (w : World) (hx : ArIn (n + 1) lo w x va) :
    Calls Tryz.prog 85 #[va, .int .i64 (B : Int)] w fun e w' => e = .returned (.int .i64 (chkB f x)) ∧ Below w.heap.size w w' := by
  obtain ⟨a1, c1, a2, c2, rfl, R, hl, hc⟩ := hx
  have K1 : Hid (¬ sizeE x.shape = 0 → chkB f x = sizeE x.shape) := fun h => by unfold chkB; rw [if_pos h]
  have K2 : Hid (sizeE x.shape = 0 → ¬ sizeV x.shape = x.cells.length → chkB f x = 1) := fun h h' => by unfold chkB; rw [if_neg (fun k => k h), if_pos h']
  have K3 : Hid (sizeE x.shape = 0 → sizeV x.shape = x.cells.length → hasLong x.shape → chkB f x = 12) := fun h h' h'' => by unfold chkB; rw [if_neg (fun k => k h), if_neg (fun k => k h'), if_pos h'']
  have K4 : Hid (sizeE x.shape = 0 → sizeV x.shape = x.cells.length → ¬ hasLong x.shape → chkB f x = firstUp (chkF f x) x.cells.length) := fun h h' h'' => by unfold chkB; rw [if_neg (fun k => k h), if_neg (fun k => k h'), if_neg h'']
  generalize chkB f x = r at K1 K2 K3 K4
  have b0 := one_alloc w (.cells #[.slice a1 x.shape.length c1, .slice a2 x.cells.length c2] 25)
  have C1 := size_any x.shape a1 c1 _ (R.next b0)
  have C2 := ends_any x.shape a1 c1 _ (R.next b0)
  have hlR := R.1
  have HB0 : Hid (Below w.heap.size w (w.alloc (.cells #[.slice a1 x.shape.length c1, .slice a2 x.cells.length c2] 25))) := b0
  have HC : Hid (∀ i, i < x.cells.length → ∃ b off z0 z1 ab nb cb, a2 = some ⟨b, off, none⟩ ∧ ∀ wr, Below w.heap.size w wr → (wr.cell? ⟨b, off + i * 3, none⟩ = some (.int .i64 z0) ∧ wr.cell? ⟨b, off + i * 3 + 1, none⟩ = some (.int .i64 z1) ∧ wr.cell? ⟨b, off + i * 3 + 2, none⟩ = some (.slice ab nb cb)) ∧ Calls Tryz.prog 112 #[.agg #[.int .i64 z0, .int .i64 z1, .slice ab nb cb], .int .i64 (B : Int)] wr fun e w' => e = .returned (.int .i64 (chkF f x i)) ∧ Below wr.heap.size wr w') := by
    intro i hi
    obtain ⟨b, off, z0, z1, ab, nb, cb, ha, h⟩ := cells_at hc i hi
    refine ⟨b, off, z0, z1, ab, nb, cb, ha, fun wr hw => ?_⟩
    obtain ⟨e0, e1, e2, e3⟩ := h wr hw
    exact ⟨⟨e0, e1, e2⟩, checkCell_any n B f IH _ lo wr _ _ _ e3⟩
  clear R hc b0 IH
  by_cases h1 : sizeE x.shape = 0
  · rw [h1] at C1
    by_cases h2 : sizeV x.shape = x.cells.length
    · rw [h2] at C1
      by_cases h3 : hasLong x.shape
      · have hr : Hid (r = 12) := K3.out h1 h2 h3
        have hm := most_long.2 h3
        clear K1 K2 K3 K4 HC h1 h2 h3
        generalize leastL x.shape = P at C2
        generalize mostL x.shape = Q at C2 hm
        generalize x.shape.length = SA at *
        generalize x.cells.length = CA at *
        go_enter Tryz.func85, Tryz.ntmps85
        go_wp2_with fail
        refine C1.mono ?_
        rintro e w1 ⟨rfl, hw⟩
        rw [hw]
        clear hw
        go_wp2_with fail
        refine C2.mono ?_
        rintro e w1 ⟨rfl, hw⟩
        rw [hw]
        clear hw
        go_wp2
        go_ret
        exact ⟨retI hr.out.symm, HB0.out⟩
      · have hr := K4.out h1 h2 h3
        have hm : ¬ 16384 < mostL x.shape := fun h => h3 (most_long.1 h)
        clear K1 K2 K3 K4 h1 h2 h3
        have H0 : Hid (firstUp (chkF f x) 0 = 0) := rfl
        generalize leastL x.shape = P at C2
        generalize mostL x.shape = Q at C2 hm
        generalize chkF f x = F at *
        generalize x.shape.length = SA at *
        generalize x.cells.length = CA at *
        have HR := hide hr
        clear hr
        go_enter Tryz.func85, Tryz.ntmps85
        go_wp2_with fail
        refine C1.mono ?_
        rintro e w1 ⟨rfl, hw⟩
        rw [hw]
        clear hw
        go_wp2_with fail
        refine C2.mono ?_
        rintro e w1 ⟨rfl, hw⟩
        rw [hw]
        clear hw C1 C2
        go_wp2
        go_loopw [37] (fun i wr => ∃ j : Nat, j ≤ CA ∧ i = .int .i64 (j : Int) ∧ firstUp F j = 0 ∧ Below w.heap.size w wr) (fun i _ => CA - (intOf i).toNat)
        case atStart => exact ⟨0, Nat.zero_le _, rfl, H0.out, HB0.out⟩
        case round =>
          clear HB0
          obtain ⟨j, hj, rfl, hz, hnx⟩ := hrel
          have HZ := hide hz
          clear hz
          by_cases hlt : j < CA
          · obtain ⟨b, off, z0, z1, ab, nb, cb, rfl, hcs⟩ := HC.out j hlt
            obtain ⟨⟨k0, k1, k2⟩, -⟩ := hcs wr hnx
            have C : Hid (∀ o, Calls Tryz.prog 112 #[.agg #[.int .i64 z0, .int .i64 z1, .slice ab nb cb], .int .i64 (B : Int)] (wr.alloc o) fun e w' => e = .returned (.int .i64 (F j)) ∧ Below w.heap.size w w') := by
              intro o
              refine ((hcs (wr.alloc o) (hnx.alloc hnx.size o)).2).mono ?_
              rintro e w1 ⟨he, hb⟩
              exact ⟨he, (hnx.alloc hnx.size o).trans (hb.mono (hnx.alloc hnx.size o).size)⟩
            have HT : Hid (F j ≠ 0 → r = F j) := fun h => by rw [HR.out]; exact firstUp_hit HZ.out h CA hlt
            have HS : Hid (firstUp F (j + 1) = F j) := firstUp_step HZ.out
            clear hcs HC
            obtain ⟨z, ez⟩ : ∃ z, F j = z := ⟨_, rfl⟩
            rw [ez] at C HT HS
            clear ez
            by_cases hz0 : z = 0
            · subst hz0
              go_wp2_with fail
              refine (C.out _).mono ?_
              rintro e w1 ⟨rfl, hb1⟩
              go_wp2
              go_roundw
              case rel => exact ⟨j + 1, by omega, by go_num, HS.out, hb1⟩
              case measure => simp [intOf]; omega
            · have HN := hide hz0
              go_wp2_with fail
              refine (C.out _).mono ?_
              rintro e w1 ⟨rfl, hb1⟩
              go_wp2
              go_ret
              exact ⟨retI (HT.out HN.out).symm, hb1⟩
          · have hje : j = CA := by omega
            subst hje
            have hr : Hid (r = 0) := by show r = 0; rw [HR.out]; exact HZ.out
            clear HC HR HZ
            go_wp2
            go_ret
            exact ⟨retI hr.out.symm, hnx⟩
    · have hr : Hid (r = 1) := K2.out h1 h2
      clear K1 K2 K3 K4 HC C2 h1
      generalize sizeV x.shape = S at C1 h2
      generalize x.shape.length = SA at *
      generalize x.cells.length = CA at *
      go_enter Tryz.func85, Tryz.ntmps85
      go_wp2_with fail
      refine C1.mono ?_
      rintro e w1 ⟨rfl, hw⟩
      rw [hw]
      clear hw
      go_wp2
      go_ret
      exact ⟨retI hr.out.symm, HB0.out⟩
  · have hr := hide (K1.out h1)
    clear K1 K2 K3 K4 HC C2
    generalize sizeV x.shape = S at C1
    generalize sizeE x.shape = E at C1 h1 hr
    generalize x.shape.length = SA at *
    generalize x.cells.length = CA at *
    go_enter Tryz.func85, Tryz.ntmps85
    go_wp2_with fail
    refine C1.mono ?_
    rintro e w1 ⟨rfl, hw⟩
    rw [hw]
    clear hw
    go_wp2
    go_ret
    exact ⟨retI hr.out.symm, HB0.out⟩
end Go.Proofs.YtneblkdkhlgmcaaGreatDoor
namespace Go.Proofs.YtneblkdkhlgmcaaGreatDoor
open Go.ChangeShapes Go.WideShapes Go.ChangeAt Go.RowKit
set_option maxRecDepth 100000
set_option linter.unusedVariables false
/-- The arrays of a cell's box, in whatever world is later. -/
theorem boxes_at {n lo : Nat} {w : World} {x : Ar} {a2 : Option Addr} (hc : CellsIn n lo w x.cells a2) (i : Nat) (hi : i < x.cells.length) :
    ∃ b off ab cb, a2 = some ⟨b, off, none⟩ ∧ (cAt x.cells i).2.2.length ≤ 5864062014805 ∧ (∀ wr, Below w.heap.size w wr → wr.cell? ⟨b, off + i * 3 + 2, none⟩ = some (.slice ab (cAt x.cells i).2.2.length cb)) ∧
      ∀ k, k < (cAt x.cells i).2.2.length → ∃ bb ob u0 u1, ab = some ⟨bb, ob, none⟩ ∧ ∀ wr, Below w.heap.size w wr → wr.cell? ⟨bb, ob + k * 2, none⟩ = some u0 ∧ wr.cell? ⟨bb, ob + k * 2 + 1, none⟩ = some u1 ∧ ArIn n lo wr (bAt (cAt x.cells i).2.2 k) (.agg #[u0, u1]) := by
  rcases hc with hc | ⟨b, off, ha, hlo, hb, hc⟩
  · rw [hc] at hi; simp at hi
  obtain ⟨v0, v1, v2, e0, e1, e2, rfl, rfl, ab, cb, rfl, hl, hx⟩ := hc i hi
  refine ⟨b, off, ab, cb, ha, hl, fun wr hw => (hw.cell (p := ⟨b, off + i * 3 + 2, none⟩) hb).trans e2, ?_⟩
  intro k hk
  rcases hx with hx | ⟨bb, ob, rfl, hlo', hbb, hx⟩
  · rw [hx] at hk; simp at hk
  obtain ⟨u0, u1, g0, g1, g2⟩ := hx k hk
  exact ⟨bb, ob, u0, u1, rfl, fun wr hw => ⟨(hw.cell (p := ⟨bb, ob + k * 2, none⟩) hbb).trans g0, (hw.cell (p := ⟨bb, ob + k * 2 + 1, none⟩) hbb).trans g1, g2.next hw⟩⟩
end Go.Proofs.YtneblkdkhlgmcaaGreatDoor
namespace Go.Proofs.YtneblkdkhlgmcaaGreatDoor
open Go.ChangeShapes Go.WideShapes Go.ChangeAt Go.RowKit
set_option maxRecDepth 100000
set_option linter.unusedVariables false
/-- A program: kind, number, name, literal, parts, place. -/
inductive Nd where
  | mk (k o : Int) (s : ByteArray) (l : Ar) (ks : List Nd) (p : Int)
def Nd.kind : Nd → Int
  | .mk k _ _ _ _ _ => k
def Nd.op : Nd → Int
  | .mk _ o _ _ _ _ => o
def Nd.name : Nd → ByteArray
  | .mk _ _ s _ _ _ => s
def Nd.lit : Nd → Ar
  | .mk _ _ _ l _ _ => l
def Nd.kids : Nd → List Nd
  | .mk _ _ _ _ ks _ => ks
def Nd.pos : Nd → Int
  | .mk _ _ _ _ _ p => p
def nNil : Nd := .mk 0 0 ⟨#[]⟩ (.mk [] []) [] 0
/-- The part at a place. -/
def nAt (l : List Nd) (i : Nat) : Nd := l[i]?.getD nNil
/-- A node's value: seven cells. -/
def ndV (x : Nd) (a1 : Option Addr) (c1 : Nat) (a2 : Option Addr) (c2 : Nat) (ak : Option Addr) (ck : Nat) : Value :=
  .agg #[.int .i64 x.kind, .int .i64 x.op, .string x.name, .slice a1 x.lit.shape.length c1, .slice a2 x.lit.cells.length c2, .slice ak x.kids.length ck, .int .i64 x.pos]
/-- Seven cells from a place on. -/
def Seven (w : World) (b o : Nat) (x : Nd) (a1 : Option Addr) (c1 : Nat) (a2 : Option Addr) (c2 : Nat) (ak : Option Addr) (ck : Nat) : Prop :=
  w.cell? ⟨b, o, none⟩ = some (.int .i64 x.kind) ∧ w.cell? ⟨b, o + 1, none⟩ = some (.int .i64 x.op) ∧ w.cell? ⟨b, o + 2, none⟩ = some (.string x.name) ∧
  w.cell? ⟨b, o + 3, none⟩ = some (.slice a1 x.lit.shape.length c1) ∧ w.cell? ⟨b, o + 4, none⟩ = some (.slice a2 x.lit.cells.length c2) ∧
  w.cell? ⟨b, o + 5, none⟩ = some (.slice ak x.kids.length ck) ∧ w.cell? ⟨b, o + 6, none⟩ = some (.int .i64 x.pos)
/-- A program's value, no deeper than m nodes, its literals no deeper than n boxes; all its memory in blocks from lo on. -/
def NdIn : Nat → Nat → Nat → World → Nd → Value → Prop
  | 0, _, _, _, _, _ => False
  | m + 1, n, lo, w, x, v => ∃ a1 c1 a2 c2 ak ck, v = ndV x a1 c1 a2 c2 ak ck ∧ ArIn n lo w x.lit (.agg #[.slice a1 x.lit.shape.length c1, .slice a2 x.lit.cells.length c2]) ∧ x.kids.length ≤ 1256584717421 ∧ x.name.size ≤ 140737488355328 ∧ (x.kids = [] ∨ ∃ b off, ak = some ⟨b, off, none⟩ ∧ lo ≤ b ∧ b < w.heap.size ∧
      ∀ j, j < x.kids.length → ∃ d1 e1 d2 e2 dk ek, Seven w b (off + j * 7) (nAt x.kids j) d1 e1 d2 e2 dk ek ∧ NdIn m n lo w (nAt x.kids j) (ndV (nAt x.kids j) d1 e1 d2 e2 dk ek))
theorem Seven.next {B : Nat} {w w' : World} {b o : Nat} {x : Nd} {a1 a2 ak : Option Addr} {c1 c2 ck : Nat} (h : Seven w b o x a1 c1 a2 c2 ak ck) (hb : Below B w w') (hl : b < B) : Seven w' b o x a1 c1 a2 c2 ak ck := by
  obtain ⟨h0, h1, h2, h3, h4, h5, h6⟩ := h
  exact ⟨(hb.cell (p := ⟨b, _, none⟩) hl).trans h0, (hb.cell (p := ⟨b, _, none⟩) hl).trans h1, (hb.cell (p := ⟨b, _, none⟩) hl).trans h2, (hb.cell (p := ⟨b, _, none⟩) hl).trans h3, (hb.cell (p := ⟨b, _, none⟩) hl).trans h4, (hb.cell (p := ⟨b, _, none⟩) hl).trans h5, (hb.cell (p := ⟨b, _, none⟩) hl).trans h6⟩
theorem NdIn.mono {m n lo lo' : Nat} {w w' : World} {x : Nd} {v : Value} (h : NdIn m n lo w x v) (hl : lo' ≤ lo) (hb : Below w.heap.size w w') : NdIn m n lo' w' x v := by
  induction m generalizing x v with
  | zero => exact h.elim
  | succ m ih =>
    obtain ⟨a1, c1, a2, c2, ak, ck, hv, hA, hlen, hs, hc⟩ := h
    refine ⟨a1, c1, a2, c2, ak, ck, hv, hA.mono hl hb, hlen, hs, ?_⟩
    rcases hc with hc | ⟨b, off, ha, hlo, hbb, hc⟩
    · exact Or.inl hc
    · refine Or.inr ⟨b, off, ha, Nat.le_trans hl hlo, Nat.lt_of_lt_of_le hbb hb.size, fun j hj => ?_⟩
      obtain ⟨d1, e1, d2, e2, dk, ek, hs7, hk⟩ := hc j hj
      exact ⟨d1, e1, d2, e2, dk, ek, hs7.next hb hbb, ih hk⟩
theorem NdIn.next {m n lo : Nat} {w w' : World} {x : Nd} {v : Value} (h : NdIn m n lo w x v) (hb : Below w.heap.size w w') : NdIn m n lo w' x v := h.mono (Nat.le_refl _) hb
theorem NdIn.deeper {m n lo : Nat} {w : World} {x : Nd} {v : Value} (h : NdIn m n lo w x v) : NdIn (m + 1) n lo w x v := by
  induction m generalizing x v with
  | zero => exact h.elim
  | succ m ih =>
    obtain ⟨a1, c1, a2, c2, ak, ck, hv, hA, hlen, hs, hc⟩ := h
    refine ⟨a1, c1, a2, c2, ak, ck, hv, hA, hlen, hs, ?_⟩
    rcases hc with hc | ⟨b, off, ha, hlo, hbb, hc⟩
    · exact Or.inl hc
    · refine Or.inr ⟨b, off, ha, hlo, hbb, fun j hj => ?_⟩
      obtain ⟨d1, e1, d2, e2, dk, ek, hs7, hk⟩ := hc j hj
      exact ⟨d1, e1, d2, e2, dk, ek, hs7, ih hk⟩
theorem NdIn.deep {m m' n lo : Nat} {w : World} {x : Nd} {v : Value} (h : NdIn m n lo w x v) (hm : m ≤ m') : NdIn m' n lo w x v := by
  induction hm with
  | refl => exact h
  | step _ ih => exact ih.deeper
theorem NdIn.boxes {m n n' lo : Nat} {w : World} {x : Nd} {v : Value} (h : NdIn m n lo w x v) (hn : n ≤ n') : NdIn m n' lo w x v := by
  induction m generalizing x v with
  | zero => exact h.elim
  | succ m ih =>
    obtain ⟨a1, c1, a2, c2, ak, ck, hv, hA, hlen, hs, hc⟩ := h
    refine ⟨a1, c1, a2, c2, ak, ck, hv, hA.deep hn, hlen, hs, ?_⟩
    rcases hc with hc | ⟨b, off, ha, hlo, hbb, hc⟩
    · exact Or.inl hc
    · refine Or.inr ⟨b, off, ha, hlo, hbb, fun j hj => ?_⟩
      obtain ⟨d1, e1, d2, e2, dk, ek, hs7, hk⟩ := hc j hj
      exact ⟨d1, e1, d2, e2, dk, ek, hs7, ih hk⟩
/-- The parts of a node, as they lie. -/
def KidsIn (m n lo : Nat) (w : World) (ks : List Nd) (ak : Option Addr) : Prop :=
  ks = [] ∨ ∃ b off, ak = some ⟨b, off, none⟩ ∧ lo ≤ b ∧ b < w.heap.size ∧
      ∀ j, j < ks.length → ∃ d1 e1 d2 e2 dk ek, Seven w b (off + j * 7) (nAt ks j) d1 e1 d2 e2 dk ek ∧ NdIn m n lo w (nAt ks j) (ndV (nAt ks j) d1 e1 d2 e2 dk ek)
theorem KidsIn.mono {m n lo lo' : Nat} {w w' : World} {ks : List Nd} {ak : Option Addr} (h : KidsIn m n lo w ks ak) (hl : lo' ≤ lo) (hb : Below w.heap.size w w') : KidsIn m n lo' w' ks ak := by
  rcases h with h | ⟨b, off, ha, hlo, hbb, hc⟩
  · exact Or.inl h
  · refine Or.inr ⟨b, off, ha, Nat.le_trans hl hlo, Nat.lt_of_lt_of_le hbb hb.size, fun j hj => ?_⟩
    obtain ⟨d1, e1, d2, e2, dk, ek, hs, hk⟩ := hc j hj
    exact ⟨d1, e1, d2, e2, dk, ek, hs.next hb hbb, hk.mono hl hb⟩
/-- Is it so of one of the first so many? -/
def anyUp (f : Nat → Bool) : Nat → Bool
  | 0 => false
  | m + 1 => anyUp f m || f m
theorem anyUp_none {f : Nat → Bool} {m : Nat} : anyUp f m = false ↔ ∀ i, i < m → f i = false := by
  induction m with
  | zero => simp [anyUp]
  | succ m ih =>
    simp only [anyUp, Bool.or_eq_false_iff, ih]
    constructor
    · rintro ⟨h, h'⟩ i hi
      rcases Nat.lt_succ_iff_lt_or_eq.1 hi with hi | rfl
      · exact h i hi
      · exact h'
    · exact fun h => ⟨fun i hi => h i (by omega), h m (by omega)⟩
theorem anyUp_hit {f : Nat → Bool} {i m : Nat} (hi : i < m) (h : f i = true) : anyUp f m = true := by
  cases hh : anyUp f m with
  | true => rfl
  | false => rw [anyUp_none] at hh; rw [hh i hi] at h; cases h
end Go.Proofs.YtneblkdkhlgmcaaGreatDoor
namespace Go.Proofs.YtneblkdkhlgmcaaGreatDoor
open Go.ChangeShapes Go.WideShapes Go.ChangeAt Go.RowKit
set_option maxRecDepth 100000
set_option linter.unusedVariables false
set_option linter.unusedSimpArgs false
/-- A node that was boxed, in a later world. -/
def Box7 (w : World) (B : Nat) (K O : Int) (S : ByteArray) (s1 s2 sk : Value) (P : Int) (wr : World) : Prop :=
  Below w.heap.size w wr ∧ B < wr.heap.size ∧ wr.cell? ⟨B, 0, none⟩ = some (.int .i64 K) ∧ wr.cell? ⟨B, 1, none⟩ = some (.int .i64 O) ∧ wr.cell? ⟨B, 2, none⟩ = some (.string S) ∧ wr.cell? ⟨B, 3, none⟩ = some s1 ∧ wr.cell? ⟨B, 4, none⟩ = some s2 ∧ wr.cell? ⟨B, 5, none⟩ = some sk ∧ wr.cell? ⟨B, 6, none⟩ = some (.int .i64 P)
theorem Box7.next {w : World} {B : Nat} {K O : Int} {S : ByteArray} {s1 s2 sk : Value} {P : Int} {wr w' : World} (h : Box7 w B K O S s1 s2 sk P wr) (hb : Below wr.heap.size wr w') : Box7 w B K O S s1 s2 sk P w' := by
  obtain ⟨h0, hs, q0, q1, q2, q3, q4, q5, q6⟩ := h
  exact ⟨h0.trans (hb.mono h0.size), Nat.lt_of_lt_of_le hs hb.size, (hb.cell (p := ⟨B, 0, none⟩) hs).trans q0, (hb.cell (p := ⟨B, 1, none⟩) hs).trans q1, (hb.cell (p := ⟨B, 2, none⟩) hs).trans q2, (hb.cell (p := ⟨B, 3, none⟩) hs).trans q3, (hb.cell (p := ⟨B, 4, none⟩) hs).trans q4, (hb.cell (p := ⟨B, 5, none⟩) hs).trans q5, (hb.cell (p := ⟨B, 6, none⟩) hs).trans q6⟩
end Go.Proofs.YtneblkdkhlgmcaaGreatDoor
namespace Go.Proofs.YtneblkdkhlgmcaaGreatDoor.Rn
theorem or128_all : ∀ n : Fin 64, bits BinOp.or IntKind.u8 128 (n.val : Int) = 128 + (n.val : Int) := by decide +kernel
theorem or192_all : ∀ n : Fin 32, bits BinOp.or IntKind.u8 192 (n.val : Int) = 192 + (n.val : Int) := by decide +kernel
theorem or224_all : ∀ n : Fin 16, bits BinOp.or IntKind.u8 224 (n.val : Int) = 224 + (n.val : Int) := by decide +kernel
theorem or240_all : ∀ n : Fin 8, bits BinOp.or IntKind.u8 240 (n.val : Int) = 240 + (n.val : Int) := by decide +kernel
theorem or128 {c : Int} (h0 : 0 ≤ c) (h1 : c < 64) : bits BinOp.or IntKind.u8 128 c = 128 + c := by
  have := or128_all ⟨c.toNat, by omega⟩
  simpa [Int.toNat_of_nonneg h0] using this
theorem or192 {c : Int} (h0 : 0 ≤ c) (h1 : c < 32) : bits BinOp.or IntKind.u8 192 c = 192 + c := by
  have := or192_all ⟨c.toNat, by omega⟩
  simpa [Int.toNat_of_nonneg h0] using this
theorem or224 {c : Int} (h0 : 0 ≤ c) (h1 : c < 16) : bits BinOp.or IntKind.u8 224 c = 224 + c := by
  have := or224_all ⟨c.toNat, by omega⟩
  simpa [Int.toNat_of_nonneg h0] using this
theorem or240 {c : Int} (h0 : 0 ≤ c) (h1 : c < 8) : bits BinOp.or IntKind.u8 240 c = 240 + c := by
  have := or240_all ⟨c.toNat, by omega⟩
  simpa [Int.toNat_of_nonneg h0] using this
theorem ofInt64 (a : Nat) (ha : a < 18446744073709551616) : (BitVec.ofInt 64 (a : Int)).toNat = a := by
  rw [BitVec.ofInt_natCast, BitVec.toNat_ofNat]; exact Nat.mod_eq_of_lt (by omega)
/-- The last six bits of a number that is not below 0. -/
theorem and63w {n : Int} (h0 : 0 ≤ n) (h1 : n < 4611686018427387904) : bits BinOp.and IntKind.i64 n 63 = n % 64 := by
  obtain ⟨a, rfl⟩ := Int.eq_ofNat_of_zero_le h0
  have e : a &&& 63 = a % 64 := Nat.and_two_pow_sub_one_eq_mod a 6
  show IntKind.i64.wrap ((BitVec.ofInt 64 (a : Int) &&& BitVec.ofInt 64 ((63 : Nat) : Int)).toNat : Int) = _
  rw [BitVec.toNat_and, ofInt64 a (by omega), ofInt64 63 (by omega), e]
  have : a % 64 < 64 := Nat.mod_lt _ (by omega)
  simp [IntKind.wrap, IntKind.bits, IntKind.signed]
  omega
def least (k : Nat) : Int := [0, 128, 2048, 65536].getD k 0
end Go.Proofs.YtneblkdkhlgmcaaGreatDoor.Rn
namespace Go.Proofs.YtneblkdkhlgmcaaGreatDoor.Rn
open Go.ChangeShapes Go.WideShapes Go.ChangeAt Go.RowKit
set_option maxRecDepth 100000
/-- The table of the least numbers lies in its place. -/
def Tab (w : World) : Prop := 1 < w.heap.size ∧ ∀ k, k < 4 → w.cell? ⟨1, k, none⟩ = some (.int .i64 (least k))
theorem Tab.below {w w' : World} {B : Nat} (h : Tab w) (hb : Below B w w') (hB : 1 < B) : Tab w' :=
  ⟨Nat.lt_of_lt_of_le h.1 hb.size, fun k hk => (hb.cell (p := ⟨1, k, none⟩) hB).trans (h.2 k hk)⟩
/-- A slice of integers, as a row of numbers. -/
def Row (k : IntKind) (w : World) (a : Option Addr) (zs : List Int) : Prop :=
  zs.length ≤ 140737488355328 ∧ (zs = [] ∨ ∃ b off, a = some ⟨b, off, none⟩ ∧ b < w.heap.size ∧ ∀ i, i < zs.length → w.cell? ⟨b, off + i, none⟩ = some (.int k (zs[i]?.getD 0)))
theorem Row.below {k : IntKind} {w w1 : World} {a : Option Addr} {zs : List Int} {B : Nat} (h : Row k w a zs) (hb : Below B w w1) (hB : ∀ x, a = some x → x.block < B) : Row k w1 a zs := by
  obtain ⟨h2, h3⟩ := h
  refine ⟨h2, ?_⟩
  rcases h3 with h3 | ⟨b, off, ha, hbb, hc⟩
  · exact Or.inl h3
  · have hB' := hB _ ha
    exact Or.inr ⟨b, off, ha, Nat.lt_of_lt_of_le hbb hb.size, fun i hi => (hb.cell (p := ⟨b, off + i, none⟩) hB').trans (hc i hi)⟩
theorem Row.next {k : IntKind} {w w1 : World} {a : Option Addr} {zs : List Int} (h : Row k w a zs) (hb : Below w.heap.size w w1) : Row k w1 a zs := by
  obtain ⟨h2, h3⟩ := h
  refine ⟨h2, ?_⟩
  rcases h3 with h3 | ⟨b, off, ha, hbb, hc⟩
  · exact Or.inl h3
  · exact Or.inr ⟨b, off, ha, Nat.lt_of_lt_of_le hbb hb.size, fun i hi => (hb.cell (p := ⟨b, off + i, none⟩) hbb).trans (hc i hi)⟩
end Go.Proofs.YtneblkdkhlgmcaaGreatDoor.Rn
