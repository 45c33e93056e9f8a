/-
  NARROWER THAN 'FOR EVERY INPUT', by the rows' own cells (each row's printed sentence says how): AlexBlanks: laid · AlexPlaces: laid · AlexRemarks: laid · AlexTexts: laid.
  DERIVED. THE GIVEN ROWS OF THIS SEAT. 4 by the template 'for every input the law returns true; each argument reads behind the call as it read before'; 0 by the template 'total and deterministic' (their statements: YtblpapidgpmgfaaDoorTotals.lean).
  GIVEN WITH THE SEED: the statements are not yours to turn. If you find one false, say at which input.
  Laid BY PROGRAM, IN A SANDBOX (cutbox-rows.mjs): the forced cells as the released guide's own fill.sh prints them over the translation bb138cd7c7726cb1… (all of the seat's roots in one cut). By AI agents, Wed Nov 11 2026. No macro, syntax, notation, axiom, sorry.
-/
import Derived.Test.YtblpapidgpmgfaaDoorChecked
import GoSem.Claim
import GoSem.ClaimJoined
import GoSem.ClaimMapViews
import Derived.JoinedTies
import Derived.KernelRfl
namespace Go.Proofs.YtblpapidgpmgfaaDoor
/- THE CELL 'sum', in the pinned program and in every row, IS THE sha256 OF THE DUMP (.gsa) THAT YtblpapidgpmgfaaDoorProg.lean LOADS. Nothing in Lean hashes anything: it is a label: what it is worth is what the hold of that sum in a sandbox is worth. -/
noncomputable def Tryd.pinned : Pinned := { name := "ytblpapidgpmgfaadoor", sum := "bb138cd7c7726cb1988e0c59c4673a75110b38163813d2662adfb63e296e9e2c", checked := Tryd.checked }
namespace Rows
def none {H : Type} : Left H := { results := [], args := [] }

/- WHAT THE LISTED PACKAGE-LEVEL VARIABLES READ AS WHEN THE CALL BEGINS. Each datum BY PROGRAM (the guide's laid-datum.mjs) off the statement by which the dump's own 'gosem.cut.vars' lays the variable. In a bare row this is a premise. The card (YtblpapidgpmgfaaDoorCards.lean) ties it to the program's text. -/
def laid_math_bits_deBruijn32tab {H : Type} : DataW H := .agg [.lit (.int .u8 0), .lit (.int .u8 1), .lit (.int .u8 28), .lit (.int .u8 2), .lit (.int .u8 29), .lit (.int .u8 14), .lit (.int .u8 24), .lit (.int .u8 3), .lit (.int .u8 30), .lit (.int .u8 22), .lit (.int .u8 20), .lit (.int .u8 15), .lit (.int .u8 25), .lit (.int .u8 17), .lit (.int .u8 4), .lit (.int .u8 8), .lit (.int .u8 31), .lit (.int .u8 27), .lit (.int .u8 13), .lit (.int .u8 23), .lit (.int .u8 21), .lit (.int .u8 19), .lit (.int .u8 16), .lit (.int .u8 7), .lit (.int .u8 26), .lit (.int .u8 12), .lit (.int .u8 18), .lit (.int .u8 6), .lit (.int .u8 11), .lit (.int .u8 5), .lit (.int .u8 10), .lit (.int .u8 9)]
def laid_math_bits_deBruijn64tab {H : Type} : DataW H := .agg [.lit (.int .u8 0), .lit (.int .u8 1), .lit (.int .u8 56), .lit (.int .u8 2), .lit (.int .u8 57), .lit (.int .u8 49), .lit (.int .u8 28), .lit (.int .u8 3), .lit (.int .u8 61), .lit (.int .u8 58), .lit (.int .u8 42), .lit (.int .u8 50), .lit (.int .u8 38), .lit (.int .u8 29), .lit (.int .u8 17), .lit (.int .u8 4), .lit (.int .u8 62), .lit (.int .u8 47), .lit (.int .u8 59), .lit (.int .u8 36), .lit (.int .u8 45), .lit (.int .u8 43), .lit (.int .u8 51), .lit (.int .u8 22), .lit (.int .u8 53), .lit (.int .u8 39), .lit (.int .u8 33), .lit (.int .u8 30), .lit (.int .u8 24), .lit (.int .u8 18), .lit (.int .u8 12), .lit (.int .u8 5), .lit (.int .u8 63), .lit (.int .u8 55), .lit (.int .u8 48), .lit (.int .u8 27), .lit (.int .u8 60), .lit (.int .u8 41), .lit (.int .u8 37), .lit (.int .u8 16), .lit (.int .u8 46), .lit (.int .u8 35), .lit (.int .u8 44), .lit (.int .u8 21), .lit (.int .u8 52), .lit (.int .u8 32), .lit (.int .u8 23), .lit (.int .u8 11), .lit (.int .u8 54), .lit (.int .u8 26), .lit (.int .u8 40), .lit (.int .u8 15), .lit (.int .u8 34), .lit (.int .u8 20), .lit (.int .u8 31), .lit (.int .u8 10), .lit (.int .u8 25), .lit (.int .u8 14), .lit (.int .u8 19), .lit (.int .u8 9), .lit (.int .u8 13), .lit (.int .u8 8), .lit (.int .u8 7), .lit (.int .u8 6)]
def laid_internal_strconv_uint64pow10 {H : Type} : DataW H := .agg [.lit (.int .u64 1), .lit (.int .u64 10), .lit (.int .u64 100), .lit (.int .u64 1000), .lit (.int .u64 10000), .lit (.int .u64 100000), .lit (.int .u64 1000000), .lit (.int .u64 10000000), .lit (.int .u64 100000000), .lit (.int .u64 1000000000), .lit (.int .u64 10000000000), .lit (.int .u64 100000000000), .lit (.int .u64 1000000000000), .lit (.int .u64 10000000000000), .lit (.int .u64 100000000000000), .lit (.int .u64 1000000000000000), .lit (.int .u64 10000000000000000), .lit (.int .u64 100000000000000000), .lit (.int .u64 1000000000000000000), .lit (.int .u64 10000000000000000000)]
def laid_strconv_ErrRange {H : Type} : DataW H := .iface "*errors.errorString" (.ptr (.agg [.lit (.string [118, 97, 108, 117, 101, 32, 111, 117, 116, 32, 111, 102, 32, 114, 97, 110, 103, 101])]))
def laid_strconv_ErrSyntax {H : Type} : DataW H := .iface "*errors.errorString" (.ptr (.agg [.lit (.string [105, 110, 118, 97, 108, 105, 100, 32, 115, 121, 110, 116, 97, 120])]))
def laid_triglyph_runes_leasts {H : Type} : DataW H := .agg [.lit (.int .i64 0), .lit (.int .i64 128), .lit (.int .i64 2048), .lit (.int .i64 65536)]
def laid_triglyph_alex_ofOne {H : Type} : DataW H := .agg [.agg [.lit (.int .i64 3), .lit (.string [226, 141, 186, 226, 141, 181])], .agg [.lit (.int .i64 7), .lit (.string [226, 134, 144])], .agg [.lit (.int .i64 5), .lit (.string [40, 123, 91])], .agg [.lit (.int .i64 6), .lit (.string [41, 125, 93])], .agg [.lit (.int .i64 4), .lit (.string [43, 45, 195, 151, 124, 126, 226, 141, 179, 226, 141, 180, 226, 137, 162, 44, 226, 138, 150, 226, 140, 189, 226, 141, 137, 226, 141, 139, 226, 141, 146, 226, 136, 170, 226, 138, 130, 226, 138, 131, 195, 183, 226, 140, 138, 226, 140, 136, 61, 226, 137, 160, 60, 62, 226, 137, 164, 226, 137, 165, 226, 134, 145, 226, 134, 147, 226, 141, 170, 226, 136, 138, 226, 140, 191, 47, 92, 226, 141, 128, 226, 140, 183, 226, 141, 168, 226, 141, 163, 226, 139, 132])]]
def laid_triglyph_alex_ofMore {H : Type} : DataW H := .agg [.agg [.lit (.int .i64 3), .lit (.string [226, 142, 149, 73, 79])], .agg [.lit (.int .i64 4), .lit (.string [226, 136, 152, 46])]]

/-- 'triglyphlaw12.AlexBlanks': WHATEVER THE INPUT: true; the input reads as it did. -/
def alexBlanksSpec : ChangeSpec := { name := "alexBlanks", fn := fun _ => fun
  | [d1, d2] => { results := [.lit (.bool true)], args := [d1, d2] }
  | _ => none }
def alexBlanksRow : OpenClaim := { program := "ytblpapidgpmgfaadoor", sum := "bb138cd7c7726cb1988e0c59c4673a75110b38163813d2662adfb63e296e9e2c", func := "triglyph/triglyphlaw12.AlexBlanks", spec := "alexBlanks", inPlace := ["internal/bytealg.IndexByteString", "internal/bytealg.IndexString"], recurses := true, named := ["strconv.ErrSyntax", "strconv.ErrRange", "internal/strconv.uint64pow10", "math/bits.deBruijn32tab", "math/bits.deBruijn64tab", "triglyph/runes.leasts", "triglyph/alex.ofMore", "triglyph/alex.ofOne", "internal/bytealg.MaxLen"], apart := false, laid := [("math/bits.deBruijn32tab", laid_math_bits_deBruijn32tab), ("math/bits.deBruijn64tab", laid_math_bits_deBruijn64tab), ("internal/strconv.uint64pow10", laid_internal_strconv_uint64pow10), ("strconv.ErrRange", laid_strconv_ErrRange), ("strconv.ErrSyntax", laid_strconv_ErrSyntax), ("triglyph/runes.leasts", laid_triglyph_runes_leasts), ("triglyph/alex.ofOne", laid_triglyph_alex_ofOne), ("triglyph/alex.ofMore", laid_triglyph_alex_ofMore)] }
def AlexBlanksSaid : Prop := alexBlanksRow.holds Tryd.pinned (OpenSpec.ofChange alexBlanksSpec)

/-- ITS FALSE NEIGHBOUR: 'it returns false'. Refute it at one input. -/
def alexBlanksWrong : ChangeSpec := { name := "alexBlanks", fn := fun _ => fun
  | [d1, d2] => { results := [.lit (.bool false)], args := [d1, d2] }
  | _ => none }
def AlexBlanksWrongFalsely : Prop := alexBlanksRow.holds Tryd.pinned (OpenSpec.ofChange alexBlanksWrong)

/-- 'triglyphlaw12.AlexPlaces': WHATEVER THE INPUT: true; the input reads as it did. -/
def alexPlacesSpec : ChangeSpec := { name := "alexPlaces", fn := fun _ => fun
  | [d] => { results := [.lit (.bool true)], args := [d] }
  | _ => none }
def alexPlacesRow : OpenClaim := { program := "ytblpapidgpmgfaadoor", sum := "bb138cd7c7726cb1988e0c59c4673a75110b38163813d2662adfb63e296e9e2c", func := "triglyph/triglyphlaw12.AlexPlaces", spec := "alexPlaces", inPlace := ["internal/bytealg.IndexByteString", "internal/bytealg.IndexString"], recurses := true, named := ["strconv.ErrSyntax", "strconv.ErrRange", "internal/strconv.uint64pow10", "math/bits.deBruijn32tab", "math/bits.deBruijn64tab", "triglyph/runes.leasts", "triglyph/alex.ofMore", "triglyph/alex.ofOne", "internal/bytealg.MaxLen"], apart := false, laid := [("math/bits.deBruijn32tab", laid_math_bits_deBruijn32tab), ("math/bits.deBruijn64tab", laid_math_bits_deBruijn64tab), ("internal/strconv.uint64pow10", laid_internal_strconv_uint64pow10), ("strconv.ErrRange", laid_strconv_ErrRange), ("strconv.ErrSyntax", laid_strconv_ErrSyntax), ("triglyph/runes.leasts", laid_triglyph_runes_leasts), ("triglyph/alex.ofOne", laid_triglyph_alex_ofOne), ("triglyph/alex.ofMore", laid_triglyph_alex_ofMore)] }
def AlexPlacesSaid : Prop := alexPlacesRow.holds Tryd.pinned (OpenSpec.ofChange alexPlacesSpec)

/-- ITS FALSE NEIGHBOUR: 'it returns false'. Refute it at one input. -/
def alexPlacesWrong : ChangeSpec := { name := "alexPlaces", fn := fun _ => fun
  | [d] => { results := [.lit (.bool false)], args := [d] }
  | _ => none }
def AlexPlacesWrongFalsely : Prop := alexPlacesRow.holds Tryd.pinned (OpenSpec.ofChange alexPlacesWrong)

/-- 'triglyphlaw12.AlexRemarks': WHATEVER THE INPUT: true; the input reads as it did. -/
def alexRemarksSpec : ChangeSpec := { name := "alexRemarks", fn := fun _ => fun
  | [d1, d2] => { results := [.lit (.bool true)], args := [d1, d2] }
  | _ => none }
def alexRemarksRow : OpenClaim := { program := "ytblpapidgpmgfaadoor", sum := "bb138cd7c7726cb1988e0c59c4673a75110b38163813d2662adfb63e296e9e2c", func := "triglyph/triglyphlaw12.AlexRemarks", spec := "alexRemarks", inPlace := ["internal/bytealg.IndexByteString", "internal/bytealg.IndexString"], recurses := true, named := ["strconv.ErrSyntax", "strconv.ErrRange", "internal/strconv.uint64pow10", "math/bits.deBruijn32tab", "math/bits.deBruijn64tab", "triglyph/runes.leasts", "triglyph/alex.ofMore", "triglyph/alex.ofOne", "internal/bytealg.MaxLen"], apart := false, laid := [("math/bits.deBruijn32tab", laid_math_bits_deBruijn32tab), ("math/bits.deBruijn64tab", laid_math_bits_deBruijn64tab), ("internal/strconv.uint64pow10", laid_internal_strconv_uint64pow10), ("strconv.ErrRange", laid_strconv_ErrRange), ("strconv.ErrSyntax", laid_strconv_ErrSyntax), ("triglyph/runes.leasts", laid_triglyph_runes_leasts), ("triglyph/alex.ofOne", laid_triglyph_alex_ofOne), ("triglyph/alex.ofMore", laid_triglyph_alex_ofMore)] }
def AlexRemarksSaid : Prop := alexRemarksRow.holds Tryd.pinned (OpenSpec.ofChange alexRemarksSpec)

/-- ITS FALSE NEIGHBOUR: 'it returns false'. Refute it at one input. -/
def alexRemarksWrong : ChangeSpec := { name := "alexRemarks", fn := fun _ => fun
  | [d1, d2] => { results := [.lit (.bool false)], args := [d1, d2] }
  | _ => none }
def AlexRemarksWrongFalsely : Prop := alexRemarksRow.holds Tryd.pinned (OpenSpec.ofChange alexRemarksWrong)

/-- 'triglyphlaw12.AlexTexts': WHATEVER THE INPUT: true; the input reads as it did. -/
def alexTextsSpec : ChangeSpec := { name := "alexTexts", fn := fun _ => fun
  | [d] => { results := [.lit (.bool true)], args := [d] }
  | _ => none }
def alexTextsRow : OpenClaim := { program := "ytblpapidgpmgfaadoor", sum := "bb138cd7c7726cb1988e0c59c4673a75110b38163813d2662adfb63e296e9e2c", func := "triglyph/triglyphlaw12.AlexTexts", spec := "alexTexts", inPlace := ["internal/bytealg.IndexByteString", "internal/bytealg.IndexString"], recurses := true, named := ["strconv.ErrSyntax", "strconv.ErrRange", "internal/strconv.uint64pow10", "math/bits.deBruijn32tab", "math/bits.deBruijn64tab", "triglyph/runes.leasts", "triglyph/alex.ofMore", "triglyph/alex.ofOne", "internal/bytealg.MaxLen"], apart := false, laid := [("math/bits.deBruijn32tab", laid_math_bits_deBruijn32tab), ("math/bits.deBruijn64tab", laid_math_bits_deBruijn64tab), ("internal/strconv.uint64pow10", laid_internal_strconv_uint64pow10), ("strconv.ErrRange", laid_strconv_ErrRange), ("strconv.ErrSyntax", laid_strconv_ErrSyntax), ("triglyph/runes.leasts", laid_triglyph_runes_leasts), ("triglyph/alex.ofOne", laid_triglyph_alex_ofOne), ("triglyph/alex.ofMore", laid_triglyph_alex_ofMore)] }
def AlexTextsSaid : Prop := alexTextsRow.holds Tryd.pinned (OpenSpec.ofChange alexTextsSpec)

/-- ITS FALSE NEIGHBOUR: 'it returns false'. Refute it at one input. -/
def alexTextsWrong : ChangeSpec := { name := "alexTexts", fn := fun _ => fun
  | [d] => { results := [.lit (.bool false)], args := [d] }
  | _ => none }
def AlexTextsWrongFalsely : Prop := alexTextsRow.holds Tryd.pinned (OpenSpec.ofChange alexTextsWrong)

/- THE SECOND FORM. 'bulk': how many values and letters a reading holds, each counted each time it is reached (what is shared counts as often as it is met; a slice's spare places count too). A statement '..UptoSaid' is the law's where the arguments, and the package variables that the reading takes, are together of bulk at most 1048576: NARROWER than '..Said'. Prove '..Said' where nothing that the law and all that it calls make is longer than what came in: it says more and counts as full. Else prove '..UptoSaid'. A law counts once. -/
mutual
def uptoBulk {H : Type} : DataW H → Nat
  | .lit (.string bytes) => bytes.length + 1
  | .lit _ => 1
  | .nil => 1
  | .ptr d => uptoBulk d + 1
  | .slice elems spare => uptoBulkAll elems + uptoBulkAll spare + 1
  | .agg parts => uptoBulkAll parts + 1
  | .iface _ d => uptoBulk d + 1
  | .map entries => uptoBulkEntries entries + 1
  | .held _ => 1
def uptoBulkAll {H : Type} : List (DataW H) → Nat
  | [] => 0
  | d :: r => uptoBulk d + uptoBulkAll r
def uptoBulkEntries {H : Type} : List (Lit × DataW H) → Nat
  | [] => 0
  | x :: r => uptoBulkEntry x + uptoBulkEntries r
def uptoBulkEntry {H : Type} : Lit × DataW H → Nat
  | (.string bytes, d) => bytes.length + uptoBulk d + 1
  | (_, d) => uptoBulk d + 1
 end
def uptoSmall : (H : Type) → List (DataW H) → Bool := fun _ ds => decide (uptoBulkAll ds ≤ 1048576)
def OpenSpec.upto (s : _root_.Go.ChangeSpec) : _root_.Go.OpenSpec := { _root_.Go.OpenSpec.ofChange s with cond := some uptoSmall }

/-- 'triglyphlaw12.AlexBlanks', WHERE WHAT IT READS IS OF BULK AT MOST 1048576: true; the input reads as it did. -/
def alexBlanksUptoRow : OpenClaim := { program := "ytblpapidgpmgfaadoor", sum := "bb138cd7c7726cb1988e0c59c4673a75110b38163813d2662adfb63e296e9e2c", func := "triglyph/triglyphlaw12.AlexBlanks", spec := "alexBlanks", inPlace := ["internal/bytealg.IndexByteString", "internal/bytealg.IndexString"], recurses := true, named := ["strconv.ErrSyntax", "strconv.ErrRange", "internal/strconv.uint64pow10", "math/bits.deBruijn32tab", "math/bits.deBruijn64tab", "triglyph/runes.leasts", "triglyph/alex.ofMore", "triglyph/alex.ofOne", "internal/bytealg.MaxLen"], apart := false, laid := [("math/bits.deBruijn32tab", laid_math_bits_deBruijn32tab), ("math/bits.deBruijn64tab", laid_math_bits_deBruijn64tab), ("internal/strconv.uint64pow10", laid_internal_strconv_uint64pow10), ("strconv.ErrRange", laid_strconv_ErrRange), ("strconv.ErrSyntax", laid_strconv_ErrSyntax), ("triglyph/runes.leasts", laid_triglyph_runes_leasts), ("triglyph/alex.ofOne", laid_triglyph_alex_ofOne), ("triglyph/alex.ofMore", laid_triglyph_alex_ofMore)], narrowed := true }
def AlexBlanksUptoSaid : Prop := alexBlanksUptoRow.holds Tryd.pinned (OpenSpec.upto alexBlanksSpec)

/-- 'triglyphlaw12.AlexPlaces', WHERE WHAT IT READS IS OF BULK AT MOST 1048576: true; the input reads as it did. -/
def alexPlacesUptoRow : OpenClaim := { program := "ytblpapidgpmgfaadoor", sum := "bb138cd7c7726cb1988e0c59c4673a75110b38163813d2662adfb63e296e9e2c", func := "triglyph/triglyphlaw12.AlexPlaces", spec := "alexPlaces", inPlace := ["internal/bytealg.IndexByteString", "internal/bytealg.IndexString"], recurses := true, named := ["strconv.ErrSyntax", "strconv.ErrRange", "internal/strconv.uint64pow10", "math/bits.deBruijn32tab", "math/bits.deBruijn64tab", "triglyph/runes.leasts", "triglyph/alex.ofMore", "triglyph/alex.ofOne", "internal/bytealg.MaxLen"], apart := false, laid := [("math/bits.deBruijn32tab", laid_math_bits_deBruijn32tab), ("math/bits.deBruijn64tab", laid_math_bits_deBruijn64tab), ("internal/strconv.uint64pow10", laid_internal_strconv_uint64pow10), ("strconv.ErrRange", laid_strconv_ErrRange), ("strconv.ErrSyntax", laid_strconv_ErrSyntax), ("triglyph/runes.leasts", laid_triglyph_runes_leasts), ("triglyph/alex.ofOne", laid_triglyph_alex_ofOne), ("triglyph/alex.ofMore", laid_triglyph_alex_ofMore)], narrowed := true }
def AlexPlacesUptoSaid : Prop := alexPlacesUptoRow.holds Tryd.pinned (OpenSpec.upto alexPlacesSpec)

/-- 'triglyphlaw12.AlexRemarks', WHERE WHAT IT READS IS OF BULK AT MOST 1048576: true; the input reads as it did. -/
def alexRemarksUptoRow : OpenClaim := { program := "ytblpapidgpmgfaadoor", sum := "bb138cd7c7726cb1988e0c59c4673a75110b38163813d2662adfb63e296e9e2c", func := "triglyph/triglyphlaw12.AlexRemarks", spec := "alexRemarks", inPlace := ["internal/bytealg.IndexByteString", "internal/bytealg.IndexString"], recurses := true, named := ["strconv.ErrSyntax", "strconv.ErrRange", "internal/strconv.uint64pow10", "math/bits.deBruijn32tab", "math/bits.deBruijn64tab", "triglyph/runes.leasts", "triglyph/alex.ofMore", "triglyph/alex.ofOne", "internal/bytealg.MaxLen"], apart := false, laid := [("math/bits.deBruijn32tab", laid_math_bits_deBruijn32tab), ("math/bits.deBruijn64tab", laid_math_bits_deBruijn64tab), ("internal/strconv.uint64pow10", laid_internal_strconv_uint64pow10), ("strconv.ErrRange", laid_strconv_ErrRange), ("strconv.ErrSyntax", laid_strconv_ErrSyntax), ("triglyph/runes.leasts", laid_triglyph_runes_leasts), ("triglyph/alex.ofOne", laid_triglyph_alex_ofOne), ("triglyph/alex.ofMore", laid_triglyph_alex_ofMore)], narrowed := true }
def AlexRemarksUptoSaid : Prop := alexRemarksUptoRow.holds Tryd.pinned (OpenSpec.upto alexRemarksSpec)

/-- 'triglyphlaw12.AlexTexts', WHERE WHAT IT READS IS OF BULK AT MOST 1048576: true; the input reads as it did. -/
def alexTextsUptoRow : OpenClaim := { program := "ytblpapidgpmgfaadoor", sum := "bb138cd7c7726cb1988e0c59c4673a75110b38163813d2662adfb63e296e9e2c", func := "triglyph/triglyphlaw12.AlexTexts", spec := "alexTexts", inPlace := ["internal/bytealg.IndexByteString", "internal/bytealg.IndexString"], recurses := true, named := ["strconv.ErrSyntax", "strconv.ErrRange", "internal/strconv.uint64pow10", "math/bits.deBruijn32tab", "math/bits.deBruijn64tab", "triglyph/runes.leasts", "triglyph/alex.ofMore", "triglyph/alex.ofOne", "internal/bytealg.MaxLen"], apart := false, laid := [("math/bits.deBruijn32tab", laid_math_bits_deBruijn32tab), ("math/bits.deBruijn64tab", laid_math_bits_deBruijn64tab), ("internal/strconv.uint64pow10", laid_internal_strconv_uint64pow10), ("strconv.ErrRange", laid_strconv_ErrRange), ("strconv.ErrSyntax", laid_strconv_ErrSyntax), ("triglyph/runes.leasts", laid_triglyph_runes_leasts), ("triglyph/alex.ofOne", laid_triglyph_alex_ofOne), ("triglyph/alex.ofMore", laid_triglyph_alex_ofMore)], narrowed := true }
def AlexTextsUptoSaid : Prop := alexTextsUptoRow.holds Tryd.pinned (OpenSpec.upto alexTextsSpec)

end Rows
end Go.Proofs.YtblpapidgpmgfaaDoor
