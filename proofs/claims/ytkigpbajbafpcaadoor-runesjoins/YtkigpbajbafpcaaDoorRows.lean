/-
  NARROWER THAN 'FOR EVERY INPUT', by the rows' own cells (each row's printed sentence says how): RunesWrites: laid · RunesReads: laid · RunesBack: laid · RunesOne: laid · RunesJoins: laid.
  DERIVED. THE GIVEN ROWS OF THIS SEAT. 5 by the template 'for every input the law returns true; each argument reads behind the call as it read before'; 0 by the template 'total and deterministic' (their statements: YtkigpbajbafpcaaDoorTotals.lean).
  GIVEN WITH THE SEED: the statements are not yours to turn. If you find one false, say at which input.
  Laid BY PROGRAM, IN A SANDBOX (cutbox-rows.mjs): the forced cells as the released guide's own fill.sh prints them over the translation 9115be02046e990c… (all of the seat's roots in one cut). By AI agents, Wed Nov 11 2026. No macro, syntax, notation, axiom, sorry.
-/
import Derived.Test.YtkigpbajbafpcaaDoorChecked
import GoSem.Claim
import GoSem.ClaimJoined
import GoSem.ClaimMapViews
import Derived.JoinedTies
import Derived.KernelRfl
namespace Go.Proofs.YtkigpbajbafpcaaDoor
/- THE CELL 'sum', in the pinned program and in every row, IS THE sha256 OF THE DUMP (.gsa) THAT YtkigpbajbafpcaaDoorProg.lean LOADS. Nothing in Lean hashes anything: it is a label: what it is worth is what the hold of that sum in a sandbox is worth. -/
noncomputable def Tryd.pinned : Pinned := { name := "ytkigpbajbafpcaadoor", sum := "9115be02046e990c50f13e628f22fa2b7fbd23466fd27ed5c8ca5e2f09ed959c", checked := Tryd.checked }
namespace Rows
def none {H : Type} : Left H := { results := [], args := [] }

/- WHAT THE LISTED PACKAGE-LEVEL VARIABLES READ AS WHEN THE CALL BEGINS. Each datum BY PROGRAM (the guide's laid-datum.mjs) off the statement by which the dump's own 'gosem.cut.vars' lays the variable. In a bare row this is a premise. The card (YtkigpbajbafpcaaDoorCards.lean) ties it to the program's text. -/
def laid_triglyph_runes_leasts {H : Type} : DataW H := .agg [.lit (.int .i64 0), .lit (.int .i64 128), .lit (.int .i64 2048), .lit (.int .i64 65536)]

/-- 'triglyphlaw02.RunesWrites': WHATEVER THE INPUT: true; the input reads as it did. -/
def runesWritesSpec : ChangeSpec := { name := "runesWrites", fn := fun _ => fun
  | [d1, d2] => { results := [.lit (.bool true)], args := [d1, d2] }
  | _ => none }
def runesWritesRow : OpenClaim := { program := "ytkigpbajbafpcaadoor", sum := "9115be02046e990c50f13e628f22fa2b7fbd23466fd27ed5c8ca5e2f09ed959c", func := "triglyph/triglyphlaw02.RunesWrites", spec := "runesWrites", named := ["triglyph/runes.leasts"], apart := false, laid := [("triglyph/runes.leasts", laid_triglyph_runes_leasts)] }
def RunesWritesSaid : Prop := runesWritesRow.holds Tryd.pinned (OpenSpec.ofChange runesWritesSpec)

/-- ITS FALSE NEIGHBOUR: 'it returns false'. Refute it at one input. -/
def runesWritesWrong : ChangeSpec := { name := "runesWrites", fn := fun _ => fun
  | [d1, d2] => { results := [.lit (.bool false)], args := [d1, d2] }
  | _ => none }
def RunesWritesWrongFalsely : Prop := runesWritesRow.holds Tryd.pinned (OpenSpec.ofChange runesWritesWrong)

/-- 'triglyphlaw02.RunesReads': WHATEVER THE INPUT: true; the input reads as it did. -/
def runesReadsSpec : ChangeSpec := { name := "runesReads", fn := fun _ => fun
  | [d] => { results := [.lit (.bool true)], args := [d] }
  | _ => none }
def runesReadsRow : OpenClaim := { program := "ytkigpbajbafpcaadoor", sum := "9115be02046e990c50f13e628f22fa2b7fbd23466fd27ed5c8ca5e2f09ed959c", func := "triglyph/triglyphlaw02.RunesReads", spec := "runesReads", named := ["triglyph/runes.leasts"], apart := false, laid := [("triglyph/runes.leasts", laid_triglyph_runes_leasts)] }
def RunesReadsSaid : Prop := runesReadsRow.holds Tryd.pinned (OpenSpec.ofChange runesReadsSpec)

/-- ITS FALSE NEIGHBOUR: 'it returns false'. Refute it at one input. -/
def runesReadsWrong : ChangeSpec := { name := "runesReads", fn := fun _ => fun
  | [d] => { results := [.lit (.bool false)], args := [d] }
  | _ => none }
def RunesReadsWrongFalsely : Prop := runesReadsRow.holds Tryd.pinned (OpenSpec.ofChange runesReadsWrong)

/-- 'triglyphlaw02.RunesBack': WHATEVER THE INPUT: true; the input reads as it did. -/
def runesBackSpec : ChangeSpec := { name := "runesBack", fn := fun _ => fun
  | [d] => { results := [.lit (.bool true)], args := [d] }
  | _ => none }
def runesBackRow : OpenClaim := { program := "ytkigpbajbafpcaadoor", sum := "9115be02046e990c50f13e628f22fa2b7fbd23466fd27ed5c8ca5e2f09ed959c", func := "triglyph/triglyphlaw02.RunesBack", spec := "runesBack", named := ["triglyph/runes.leasts"], apart := false, laid := [("triglyph/runes.leasts", laid_triglyph_runes_leasts)] }
def RunesBackSaid : Prop := runesBackRow.holds Tryd.pinned (OpenSpec.ofChange runesBackSpec)

/-- ITS FALSE NEIGHBOUR: 'it returns false'. Refute it at one input. -/
def runesBackWrong : ChangeSpec := { name := "runesBack", fn := fun _ => fun
  | [d] => { results := [.lit (.bool false)], args := [d] }
  | _ => none }
def RunesBackWrongFalsely : Prop := runesBackRow.holds Tryd.pinned (OpenSpec.ofChange runesBackWrong)

/-- 'triglyphlaw02.RunesOne': WHATEVER THE INPUT: true; the input reads as it did. -/
def runesOneSpec : ChangeSpec := { name := "runesOne", fn := fun _ => fun
  | [d] => { results := [.lit (.bool true)], args := [d] }
  | _ => none }
def runesOneRow : OpenClaim := { program := "ytkigpbajbafpcaadoor", sum := "9115be02046e990c50f13e628f22fa2b7fbd23466fd27ed5c8ca5e2f09ed959c", func := "triglyph/triglyphlaw02.RunesOne", spec := "runesOne", named := ["triglyph/runes.leasts"], apart := false, laid := [("triglyph/runes.leasts", laid_triglyph_runes_leasts)] }
def RunesOneSaid : Prop := runesOneRow.holds Tryd.pinned (OpenSpec.ofChange runesOneSpec)

/-- ITS FALSE NEIGHBOUR: 'it returns false'. Refute it at one input. -/
def runesOneWrong : ChangeSpec := { name := "runesOne", fn := fun _ => fun
  | [d] => { results := [.lit (.bool false)], args := [d] }
  | _ => none }
def RunesOneWrongFalsely : Prop := runesOneRow.holds Tryd.pinned (OpenSpec.ofChange runesOneWrong)

/-- 'triglyphlaw02.RunesJoins': WHATEVER THE INPUT: true; the input reads as it did. -/
def runesJoinsSpec : ChangeSpec := { name := "runesJoins", fn := fun _ => fun
  | [d1, d2] => { results := [.lit (.bool true)], args := [d1, d2] }
  | _ => none }
def runesJoinsRow : OpenClaim := { program := "ytkigpbajbafpcaadoor", sum := "9115be02046e990c50f13e628f22fa2b7fbd23466fd27ed5c8ca5e2f09ed959c", func := "triglyph/triglyphlaw02.RunesJoins", spec := "runesJoins", named := ["triglyph/runes.leasts"], apart := false, laid := [("triglyph/runes.leasts", laid_triglyph_runes_leasts)] }
def RunesJoinsSaid : Prop := runesJoinsRow.holds Tryd.pinned (OpenSpec.ofChange runesJoinsSpec)

/-- ITS FALSE NEIGHBOUR: 'it returns false'. Refute it at one input. -/
def runesJoinsWrong : ChangeSpec := { name := "runesJoins", fn := fun _ => fun
  | [d1, d2] => { results := [.lit (.bool false)], args := [d1, d2] }
  | _ => none }
def RunesJoinsWrongFalsely : Prop := runesJoinsRow.holds Tryd.pinned (OpenSpec.ofChange runesJoinsWrong)

/- THE SECOND FORM. 'bulk': how many values and letters a reading holds, each counted each time it is reached (what is shared counts as often as it is met; a slice's spare places count too). A statement '..UptoSaid' is the law's where the arguments, and the package variables that the reading takes, are together of bulk at most 1048576: NARROWER than '..Said'. Prove '..Said' where nothing that the law and all that it calls make is longer than what came in: it says more and counts as full. Else prove '..UptoSaid'. A law counts once. -/
mutual
def uptoBulk {H : Type} : DataW H → Nat
  | .lit (.string bytes) => bytes.length + 1
  | .lit _ => 1
  | .nil => 1
  | .ptr d => uptoBulk d + 1
  | .slice elems spare => uptoBulkAll elems + uptoBulkAll spare + 1
  | .agg parts => uptoBulkAll parts + 1
  | .iface _ d => uptoBulk d + 1
  | .map entries => uptoBulkEntries entries + 1
  | .held _ => 1
def uptoBulkAll {H : Type} : List (DataW H) → Nat
  | [] => 0
  | d :: r => uptoBulk d + uptoBulkAll r
def uptoBulkEntries {H : Type} : List (Lit × DataW H) → Nat
  | [] => 0
  | x :: r => uptoBulkEntry x + uptoBulkEntries r
def uptoBulkEntry {H : Type} : Lit × DataW H → Nat
  | (.string bytes, d) => bytes.length + uptoBulk d + 1
  | (_, d) => uptoBulk d + 1
 end
def uptoSmall : (H : Type) → List (DataW H) → Bool := fun _ ds => decide (uptoBulkAll ds ≤ 1048576)
def OpenSpec.upto (s : _root_.Go.ChangeSpec) : _root_.Go.OpenSpec := { _root_.Go.OpenSpec.ofChange s with cond := some uptoSmall }

/-- 'triglyphlaw02.RunesWrites', WHERE WHAT IT READS IS OF BULK AT MOST 1048576: true; the input reads as it did. -/
def runesWritesUptoRow : OpenClaim := { program := "ytkigpbajbafpcaadoor", sum := "9115be02046e990c50f13e628f22fa2b7fbd23466fd27ed5c8ca5e2f09ed959c", func := "triglyph/triglyphlaw02.RunesWrites", spec := "runesWrites", named := ["triglyph/runes.leasts"], apart := false, laid := [("triglyph/runes.leasts", laid_triglyph_runes_leasts)], narrowed := true }
def RunesWritesUptoSaid : Prop := runesWritesUptoRow.holds Tryd.pinned (OpenSpec.upto runesWritesSpec)

/-- 'triglyphlaw02.RunesReads', WHERE WHAT IT READS IS OF BULK AT MOST 1048576: true; the input reads as it did. -/
def runesReadsUptoRow : OpenClaim := { program := "ytkigpbajbafpcaadoor", sum := "9115be02046e990c50f13e628f22fa2b7fbd23466fd27ed5c8ca5e2f09ed959c", func := "triglyph/triglyphlaw02.RunesReads", spec := "runesReads", named := ["triglyph/runes.leasts"], apart := false, laid := [("triglyph/runes.leasts", laid_triglyph_runes_leasts)], narrowed := true }
def RunesReadsUptoSaid : Prop := runesReadsUptoRow.holds Tryd.pinned (OpenSpec.upto runesReadsSpec)

/-- 'triglyphlaw02.RunesBack', WHERE WHAT IT READS IS OF BULK AT MOST 1048576: true; the input reads as it did. -/
def runesBackUptoRow : OpenClaim := { program := "ytkigpbajbafpcaadoor", sum := "9115be02046e990c50f13e628f22fa2b7fbd23466fd27ed5c8ca5e2f09ed959c", func := "triglyph/triglyphlaw02.RunesBack", spec := "runesBack", named := ["triglyph/runes.leasts"], apart := false, laid := [("triglyph/runes.leasts", laid_triglyph_runes_leasts)], narrowed := true }
def RunesBackUptoSaid : Prop := runesBackUptoRow.holds Tryd.pinned (OpenSpec.upto runesBackSpec)

/-- 'triglyphlaw02.RunesOne', WHERE WHAT IT READS IS OF BULK AT MOST 1048576: true; the input reads as it did. -/
def runesOneUptoRow : OpenClaim := { program := "ytkigpbajbafpcaadoor", sum := "9115be02046e990c50f13e628f22fa2b7fbd23466fd27ed5c8ca5e2f09ed959c", func := "triglyph/triglyphlaw02.RunesOne", spec := "runesOne", named := ["triglyph/runes.leasts"], apart := false, laid := [("triglyph/runes.leasts", laid_triglyph_runes_leasts)], narrowed := true }
def RunesOneUptoSaid : Prop := runesOneUptoRow.holds Tryd.pinned (OpenSpec.upto runesOneSpec)

/-- 'triglyphlaw02.RunesJoins', WHERE WHAT IT READS IS OF BULK AT MOST 1048576: true; the input reads as it did. -/
def runesJoinsUptoRow : OpenClaim := { program := "ytkigpbajbafpcaadoor", sum := "9115be02046e990c50f13e628f22fa2b7fbd23466fd27ed5c8ca5e2f09ed959c", func := "triglyph/triglyphlaw02.RunesJoins", spec := "runesJoins", named := ["triglyph/runes.leasts"], apart := false, laid := [("triglyph/runes.leasts", laid_triglyph_runes_leasts)], narrowed := true }
def RunesJoinsUptoSaid : Prop := runesJoinsUptoRow.holds Tryd.pinned (OpenSpec.upto runesJoinsSpec)

end Rows
end Go.Proofs.YtkigpbajbafpcaaDoor
