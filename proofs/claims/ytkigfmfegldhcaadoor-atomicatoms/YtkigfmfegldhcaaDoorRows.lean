/-
  NARROWER THAN 'FOR EVERY INPUT', by the rows' own cells (each row's printed sentence says how): AtomicOne: loops, laid · AtomicCells: loops, laid · AtomicTwo: loops, laid · AtomicAgrees: laid · AtomicTurned: loops, laid · AtomicAtoms: loops, laid.
  DERIVED. THE GIVEN ROWS OF THIS SEAT. 6 by the template 'for every input the law returns true; each argument reads behind the call as it read before'; 0 by the template 'total and deterministic' (their statements: YtkigfmfegldhcaaDoorTotals.lean).
  GIVEN WITH THE SEED: the statements are not yours to turn. If you find one false, say at which input.
  Laid BY PROGRAM, IN A SANDBOX (cutbox-rows.mjs): the forced cells as the released guide's own fill.sh prints them over the translation af34aa8f02b7c589… (all of the seat's roots in one cut). By AI agents, Wed Nov 11 2026. No macro, syntax, notation, axiom, sorry.
-/
import Derived.Test.YtkigfmfegldhcaaDoorChecked
import GoSem.Claim
import GoSem.ClaimJoined
import GoSem.ClaimMapViews
import Derived.JoinedTies
import Derived.KernelRfl
namespace Go.Proofs.YtkigfmfegldhcaaDoor
/- THE CELL 'sum', in the pinned program and in every row, IS THE sha256 OF THE DUMP (.gsa) THAT YtkigfmfegldhcaaDoorProg.lean LOADS. Nothing in Lean hashes anything: it is a label: what it is worth is what the hold of that sum in a sandbox is worth. -/
noncomputable def Tryd.pinned : Pinned := { name := "ytkigfmfegldhcaadoor", sum := "af34aa8f02b7c5890d931f3816ba52e069fa7a41a4fdf3db9c2b97f7bce3f53e", checked := Tryd.checked }
namespace Rows
def none {H : Type} : Left H := { results := [], args := [] }

/- WHAT THE LISTED PACKAGE-LEVEL VARIABLES READ AS WHEN THE CALL BEGINS. Each datum BY PROGRAM (the guide's laid-datum.mjs) off the statement by which the dump's own 'gosem.cut.vars' lays the variable. In a bare row this is a premise. The card (YtkigfmfegldhcaaDoorCards.lean) ties it to the program's text. -/
def laid_triglyph_atomic_answers {H : Type} : DataW H := .agg [.agg [.lit (.int .i64 0), .lit (.int .i64 1), .lit (.int .i64 0)], .agg [.lit (.int .i64 1), .lit (.int .i64 0), .lit (.int .i64 1)], .agg [.lit (.int .i64 1), .lit (.int .i64 0), .lit (.int .i64 0)], .agg [.lit (.int .i64 0), .lit (.int .i64 0), .lit (.int .i64 1)], .agg [.lit (.int .i64 1), .lit (.int .i64 1), .lit (.int .i64 0)], .agg [.lit (.int .i64 0), .lit (.int .i64 1), .lit (.int .i64 1)]]

/-- 'triglyphlaw04.AtomicOne': WHATEVER THE INPUT: true; the input reads as it did. -/
def atomicOneSpec : ChangeSpec := { name := "atomicOne", fn := fun _ => fun
  | [d1, d2] => { results := [.lit (.bool true)], args := [d1, d2] }
  | _ => none }
def atomicOneRow : OpenClaim := { program := "ytkigfmfegldhcaadoor", sum := "af34aa8f02b7c5890d931f3816ba52e069fa7a41a4fdf3db9c2b97f7bce3f53e", func := "triglyph/triglyphlaw04.AtomicOne", spec := "atomicOne", unfollowed := true, recurses := true, named := ["triglyph/atomic.answers"], loops := true, apart := false, laid := [("triglyph/atomic.answers", laid_triglyph_atomic_answers)] }
def AtomicOneSaid : Prop := atomicOneRow.holds Tryd.pinned (OpenSpec.ofChange atomicOneSpec)

/-- ITS FALSE NEIGHBOUR: 'it returns false'. Refute it at one input. -/
def atomicOneWrong : ChangeSpec := { name := "atomicOne", fn := fun _ => fun
  | [d1, d2] => { results := [.lit (.bool false)], args := [d1, d2] }
  | _ => none }
def AtomicOneWrongFalsely : Prop := atomicOneRow.holds Tryd.pinned (OpenSpec.ofChange atomicOneWrong)

/-- 'triglyphlaw04.AtomicCells': WHATEVER THE INPUT: true; the input reads as it did. -/
def atomicCellsSpec : ChangeSpec := { name := "atomicCells", fn := fun _ => fun
  | [d1, d2, d3] => { results := [.lit (.bool true)], args := [d1, d2, d3] }
  | _ => none }
def atomicCellsRow : OpenClaim := { program := "ytkigfmfegldhcaadoor", sum := "af34aa8f02b7c5890d931f3816ba52e069fa7a41a4fdf3db9c2b97f7bce3f53e", func := "triglyph/triglyphlaw04.AtomicCells", spec := "atomicCells", unfollowed := true, recurses := true, named := ["triglyph/atomic.answers"], loops := true, apart := false, laid := [("triglyph/atomic.answers", laid_triglyph_atomic_answers)] }
def AtomicCellsSaid : Prop := atomicCellsRow.holds Tryd.pinned (OpenSpec.ofChange atomicCellsSpec)

/-- ITS FALSE NEIGHBOUR: 'it returns false'. Refute it at one input. -/
def atomicCellsWrong : ChangeSpec := { name := "atomicCells", fn := fun _ => fun
  | [d1, d2, d3] => { results := [.lit (.bool false)], args := [d1, d2, d3] }
  | _ => none }
def AtomicCellsWrongFalsely : Prop := atomicCellsRow.holds Tryd.pinned (OpenSpec.ofChange atomicCellsWrong)

/-- 'triglyphlaw04.AtomicTwo': WHATEVER THE INPUT: true; the input reads as it did. -/
def atomicTwoSpec : ChangeSpec := { name := "atomicTwo", fn := fun _ => fun
  | [d1, d2, d3] => { results := [.lit (.bool true)], args := [d1, d2, d3] }
  | _ => none }
def atomicTwoRow : OpenClaim := { program := "ytkigfmfegldhcaadoor", sum := "af34aa8f02b7c5890d931f3816ba52e069fa7a41a4fdf3db9c2b97f7bce3f53e", func := "triglyph/triglyphlaw04.AtomicTwo", spec := "atomicTwo", unfollowed := true, recurses := true, named := ["triglyph/atomic.answers"], loops := true, apart := false, laid := [("triglyph/atomic.answers", laid_triglyph_atomic_answers)] }
def AtomicTwoSaid : Prop := atomicTwoRow.holds Tryd.pinned (OpenSpec.ofChange atomicTwoSpec)

/-- ITS FALSE NEIGHBOUR: 'it returns false'. Refute it at one input. -/
def atomicTwoWrong : ChangeSpec := { name := "atomicTwo", fn := fun _ => fun
  | [d1, d2, d3] => { results := [.lit (.bool false)], args := [d1, d2, d3] }
  | _ => none }
def AtomicTwoWrongFalsely : Prop := atomicTwoRow.holds Tryd.pinned (OpenSpec.ofChange atomicTwoWrong)

/-- 'triglyphlaw04.AtomicAgrees': WHATEVER THE INPUT: true; the input reads as it did. -/
def atomicAgreesSpec : ChangeSpec := { name := "atomicAgrees", fn := fun _ => fun
  | [d1, d2] => { results := [.lit (.bool true)], args := [d1, d2] }
  | _ => none }
def atomicAgreesRow : OpenClaim := { program := "ytkigfmfegldhcaadoor", sum := "af34aa8f02b7c5890d931f3816ba52e069fa7a41a4fdf3db9c2b97f7bce3f53e", func := "triglyph/triglyphlaw04.AtomicAgrees", spec := "atomicAgrees", unfollowed := true, recurses := true, named := ["triglyph/atomic.answers"], apart := false, laid := [("triglyph/atomic.answers", laid_triglyph_atomic_answers)] }
def AtomicAgreesSaid : Prop := atomicAgreesRow.holds Tryd.pinned (OpenSpec.ofChange atomicAgreesSpec)

/-- ITS FALSE NEIGHBOUR: 'it returns false'. Refute it at one input. -/
def atomicAgreesWrong : ChangeSpec := { name := "atomicAgrees", fn := fun _ => fun
  | [d1, d2] => { results := [.lit (.bool false)], args := [d1, d2] }
  | _ => none }
def AtomicAgreesWrongFalsely : Prop := atomicAgreesRow.holds Tryd.pinned (OpenSpec.ofChange atomicAgreesWrong)

/-- 'triglyphlaw04.AtomicTurned': WHATEVER THE INPUT: true; the input reads as it did. -/
def atomicTurnedSpec : ChangeSpec := { name := "atomicTurned", fn := fun _ => fun
  | [d1, d2, d3] => { results := [.lit (.bool true)], args := [d1, d2, d3] }
  | _ => none }
def atomicTurnedRow : OpenClaim := { program := "ytkigfmfegldhcaadoor", sum := "af34aa8f02b7c5890d931f3816ba52e069fa7a41a4fdf3db9c2b97f7bce3f53e", func := "triglyph/triglyphlaw04.AtomicTurned", spec := "atomicTurned", unfollowed := true, recurses := true, named := ["triglyph/atomic.answers"], loops := true, apart := false, laid := [("triglyph/atomic.answers", laid_triglyph_atomic_answers)] }
def AtomicTurnedSaid : Prop := atomicTurnedRow.holds Tryd.pinned (OpenSpec.ofChange atomicTurnedSpec)

/-- ITS FALSE NEIGHBOUR: 'it returns false'. Refute it at one input. -/
def atomicTurnedWrong : ChangeSpec := { name := "atomicTurned", fn := fun _ => fun
  | [d1, d2, d3] => { results := [.lit (.bool false)], args := [d1, d2, d3] }
  | _ => none }
def AtomicTurnedWrongFalsely : Prop := atomicTurnedRow.holds Tryd.pinned (OpenSpec.ofChange atomicTurnedWrong)

/-- 'triglyphlaw04.AtomicAtoms': WHATEVER THE INPUT: true; the input reads as it did. -/
def atomicAtomsSpec : ChangeSpec := { name := "atomicAtoms", fn := fun _ => fun
  | [d1, d2, d3, d4] => { results := [.lit (.bool true)], args := [d1, d2, d3, d4] }
  | _ => none }
def atomicAtomsRow : OpenClaim := { program := "ytkigfmfegldhcaadoor", sum := "af34aa8f02b7c5890d931f3816ba52e069fa7a41a4fdf3db9c2b97f7bce3f53e", func := "triglyph/triglyphlaw04.AtomicAtoms", spec := "atomicAtoms", unfollowed := true, recurses := true, named := ["triglyph/atomic.answers"], loops := true, apart := false, laid := [("triglyph/atomic.answers", laid_triglyph_atomic_answers)] }
def AtomicAtomsSaid : Prop := atomicAtomsRow.holds Tryd.pinned (OpenSpec.ofChange atomicAtomsSpec)

/-- ITS FALSE NEIGHBOUR: 'it returns false'. Refute it at one input. -/
def atomicAtomsWrong : ChangeSpec := { name := "atomicAtoms", fn := fun _ => fun
  | [d1, d2, d3, d4] => { results := [.lit (.bool false)], args := [d1, d2, d3, d4] }
  | _ => none }
def AtomicAtomsWrongFalsely : Prop := atomicAtomsRow.holds Tryd.pinned (OpenSpec.ofChange atomicAtomsWrong)

/- THE SECOND FORM. 'bulk': how many values and letters a reading holds, each counted each time it is reached (what is shared counts as often as it is met; a slice's spare places count too). A statement '..UptoSaid' is the law's where the arguments, and the package variables that the reading takes, are together of bulk at most 1048576: NARROWER than '..Said'. Prove '..Said' where nothing that the law and all that it calls make is longer than what came in: it says more and counts as full. Else prove '..UptoSaid'. A law counts once. -/
mutual
def uptoBulk {H : Type} : DataW H → Nat
  | .lit (.string bytes) => bytes.length + 1
  | .lit _ => 1
  | .nil => 1
  | .ptr d => uptoBulk d + 1
  | .slice elems spare => uptoBulkAll elems + uptoBulkAll spare + 1
  | .agg parts => uptoBulkAll parts + 1
  | .iface _ d => uptoBulk d + 1
  | .map entries => uptoBulkEntries entries + 1
  | .held _ => 1
def uptoBulkAll {H : Type} : List (DataW H) → Nat
  | [] => 0
  | d :: r => uptoBulk d + uptoBulkAll r
def uptoBulkEntries {H : Type} : List (Lit × DataW H) → Nat
  | [] => 0
  | x :: r => uptoBulkEntry x + uptoBulkEntries r
def uptoBulkEntry {H : Type} : Lit × DataW H → Nat
  | (.string bytes, d) => bytes.length + uptoBulk d + 1
  | (_, d) => uptoBulk d + 1
 end
def uptoSmall : (H : Type) → List (DataW H) → Bool := fun _ ds => decide (uptoBulkAll ds ≤ 1048576)
def OpenSpec.upto (s : _root_.Go.ChangeSpec) : _root_.Go.OpenSpec := { _root_.Go.OpenSpec.ofChange s with cond := some uptoSmall }

/-- 'triglyphlaw04.AtomicOne', WHERE WHAT IT READS IS OF BULK AT MOST 1048576: true; the input reads as it did. -/
def atomicOneUptoRow : OpenClaim := { program := "ytkigfmfegldhcaadoor", sum := "af34aa8f02b7c5890d931f3816ba52e069fa7a41a4fdf3db9c2b97f7bce3f53e", func := "triglyph/triglyphlaw04.AtomicOne", spec := "atomicOne", unfollowed := true, recurses := true, named := ["triglyph/atomic.answers"], loops := true, apart := false, laid := [("triglyph/atomic.answers", laid_triglyph_atomic_answers)], narrowed := true }
def AtomicOneUptoSaid : Prop := atomicOneUptoRow.holds Tryd.pinned (OpenSpec.upto atomicOneSpec)

/-- 'triglyphlaw04.AtomicCells', WHERE WHAT IT READS IS OF BULK AT MOST 1048576: true; the input reads as it did. -/
def atomicCellsUptoRow : OpenClaim := { program := "ytkigfmfegldhcaadoor", sum := "af34aa8f02b7c5890d931f3816ba52e069fa7a41a4fdf3db9c2b97f7bce3f53e", func := "triglyph/triglyphlaw04.AtomicCells", spec := "atomicCells", unfollowed := true, recurses := true, named := ["triglyph/atomic.answers"], loops := true, apart := false, laid := [("triglyph/atomic.answers", laid_triglyph_atomic_answers)], narrowed := true }
def AtomicCellsUptoSaid : Prop := atomicCellsUptoRow.holds Tryd.pinned (OpenSpec.upto atomicCellsSpec)

/-- 'triglyphlaw04.AtomicTwo', WHERE WHAT IT READS IS OF BULK AT MOST 1048576: true; the input reads as it did. -/
def atomicTwoUptoRow : OpenClaim := { program := "ytkigfmfegldhcaadoor", sum := "af34aa8f02b7c5890d931f3816ba52e069fa7a41a4fdf3db9c2b97f7bce3f53e", func := "triglyph/triglyphlaw04.AtomicTwo", spec := "atomicTwo", unfollowed := true, recurses := true, named := ["triglyph/atomic.answers"], loops := true, apart := false, laid := [("triglyph/atomic.answers", laid_triglyph_atomic_answers)], narrowed := true }
def AtomicTwoUptoSaid : Prop := atomicTwoUptoRow.holds Tryd.pinned (OpenSpec.upto atomicTwoSpec)

/-- 'triglyphlaw04.AtomicAgrees', WHERE WHAT IT READS IS OF BULK AT MOST 1048576: true; the input reads as it did. -/
def atomicAgreesUptoRow : OpenClaim := { program := "ytkigfmfegldhcaadoor", sum := "af34aa8f02b7c5890d931f3816ba52e069fa7a41a4fdf3db9c2b97f7bce3f53e", func := "triglyph/triglyphlaw04.AtomicAgrees", spec := "atomicAgrees", unfollowed := true, recurses := true, named := ["triglyph/atomic.answers"], apart := false, laid := [("triglyph/atomic.answers", laid_triglyph_atomic_answers)], narrowed := true }
def AtomicAgreesUptoSaid : Prop := atomicAgreesUptoRow.holds Tryd.pinned (OpenSpec.upto atomicAgreesSpec)

/-- 'triglyphlaw04.AtomicTurned', WHERE WHAT IT READS IS OF BULK AT MOST 1048576: true; the input reads as it did. -/
def atomicTurnedUptoRow : OpenClaim := { program := "ytkigfmfegldhcaadoor", sum := "af34aa8f02b7c5890d931f3816ba52e069fa7a41a4fdf3db9c2b97f7bce3f53e", func := "triglyph/triglyphlaw04.AtomicTurned", spec := "atomicTurned", unfollowed := true, recurses := true, named := ["triglyph/atomic.answers"], loops := true, apart := false, laid := [("triglyph/atomic.answers", laid_triglyph_atomic_answers)], narrowed := true }
def AtomicTurnedUptoSaid : Prop := atomicTurnedUptoRow.holds Tryd.pinned (OpenSpec.upto atomicTurnedSpec)

/-- 'triglyphlaw04.AtomicAtoms', WHERE WHAT IT READS IS OF BULK AT MOST 1048576: true; the input reads as it did. -/
def atomicAtomsUptoRow : OpenClaim := { program := "ytkigfmfegldhcaadoor", sum := "af34aa8f02b7c5890d931f3816ba52e069fa7a41a4fdf3db9c2b97f7bce3f53e", func := "triglyph/triglyphlaw04.AtomicAtoms", spec := "atomicAtoms", unfollowed := true, recurses := true, named := ["triglyph/atomic.answers"], loops := true, apart := false, laid := [("triglyph/atomic.answers", laid_triglyph_atomic_answers)], narrowed := true }
def AtomicAtomsUptoSaid : Prop := atomicAtomsUptoRow.holds Tryd.pinned (OpenSpec.upto atomicAtomsSpec)

end Rows
end Go.Proofs.YtkigfmfegldhcaaDoor
