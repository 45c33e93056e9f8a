/-
  NARROWER THAN 'FOR EVERY INPUT', by the rows' own cells (each row's printed sentence says how): FoldReds: loops, laid · FoldScans: loops, laid · FoldOuters: loops, laid · FoldEnds: laid · FoldTurns: loops, laid · FoldCells: loops, laid.
  DERIVED. THE GIVEN ROWS OF THIS SEAT. 6 by the template 'for every input the law returns true; each argument reads behind the call as it read before'; 0 by the template 'total and deterministic' (their statements: YtlfacpclihmnnaaDoorTotals.lean).
  GIVEN WITH THE SEED: the statements are not yours to turn. If you find one false, say at which input.
  Laid BY PROGRAM, IN A SANDBOX (cutbox-rows.mjs): the forced cells as the released guide's own fill.sh prints them over the translation e797c6594e767c3c… (all of the seat's roots in one cut). By AI agents, Wed Nov 11 2026. No macro, syntax, notation, axiom, sorry.
-/
import Derived.Test.YtlfacpclihmnnaaDoorChecked
import GoSem.Claim
import GoSem.ClaimJoined
import GoSem.ClaimMapViews
import Derived.JoinedTies
import Derived.KernelRfl
namespace Go.Proofs.YtlfacpclihmnnaaDoor
/- THE CELL 'sum', in the pinned program and in every row, IS THE sha256 OF THE DUMP (.gsa) THAT YtlfacpclihmnnaaDoorProg.lean LOADS. Nothing in Lean hashes anything: it is a label: what it is worth is what the hold of that sum in a sandbox is worth. -/
noncomputable def Tryd.pinned : Pinned := { name := "ytlfacpclihmnnaadoor", sum := "e797c6594e767c3cda2e76f495e6f1741085c80eb1cf63bf50bc4a46b7f1702b", checked := Tryd.checked }
namespace Rows
def none {H : Type} : Left H := { results := [], args := [] }

/- WHAT THE LISTED PACKAGE-LEVEL VARIABLES READ AS WHEN THE CALL BEGINS. Each datum BY PROGRAM (the guide's laid-datum.mjs) off the statement by which the dump's own 'gosem.cut.vars' lays the variable. In a bare row this is a premise. The card (YtlfacpclihmnnaaDoorCards.lean) ties it to the program's text. -/
def laid_triglyph_atomic_answers {H : Type} : DataW H := .agg [.agg [.lit (.int .i64 0), .lit (.int .i64 1), .lit (.int .i64 0)], .agg [.lit (.int .i64 1), .lit (.int .i64 0), .lit (.int .i64 1)], .agg [.lit (.int .i64 1), .lit (.int .i64 0), .lit (.int .i64 0)], .agg [.lit (.int .i64 0), .lit (.int .i64 0), .lit (.int .i64 1)], .agg [.lit (.int .i64 1), .lit (.int .i64 1), .lit (.int .i64 0)], .agg [.lit (.int .i64 0), .lit (.int .i64 1), .lit (.int .i64 1)]]

/-- 'triglyphlaw08.FoldReds': WHATEVER THE INPUT: true; the input reads as it did. -/
def foldRedsSpec : ChangeSpec := { name := "foldReds", fn := fun _ => fun
  | [d1, d2, d3, d4] => { results := [.lit (.bool true)], args := [d1, d2, d3, d4] }
  | _ => none }
def foldRedsRow : OpenClaim := { program := "ytlfacpclihmnnaadoor", sum := "e797c6594e767c3cda2e76f495e6f1741085c80eb1cf63bf50bc4a46b7f1702b", func := "triglyph/triglyphlaw08.FoldReds", spec := "foldReds", unfollowed := true, recurses := true, named := ["triglyph/atomic.answers"], loops := true, apart := false, laid := [("triglyph/atomic.answers", laid_triglyph_atomic_answers)] }
def FoldRedsSaid : Prop := foldRedsRow.holds Tryd.pinned (OpenSpec.ofChange foldRedsSpec)

/-- ITS FALSE NEIGHBOUR: 'it returns false'. Refute it at one input. -/
def foldRedsWrong : ChangeSpec := { name := "foldReds", fn := fun _ => fun
  | [d1, d2, d3, d4] => { results := [.lit (.bool false)], args := [d1, d2, d3, d4] }
  | _ => none }
def FoldRedsWrongFalsely : Prop := foldRedsRow.holds Tryd.pinned (OpenSpec.ofChange foldRedsWrong)

/-- 'triglyphlaw08.FoldScans': WHATEVER THE INPUT: true; the input reads as it did. -/
def foldScansSpec : ChangeSpec := { name := "foldScans", fn := fun _ => fun
  | [d1, d2, d3, d4] => { results := [.lit (.bool true)], args := [d1, d2, d3, d4] }
  | _ => none }
def foldScansRow : OpenClaim := { program := "ytlfacpclihmnnaadoor", sum := "e797c6594e767c3cda2e76f495e6f1741085c80eb1cf63bf50bc4a46b7f1702b", func := "triglyph/triglyphlaw08.FoldScans", spec := "foldScans", unfollowed := true, recurses := true, named := ["triglyph/atomic.answers"], loops := true, apart := false, laid := [("triglyph/atomic.answers", laid_triglyph_atomic_answers)] }
def FoldScansSaid : Prop := foldScansRow.holds Tryd.pinned (OpenSpec.ofChange foldScansSpec)

/-- ITS FALSE NEIGHBOUR: 'it returns false'. Refute it at one input. -/
def foldScansWrong : ChangeSpec := { name := "foldScans", fn := fun _ => fun
  | [d1, d2, d3, d4] => { results := [.lit (.bool false)], args := [d1, d2, d3, d4] }
  | _ => none }
def FoldScansWrongFalsely : Prop := foldScansRow.holds Tryd.pinned (OpenSpec.ofChange foldScansWrong)

/-- 'triglyphlaw08.FoldOuters': WHATEVER THE INPUT: true; the input reads as it did. -/
def foldOutersSpec : ChangeSpec := { name := "foldOuters", fn := fun _ => fun
  | [d1, d2, d3, d4] => { results := [.lit (.bool true)], args := [d1, d2, d3, d4] }
  | _ => none }
def foldOutersRow : OpenClaim := { program := "ytlfacpclihmnnaadoor", sum := "e797c6594e767c3cda2e76f495e6f1741085c80eb1cf63bf50bc4a46b7f1702b", func := "triglyph/triglyphlaw08.FoldOuters", spec := "foldOuters", unfollowed := true, recurses := true, named := ["triglyph/atomic.answers"], loops := true, apart := false, laid := [("triglyph/atomic.answers", laid_triglyph_atomic_answers)] }
def FoldOutersSaid : Prop := foldOutersRow.holds Tryd.pinned (OpenSpec.ofChange foldOutersSpec)

/-- ITS FALSE NEIGHBOUR: 'it returns false'. Refute it at one input. -/
def foldOutersWrong : ChangeSpec := { name := "foldOuters", fn := fun _ => fun
  | [d1, d2, d3, d4] => { results := [.lit (.bool false)], args := [d1, d2, d3, d4] }
  | _ => none }
def FoldOutersWrongFalsely : Prop := foldOutersRow.holds Tryd.pinned (OpenSpec.ofChange foldOutersWrong)

/-- 'triglyphlaw08.FoldEnds': WHATEVER THE INPUT: true; the input reads as it did. -/
def foldEndsSpec : ChangeSpec := { name := "foldEnds", fn := fun _ => fun
  | [d1, d2, d3] => { results := [.lit (.bool true)], args := [d1, d2, d3] }
  | _ => none }
def foldEndsRow : OpenClaim := { program := "ytlfacpclihmnnaadoor", sum := "e797c6594e767c3cda2e76f495e6f1741085c80eb1cf63bf50bc4a46b7f1702b", func := "triglyph/triglyphlaw08.FoldEnds", spec := "foldEnds", unfollowed := true, recurses := true, named := ["triglyph/atomic.answers"], apart := false, laid := [("triglyph/atomic.answers", laid_triglyph_atomic_answers)] }
def FoldEndsSaid : Prop := foldEndsRow.holds Tryd.pinned (OpenSpec.ofChange foldEndsSpec)

/-- ITS FALSE NEIGHBOUR: 'it returns false'. Refute it at one input. -/
def foldEndsWrong : ChangeSpec := { name := "foldEnds", fn := fun _ => fun
  | [d1, d2, d3] => { results := [.lit (.bool false)], args := [d1, d2, d3] }
  | _ => none }
def FoldEndsWrongFalsely : Prop := foldEndsRow.holds Tryd.pinned (OpenSpec.ofChange foldEndsWrong)

/-- 'triglyphlaw08.FoldTurns': WHATEVER THE INPUT: true; the input reads as it did. -/
def foldTurnsSpec : ChangeSpec := { name := "foldTurns", fn := fun _ => fun
  | [d1, d2, d3] => { results := [.lit (.bool true)], args := [d1, d2, d3] }
  | _ => none }
def foldTurnsRow : OpenClaim := { program := "ytlfacpclihmnnaadoor", sum := "e797c6594e767c3cda2e76f495e6f1741085c80eb1cf63bf50bc4a46b7f1702b", func := "triglyph/triglyphlaw08.FoldTurns", spec := "foldTurns", unfollowed := true, recurses := true, named := ["triglyph/atomic.answers"], loops := true, apart := false, laid := [("triglyph/atomic.answers", laid_triglyph_atomic_answers)] }
def FoldTurnsSaid : Prop := foldTurnsRow.holds Tryd.pinned (OpenSpec.ofChange foldTurnsSpec)

/-- ITS FALSE NEIGHBOUR: 'it returns false'. Refute it at one input. -/
def foldTurnsWrong : ChangeSpec := { name := "foldTurns", fn := fun _ => fun
  | [d1, d2, d3] => { results := [.lit (.bool false)], args := [d1, d2, d3] }
  | _ => none }
def FoldTurnsWrongFalsely : Prop := foldTurnsRow.holds Tryd.pinned (OpenSpec.ofChange foldTurnsWrong)

/-- 'triglyphlaw08.FoldCells': WHATEVER THE INPUT: true; the input reads as it did. -/
def foldCellsSpec : ChangeSpec := { name := "foldCells", fn := fun _ => fun
  | [d1, d2, d3, d4, d5] => { results := [.lit (.bool true)], args := [d1, d2, d3, d4, d5] }
  | _ => none }
def foldCellsRow : OpenClaim := { program := "ytlfacpclihmnnaadoor", sum := "e797c6594e767c3cda2e76f495e6f1741085c80eb1cf63bf50bc4a46b7f1702b", func := "triglyph/triglyphlaw08.FoldCells", spec := "foldCells", unfollowed := true, recurses := true, named := ["triglyph/atomic.answers"], loops := true, apart := false, laid := [("triglyph/atomic.answers", laid_triglyph_atomic_answers)] }
def FoldCellsSaid : Prop := foldCellsRow.holds Tryd.pinned (OpenSpec.ofChange foldCellsSpec)

/-- ITS FALSE NEIGHBOUR: 'it returns false'. Refute it at one input. -/
def foldCellsWrong : ChangeSpec := { name := "foldCells", fn := fun _ => fun
  | [d1, d2, d3, d4, d5] => { results := [.lit (.bool false)], args := [d1, d2, d3, d4, d5] }
  | _ => none }
def FoldCellsWrongFalsely : Prop := foldCellsRow.holds Tryd.pinned (OpenSpec.ofChange foldCellsWrong)

/- THE SECOND FORM. 'bulk': how many values and letters a reading holds, each counted each time it is reached (what is shared counts as often as it is met; a slice's spare places count too). A statement '..UptoSaid' is the law's where the arguments, and the package variables that the reading takes, are together of bulk at most 1048576: NARROWER than '..Said'. Prove '..Said' where nothing that the law and all that it calls make is longer than what came in: it says more and counts as full. Else prove '..UptoSaid'. A law counts once. -/
mutual
def uptoBulk {H : Type} : DataW H → Nat
  | .lit (.string bytes) => bytes.length + 1
  | .lit _ => 1
  | .nil => 1
  | .ptr d => uptoBulk d + 1
  | .slice elems spare => uptoBulkAll elems + uptoBulkAll spare + 1
  | .agg parts => uptoBulkAll parts + 1
  | .iface _ d => uptoBulk d + 1
  | .map entries => uptoBulkEntries entries + 1
  | .held _ => 1
def uptoBulkAll {H : Type} : List (DataW H) → Nat
  | [] => 0
  | d :: r => uptoBulk d + uptoBulkAll r
def uptoBulkEntries {H : Type} : List (Lit × DataW H) → Nat
  | [] => 0
  | x :: r => uptoBulkEntry x + uptoBulkEntries r
def uptoBulkEntry {H : Type} : Lit × DataW H → Nat
  | (.string bytes, d) => bytes.length + uptoBulk d + 1
  | (_, d) => uptoBulk d + 1
 end
def uptoSmall : (H : Type) → List (DataW H) → Bool := fun _ ds => decide (uptoBulkAll ds ≤ 1048576)
def OpenSpec.upto (s : _root_.Go.ChangeSpec) : _root_.Go.OpenSpec := { _root_.Go.OpenSpec.ofChange s with cond := some uptoSmall }

/-- 'triglyphlaw08.FoldReds', WHERE WHAT IT READS IS OF BULK AT MOST 1048576: true; the input reads as it did. -/
def foldRedsUptoRow : OpenClaim := { program := "ytlfacpclihmnnaadoor", sum := "e797c6594e767c3cda2e76f495e6f1741085c80eb1cf63bf50bc4a46b7f1702b", func := "triglyph/triglyphlaw08.FoldReds", spec := "foldReds", unfollowed := true, recurses := true, named := ["triglyph/atomic.answers"], loops := true, apart := false, laid := [("triglyph/atomic.answers", laid_triglyph_atomic_answers)], narrowed := true }
def FoldRedsUptoSaid : Prop := foldRedsUptoRow.holds Tryd.pinned (OpenSpec.upto foldRedsSpec)

/-- 'triglyphlaw08.FoldScans', WHERE WHAT IT READS IS OF BULK AT MOST 1048576: true; the input reads as it did. -/
def foldScansUptoRow : OpenClaim := { program := "ytlfacpclihmnnaadoor", sum := "e797c6594e767c3cda2e76f495e6f1741085c80eb1cf63bf50bc4a46b7f1702b", func := "triglyph/triglyphlaw08.FoldScans", spec := "foldScans", unfollowed := true, recurses := true, named := ["triglyph/atomic.answers"], loops := true, apart := false, laid := [("triglyph/atomic.answers", laid_triglyph_atomic_answers)], narrowed := true }
def FoldScansUptoSaid : Prop := foldScansUptoRow.holds Tryd.pinned (OpenSpec.upto foldScansSpec)

/-- 'triglyphlaw08.FoldOuters', WHERE WHAT IT READS IS OF BULK AT MOST 1048576: true; the input reads as it did. -/
def foldOutersUptoRow : OpenClaim := { program := "ytlfacpclihmnnaadoor", sum := "e797c6594e767c3cda2e76f495e6f1741085c80eb1cf63bf50bc4a46b7f1702b", func := "triglyph/triglyphlaw08.FoldOuters", spec := "foldOuters", unfollowed := true, recurses := true, named := ["triglyph/atomic.answers"], loops := true, apart := false, laid := [("triglyph/atomic.answers", laid_triglyph_atomic_answers)], narrowed := true }
def FoldOutersUptoSaid : Prop := foldOutersUptoRow.holds Tryd.pinned (OpenSpec.upto foldOutersSpec)

/-- 'triglyphlaw08.FoldEnds', WHERE WHAT IT READS IS OF BULK AT MOST 1048576: true; the input reads as it did. -/
def foldEndsUptoRow : OpenClaim := { program := "ytlfacpclihmnnaadoor", sum := "e797c6594e767c3cda2e76f495e6f1741085c80eb1cf63bf50bc4a46b7f1702b", func := "triglyph/triglyphlaw08.FoldEnds", spec := "foldEnds", unfollowed := true, recurses := true, named := ["triglyph/atomic.answers"], apart := false, laid := [("triglyph/atomic.answers", laid_triglyph_atomic_answers)], narrowed := true }
def FoldEndsUptoSaid : Prop := foldEndsUptoRow.holds Tryd.pinned (OpenSpec.upto foldEndsSpec)

/-- 'triglyphlaw08.FoldTurns', WHERE WHAT IT READS IS OF BULK AT MOST 1048576: true; the input reads as it did. -/
def foldTurnsUptoRow : OpenClaim := { program := "ytlfacpclihmnnaadoor", sum := "e797c6594e767c3cda2e76f495e6f1741085c80eb1cf63bf50bc4a46b7f1702b", func := "triglyph/triglyphlaw08.FoldTurns", spec := "foldTurns", unfollowed := true, recurses := true, named := ["triglyph/atomic.answers"], loops := true, apart := false, laid := [("triglyph/atomic.answers", laid_triglyph_atomic_answers)], narrowed := true }
def FoldTurnsUptoSaid : Prop := foldTurnsUptoRow.holds Tryd.pinned (OpenSpec.upto foldTurnsSpec)

/-- 'triglyphlaw08.FoldCells', WHERE WHAT IT READS IS OF BULK AT MOST 1048576: true; the input reads as it did. -/
def foldCellsUptoRow : OpenClaim := { program := "ytlfacpclihmnnaadoor", sum := "e797c6594e767c3cda2e76f495e6f1741085c80eb1cf63bf50bc4a46b7f1702b", func := "triglyph/triglyphlaw08.FoldCells", spec := "foldCells", unfollowed := true, recurses := true, named := ["triglyph/atomic.answers"], loops := true, apart := false, laid := [("triglyph/atomic.answers", laid_triglyph_atomic_answers)], narrowed := true }
def FoldCellsUptoSaid : Prop := foldCellsUptoRow.holds Tryd.pinned (OpenSpec.upto foldCellsSpec)

end Rows
end Go.Proofs.YtlfacpclihmnnaaDoor
