/-
  NARROWER THAN 'FOR EVERY INPUT', by the rows' own cells (each row's printed sentence says how): SeekTwo: loops · SeekOne: loops · SeekSorted: loops · SeekOnce: loops · SeekFinds: loops.
  DERIVED. THE GIVEN ROWS OF THIS SEAT. 5 by the template 'for every input the law returns true; each argument reads behind the call as it read before'; 0 by the template 'total and deterministic' (their statements: YtimkcpbgnoekcaaTotals.lean).
  GIVEN WITH THE SEED: the statements are not yours to turn. If you find one false, say at which input.
  Laid BY PROGRAM, IN A SANDBOX (cutbox-rows.mjs): the forced cells as the released guide's own fill.sh prints them over the translation 19c3612229921ea1… (all of the seat's roots in one cut). By AI agents, Wed Nov 11 2026. No macro, syntax, notation, axiom, sorry.
-/
import Derived.Test.YtimkcpbgnoekcaaChecked
import GoSem.Claim
import GoSem.ClaimJoined
import GoSem.ClaimMapViews
import Derived.JoinedTies
import Derived.KernelRfl
namespace Go.Proofs.Ytimkcpbgnoekcaa
/- THE CELL 'sum', in the pinned program and in every row, IS THE sha256 OF THE DUMP (.gsa) THAT YtimkcpbgnoekcaaProg.lean LOADS. Nothing in Lean hashes anything: it is a label: what it is worth is what the hold of that sum in a sandbox is worth. -/
noncomputable def Try.pinned : Pinned := { name := "ytimkcpbgnoekcaa", sum := "19c3612229921ea1d1e1b79831a7724af216df1ceaa9d6bbedcee1ed6ee977e3", checked := Try.checked }
namespace Rows
def none {H : Type} : Left H := { results := [], args := [] }

/-- 'triglyphlaw07.SeekTwo': WHATEVER THE INPUT: true; the input reads as it did. -/
def seekTwoSpec : ChangeSpec := { name := "seekTwo", fn := fun _ => fun
  | [d1, d2, d3] => { results := [.lit (.bool true)], args := [d1, d2, d3] }
  | _ => none }
def seekTwoRow : OpenClaim := { program := "ytimkcpbgnoekcaa", sum := "19c3612229921ea1d1e1b79831a7724af216df1ceaa9d6bbedcee1ed6ee977e3", func := "triglyph/triglyphlaw07.SeekTwo", spec := "seekTwo", unfollowed := true, recurses := true, loops := true, apart := false }
def SeekTwoSaid : Prop := seekTwoRow.holds Try.pinned (OpenSpec.ofChange seekTwoSpec)

/-- ITS FALSE NEIGHBOUR: 'it returns false'. Refute it at one input. -/
def seekTwoWrong : ChangeSpec := { name := "seekTwo", fn := fun _ => fun
  | [d1, d2, d3] => { results := [.lit (.bool false)], args := [d1, d2, d3] }
  | _ => none }
def SeekTwoWrongFalsely : Prop := seekTwoRow.holds Try.pinned (OpenSpec.ofChange seekTwoWrong)

/-- 'triglyphlaw07.SeekOne': WHATEVER THE INPUT: true; the input reads as it did. -/
def seekOneSpec : ChangeSpec := { name := "seekOne", fn := fun _ => fun
  | [d1, d2] => { results := [.lit (.bool true)], args := [d1, d2] }
  | _ => none }
def seekOneRow : OpenClaim := { program := "ytimkcpbgnoekcaa", sum := "19c3612229921ea1d1e1b79831a7724af216df1ceaa9d6bbedcee1ed6ee977e3", func := "triglyph/triglyphlaw07.SeekOne", spec := "seekOne", unfollowed := true, recurses := true, loops := true, apart := false }
def SeekOneSaid : Prop := seekOneRow.holds Try.pinned (OpenSpec.ofChange seekOneSpec)

/-- ITS FALSE NEIGHBOUR: 'it returns false'. Refute it at one input. -/
def seekOneWrong : ChangeSpec := { name := "seekOne", fn := fun _ => fun
  | [d1, d2] => { results := [.lit (.bool false)], args := [d1, d2] }
  | _ => none }
def SeekOneWrongFalsely : Prop := seekOneRow.holds Try.pinned (OpenSpec.ofChange seekOneWrong)

/-- 'triglyphlaw07.SeekSorted': WHATEVER THE INPUT: true; the input reads as it did. -/
def seekSortedSpec : ChangeSpec := { name := "seekSorted", fn := fun _ => fun
  | [d1, d2] => { results := [.lit (.bool true)], args := [d1, d2] }
  | _ => none }
def seekSortedRow : OpenClaim := { program := "ytimkcpbgnoekcaa", sum := "19c3612229921ea1d1e1b79831a7724af216df1ceaa9d6bbedcee1ed6ee977e3", func := "triglyph/triglyphlaw07.SeekSorted", spec := "seekSorted", unfollowed := true, recurses := true, loops := true, apart := false }
def SeekSortedSaid : Prop := seekSortedRow.holds Try.pinned (OpenSpec.ofChange seekSortedSpec)

/-- ITS FALSE NEIGHBOUR: 'it returns false'. Refute it at one input. -/
def seekSortedWrong : ChangeSpec := { name := "seekSorted", fn := fun _ => fun
  | [d1, d2] => { results := [.lit (.bool false)], args := [d1, d2] }
  | _ => none }
def SeekSortedWrongFalsely : Prop := seekSortedRow.holds Try.pinned (OpenSpec.ofChange seekSortedWrong)

/-- 'triglyphlaw07.SeekOnce': WHATEVER THE INPUT: true; the input reads as it did. -/
def seekOnceSpec : ChangeSpec := { name := "seekOnce", fn := fun _ => fun
  | [d] => { results := [.lit (.bool true)], args := [d] }
  | _ => none }
def seekOnceRow : OpenClaim := { program := "ytimkcpbgnoekcaa", sum := "19c3612229921ea1d1e1b79831a7724af216df1ceaa9d6bbedcee1ed6ee977e3", func := "triglyph/triglyphlaw07.SeekOnce", spec := "seekOnce", unfollowed := true, recurses := true, loops := true, apart := false }
def SeekOnceSaid : Prop := seekOnceRow.holds Try.pinned (OpenSpec.ofChange seekOnceSpec)

/-- ITS FALSE NEIGHBOUR: 'it returns false'. Refute it at one input. -/
def seekOnceWrong : ChangeSpec := { name := "seekOnce", fn := fun _ => fun
  | [d] => { results := [.lit (.bool false)], args := [d] }
  | _ => none }
def SeekOnceWrongFalsely : Prop := seekOnceRow.holds Try.pinned (OpenSpec.ofChange seekOnceWrong)

/-- 'triglyphlaw07.SeekFinds': WHATEVER THE INPUT: true; the input reads as it did. -/
def seekFindsSpec : ChangeSpec := { name := "seekFinds", fn := fun _ => fun
  | [d1, d2] => { results := [.lit (.bool true)], args := [d1, d2] }
  | _ => none }
def seekFindsRow : OpenClaim := { program := "ytimkcpbgnoekcaa", sum := "19c3612229921ea1d1e1b79831a7724af216df1ceaa9d6bbedcee1ed6ee977e3", func := "triglyph/triglyphlaw07.SeekFinds", spec := "seekFinds", unfollowed := true, recurses := true, loops := true, apart := false }
def SeekFindsSaid : Prop := seekFindsRow.holds Try.pinned (OpenSpec.ofChange seekFindsSpec)

/-- ITS FALSE NEIGHBOUR: 'it returns false'. Refute it at one input. -/
def seekFindsWrong : ChangeSpec := { name := "seekFinds", fn := fun _ => fun
  | [d1, d2] => { results := [.lit (.bool false)], args := [d1, d2] }
  | _ => none }
def SeekFindsWrongFalsely : Prop := seekFindsRow.holds Try.pinned (OpenSpec.ofChange seekFindsWrong)

/- THE SECOND FORM. 'bulk': how many values and letters a reading holds, each counted each time it is reached (what is shared counts as often as it is met; a slice's spare places count too). A statement '..UptoSaid' is the law's where the arguments, and the package variables that the reading takes, are together of bulk at most 1048576: NARROWER than '..Said'. Prove '..Said' where nothing that the law and all that it calls make is longer than what came in: it says more and counts as full. Else prove '..UptoSaid'. A law counts once. -/
mutual
def uptoBulk {H : Type} : DataW H → Nat
  | .lit (.string bytes) => bytes.length + 1
  | .lit _ => 1
  | .nil => 1
  | .ptr d => uptoBulk d + 1
  | .slice elems spare => uptoBulkAll elems + uptoBulkAll spare + 1
  | .agg parts => uptoBulkAll parts + 1
  | .iface _ d => uptoBulk d + 1
  | .map entries => uptoBulkEntries entries + 1
  | .held _ => 1
def uptoBulkAll {H : Type} : List (DataW H) → Nat
  | [] => 0
  | d :: r => uptoBulk d + uptoBulkAll r
def uptoBulkEntries {H : Type} : List (Lit × DataW H) → Nat
  | [] => 0
  | x :: r => uptoBulkEntry x + uptoBulkEntries r
def uptoBulkEntry {H : Type} : Lit × DataW H → Nat
  | (.string bytes, d) => bytes.length + uptoBulk d + 1
  | (_, d) => uptoBulk d + 1
 end
def uptoSmall : (H : Type) → List (DataW H) → Bool := fun _ ds => decide (uptoBulkAll ds ≤ 1048576)
def OpenSpec.upto (s : _root_.Go.ChangeSpec) : _root_.Go.OpenSpec := { _root_.Go.OpenSpec.ofChange s with cond := some uptoSmall }

/-- 'triglyphlaw07.SeekTwo', WHERE WHAT IT READS IS OF BULK AT MOST 1048576: true; the input reads as it did. -/
def seekTwoUptoRow : OpenClaim := { program := "ytimkcpbgnoekcaa", sum := "19c3612229921ea1d1e1b79831a7724af216df1ceaa9d6bbedcee1ed6ee977e3", func := "triglyph/triglyphlaw07.SeekTwo", spec := "seekTwo", unfollowed := true, recurses := true, loops := true, apart := false, narrowed := true }
def SeekTwoUptoSaid : Prop := seekTwoUptoRow.holds Try.pinned (OpenSpec.upto seekTwoSpec)

/-- 'triglyphlaw07.SeekOne', WHERE WHAT IT READS IS OF BULK AT MOST 1048576: true; the input reads as it did. -/
def seekOneUptoRow : OpenClaim := { program := "ytimkcpbgnoekcaa", sum := "19c3612229921ea1d1e1b79831a7724af216df1ceaa9d6bbedcee1ed6ee977e3", func := "triglyph/triglyphlaw07.SeekOne", spec := "seekOne", unfollowed := true, recurses := true, loops := true, apart := false, narrowed := true }
def SeekOneUptoSaid : Prop := seekOneUptoRow.holds Try.pinned (OpenSpec.upto seekOneSpec)

/-- 'triglyphlaw07.SeekSorted', WHERE WHAT IT READS IS OF BULK AT MOST 1048576: true; the input reads as it did. -/
def seekSortedUptoRow : OpenClaim := { program := "ytimkcpbgnoekcaa", sum := "19c3612229921ea1d1e1b79831a7724af216df1ceaa9d6bbedcee1ed6ee977e3", func := "triglyph/triglyphlaw07.SeekSorted", spec := "seekSorted", unfollowed := true, recurses := true, loops := true, apart := false, narrowed := true }
def SeekSortedUptoSaid : Prop := seekSortedUptoRow.holds Try.pinned (OpenSpec.upto seekSortedSpec)

/-- 'triglyphlaw07.SeekOnce', WHERE WHAT IT READS IS OF BULK AT MOST 1048576: true; the input reads as it did. -/
def seekOnceUptoRow : OpenClaim := { program := "ytimkcpbgnoekcaa", sum := "19c3612229921ea1d1e1b79831a7724af216df1ceaa9d6bbedcee1ed6ee977e3", func := "triglyph/triglyphlaw07.SeekOnce", spec := "seekOnce", unfollowed := true, recurses := true, loops := true, apart := false, narrowed := true }
def SeekOnceUptoSaid : Prop := seekOnceUptoRow.holds Try.pinned (OpenSpec.upto seekOnceSpec)

/-- 'triglyphlaw07.SeekFinds', WHERE WHAT IT READS IS OF BULK AT MOST 1048576: true; the input reads as it did. -/
def seekFindsUptoRow : OpenClaim := { program := "ytimkcpbgnoekcaa", sum := "19c3612229921ea1d1e1b79831a7724af216df1ceaa9d6bbedcee1ed6ee977e3", func := "triglyph/triglyphlaw07.SeekFinds", spec := "seekFinds", unfollowed := true, recurses := true, loops := true, apart := false, narrowed := true }
def SeekFindsUptoSaid : Prop := seekFindsUptoRow.holds Try.pinned (OpenSpec.upto seekFindsSpec)

end Rows
end Go.Proofs.Ytimkcpbgnoekcaa
