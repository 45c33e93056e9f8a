/-
  DERIVED. GIVEN WITH THE SEED: THE CARDS: each row of YtneblkdkhlgmcaaGreatDoorRows.lean that lists a variable, with what it lists TIED to the program's text (the seventh form; the later family's looks); each row that meets fmt, with fmt's text TOLD by the authors' own Lean function (tested against real Go, not proved from fmt's source: count such statements apart). THE CARD IS WHAT COUNTS. Prove the row's statement (the work); the ties are given (YtneblkdkhlgmcaaGreatDoorTie.lean); close each card by the builder's one call (the guide's Derived/Test/ToyasCard.lean, 'card_holds'). Laid BY PROGRAM, IN A SANDBOX (cutbox-door.mjs). By AI agents, Wed Nov 11 2026. No macro, syntax, notation, axiom, sorry.
-/
import Derived.Test.YtneblkdkhlgmcaaGreatDoorRows
import GoSem.ClaimSeven
namespace Go.Proofs.YtneblkdkhlgmcaaGreatDoor
namespace Rows

/-- THE TIED CARD OF 'triglyphlaw16.SpellLiterals'. -/
def spellLiteralsCard : Claim7 := { stood := { row := spellLiteralsRow, standIns := [], harness := (true, "35f295a3320f3ee8ded7826b61930b730a15ff8f49037a9cb02edc58376be2d1"), looks := false }, kinds := [], alts := [], laidByText := true, laidKinds := [.data, .data, .data, .data], laidTests := true, laidLooks := .later }
def SpellLiteralsCardSaid : Prop := Claim7.holds Tryz.pinned (.plain (OpenSpec.ofChange spellLiteralsSpec)) spellLiteralsCard

/-- THE TIED CARD OF 'triglyphlaw16.SpellBack'. -/
def spellBackCard : Claim7 := { stood := { row := spellBackRow, standIns := [], harness := (true, "35f295a3320f3ee8ded7826b61930b730a15ff8f49037a9cb02edc58376be2d1"), looks := false }, kinds := [], alts := [], laidByText := true, laidKinds := [.data, .data, .data, .data], laidTests := true, laidLooks := .later }
def SpellBackCardSaid : Prop := Claim7.holds Tryz.pinned (.plain (OpenSpec.ofChange spellBackSpec)) spellBackCard

/-- THE TIED CARD OF 'triglyphlaw16.SpellReads'. -/
def spellReadsCard : Claim7 := { stood := { row := spellReadsRow, standIns := [], harness := (true, "35f295a3320f3ee8ded7826b61930b730a15ff8f49037a9cb02edc58376be2d1"), looks := false }, kinds := [], alts := [], laidByText := true, laidKinds := [.data, .data, .data, .data], laidTests := true, laidLooks := .later }
def SpellReadsCardSaid : Prop := Claim7.holds Tryz.pinned (.plain (OpenSpec.ofChange spellReadsSpec)) spellReadsCard

/-- THE SECOND FORM's CARD OF 'triglyphlaw16.SpellLiterals'. -/
def spellLiteralsUptoCard : Claim7 := { stood := { row := spellLiteralsUptoRow, standIns := [], harness := (true, "35f295a3320f3ee8ded7826b61930b730a15ff8f49037a9cb02edc58376be2d1"), looks := false }, kinds := [], alts := [], laidByText := true, laidKinds := [.data, .data, .data, .data], laidTests := true, laidLooks := .later }
def SpellLiteralsUptoCardSaid : Prop := Claim7.holds Tryz.pinned (.plain (OpenSpec.upto spellLiteralsSpec)) spellLiteralsUptoCard

/-- THE SECOND FORM's CARD OF 'triglyphlaw16.SpellBack'. -/
def spellBackUptoCard : Claim7 := { stood := { row := spellBackUptoRow, standIns := [], harness := (true, "35f295a3320f3ee8ded7826b61930b730a15ff8f49037a9cb02edc58376be2d1"), looks := false }, kinds := [], alts := [], laidByText := true, laidKinds := [.data, .data, .data, .data], laidTests := true, laidLooks := .later }
def SpellBackUptoCardSaid : Prop := Claim7.holds Tryz.pinned (.plain (OpenSpec.upto spellBackSpec)) spellBackUptoCard

/-- THE SECOND FORM's CARD OF 'triglyphlaw16.SpellReads'. -/
def spellReadsUptoCard : Claim7 := { stood := { row := spellReadsUptoRow, standIns := [], harness := (true, "35f295a3320f3ee8ded7826b61930b730a15ff8f49037a9cb02edc58376be2d1"), looks := false }, kinds := [], alts := [], laidByText := true, laidKinds := [.data, .data, .data, .data], laidTests := true, laidLooks := .later }
def SpellReadsUptoCardSaid : Prop := Claim7.holds Tryz.pinned (.plain (OpenSpec.upto spellReadsSpec)) spellReadsUptoCard
end Rows
end Go.Proofs.YtneblkdkhlgmcaaGreatDoor
