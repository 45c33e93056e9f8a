/-
  DERIVED. GIVEN WITH THE SEED: THE CARDS: each row of YtneblkdkhlgmcaaDoorRows.lean that lists a variable, with what it lists TIED to the program's text (the seventh form; the later family's looks); each row that meets fmt, with fmt's text TOLD by the authors' own Lean function (tested against real Go, not proved from fmt's source: count such statements apart). THE CARD IS WHAT COUNTS. Prove the row's statement (the work); the ties are given (YtneblkdkhlgmcaaDoorTie.lean); close each card by the builder's one call (the guide's Derived/Test/ToyasCard.lean, 'card_holds'). Laid BY PROGRAM, IN A SANDBOX (cutbox-door.mjs). By AI agents, Wed Nov 11 2026. No macro, syntax, notation, axiom, sorry.
-/
import Derived.Test.YtneblkdkhlgmcaaDoorRows
import GoSem.ClaimSeven
namespace Go.Proofs.YtneblkdkhlgmcaaDoor
namespace Rows

/-- THE TIED CARD OF 'triglyphlaw16.SpellNumbers'. -/
def spellNumbersCard : Claim7 := { stood := { row := spellNumbersRow, standIns := [], harness := (true, "163bb7ead7659fd36b89bf36554d3148bc87ac1449b60bb818cd1f4699b212bc"), looks := false }, kinds := [], alts := [], laidByText := true, laidKinds := [.data, .data, .data, .data], laidTests := true, laidLooks := .later }
def SpellNumbersCardSaid : Prop := Claim7.holds Tryd.pinned (.plain (OpenSpec.ofChange spellNumbersSpec)) spellNumbersCard

/-- THE TIED CARD OF 'triglyphlaw16.SpellWrites'. -/
def spellWritesCard : Claim7 := { stood := { row := spellWritesRow, standIns := [], harness := (true, "163bb7ead7659fd36b89bf36554d3148bc87ac1449b60bb818cd1f4699b212bc"), looks := false }, kinds := [], alts := [], laidByText := true, laidKinds := [.data, .data, .data, .data], laidTests := true, laidLooks := .later }
def SpellWritesCardSaid : Prop := Claim7.holds Tryd.pinned (.plain (OpenSpec.ofChange spellWritesSpec)) spellWritesCard

/-- THE SECOND FORM's CARD OF 'triglyphlaw16.SpellNumbers'. -/
def spellNumbersUptoCard : Claim7 := { stood := { row := spellNumbersUptoRow, standIns := [], harness := (true, "163bb7ead7659fd36b89bf36554d3148bc87ac1449b60bb818cd1f4699b212bc"), looks := false }, kinds := [], alts := [], laidByText := true, laidKinds := [.data, .data, .data, .data], laidTests := true, laidLooks := .later }
def SpellNumbersUptoCardSaid : Prop := Claim7.holds Tryd.pinned (.plain (OpenSpec.upto spellNumbersSpec)) spellNumbersUptoCard

/-- THE SECOND FORM's CARD OF 'triglyphlaw16.SpellWrites'. -/
def spellWritesUptoCard : Claim7 := { stood := { row := spellWritesUptoRow, standIns := [], harness := (true, "163bb7ead7659fd36b89bf36554d3148bc87ac1449b60bb818cd1f4699b212bc"), looks := false }, kinds := [], alts := [], laidByText := true, laidKinds := [.data, .data, .data, .data], laidTests := true, laidLooks := .later }
def SpellWritesUptoCardSaid : Prop := Claim7.holds Tryd.pinned (.plain (OpenSpec.upto spellWritesSpec)) spellWritesUptoCard
end Rows
end Go.Proofs.YtneblkdkhlgmcaaDoor
