/-
  DERIVED. GIVEN WITH THE SEED: THE CARDS: each row of YtljanfmmhglpiaaDoorRows.lean that lists a variable, with what it lists TIED to the program's text (the seventh form; the later family's looks); each row that meets fmt, with fmt's text TOLD by the authors' own Lean function (tested against real Go, not proved from fmt's source: count such statements apart). THE CARD IS WHAT COUNTS. Prove the row's statement (the work); the ties are given (YtljanfmmhglpiaaDoorTie.lean); close each card by the builder's one call (the guide's Derived/Test/ToyasCard.lean, 'card_holds'). Laid BY PROGRAM, IN A SANDBOX (cutbox-door.mjs). By AI agents, Wed Nov 11 2026. No macro, syntax, notation, axiom, sorry.
-/
import Derived.Test.YtljanfmmhglpiaaDoorRows
import GoSem.ClaimSeven
namespace Go.Proofs.YtljanfmmhglpiaaDoor
namespace Rows

/-- THE TIED CARD OF 'triglyphlaw14.KlexBlanks'. -/
def klexBlanksCard : Claim7 := { stood := { row := klexBlanksRow, standIns := [], harness := (true, "16b4ea4e091422cc74a5aed84b0d857ab6f17ca7b276b2150b1364c7a8997f44"), looks := true }, kinds := [], alts := [], laidByText := true, laidKinds := [.data, .data, .data, .sentinel, .sentinel, .data], laidTests := true, laidLooks := .later }
def KlexBlanksCardSaid : Prop := Claim7.holds Tryd.pinned (.plain (OpenSpec.ofChange klexBlanksSpec)) klexBlanksCard

/-- THE TIED CARD OF 'triglyphlaw14.KlexPlaces'. -/
def klexPlacesCard : Claim7 := { stood := { row := klexPlacesRow, standIns := [], harness := (true, "16b4ea4e091422cc74a5aed84b0d857ab6f17ca7b276b2150b1364c7a8997f44"), looks := true }, kinds := [], alts := [], laidByText := true, laidKinds := [.data, .data, .data, .sentinel, .sentinel, .data], laidTests := true, laidLooks := .later }
def KlexPlacesCardSaid : Prop := Claim7.holds Tryd.pinned (.plain (OpenSpec.ofChange klexPlacesSpec)) klexPlacesCard

/-- THE TIED CARD OF 'triglyphlaw14.KlexMinus'. -/
def klexMinusCard : Claim7 := { stood := { row := klexMinusRow, standIns := [], harness := (true, "16b4ea4e091422cc74a5aed84b0d857ab6f17ca7b276b2150b1364c7a8997f44"), looks := true }, kinds := [], alts := [], laidByText := true, laidKinds := [.data, .data, .data, .sentinel, .sentinel, .data], laidTests := true, laidLooks := .later }
def KlexMinusCardSaid : Prop := Claim7.holds Tryd.pinned (.plain (OpenSpec.ofChange klexMinusSpec)) klexMinusCard

/-- THE TIED CARD OF 'triglyphlaw14.KlexTexts'. -/
def klexTextsCard : Claim7 := { stood := { row := klexTextsRow, standIns := [], harness := (true, "16b4ea4e091422cc74a5aed84b0d857ab6f17ca7b276b2150b1364c7a8997f44"), looks := true }, kinds := [], alts := [], laidByText := true, laidKinds := [.data, .data, .data, .sentinel, .sentinel, .data], laidTests := true, laidLooks := .later }
def KlexTextsCardSaid : Prop := Claim7.holds Tryd.pinned (.plain (OpenSpec.ofChange klexTextsSpec)) klexTextsCard

/-- THE SECOND FORM's CARD OF 'triglyphlaw14.KlexBlanks'. -/
def klexBlanksUptoCard : Claim7 := { stood := { row := klexBlanksUptoRow, standIns := [], harness := (true, "16b4ea4e091422cc74a5aed84b0d857ab6f17ca7b276b2150b1364c7a8997f44"), looks := true }, kinds := [], alts := [], laidByText := true, laidKinds := [.data, .data, .data, .sentinel, .sentinel, .data], laidTests := true, laidLooks := .later }
def KlexBlanksUptoCardSaid : Prop := Claim7.holds Tryd.pinned (.plain (OpenSpec.upto klexBlanksSpec)) klexBlanksUptoCard

/-- THE SECOND FORM's CARD OF 'triglyphlaw14.KlexPlaces'. -/
def klexPlacesUptoCard : Claim7 := { stood := { row := klexPlacesUptoRow, standIns := [], harness := (true, "16b4ea4e091422cc74a5aed84b0d857ab6f17ca7b276b2150b1364c7a8997f44"), looks := true }, kinds := [], alts := [], laidByText := true, laidKinds := [.data, .data, .data, .sentinel, .sentinel, .data], laidTests := true, laidLooks := .later }
def KlexPlacesUptoCardSaid : Prop := Claim7.holds Tryd.pinned (.plain (OpenSpec.upto klexPlacesSpec)) klexPlacesUptoCard

/-- THE SECOND FORM's CARD OF 'triglyphlaw14.KlexMinus'. -/
def klexMinusUptoCard : Claim7 := { stood := { row := klexMinusUptoRow, standIns := [], harness := (true, "16b4ea4e091422cc74a5aed84b0d857ab6f17ca7b276b2150b1364c7a8997f44"), looks := true }, kinds := [], alts := [], laidByText := true, laidKinds := [.data, .data, .data, .sentinel, .sentinel, .data], laidTests := true, laidLooks := .later }
def KlexMinusUptoCardSaid : Prop := Claim7.holds Tryd.pinned (.plain (OpenSpec.upto klexMinusSpec)) klexMinusUptoCard

/-- THE SECOND FORM's CARD OF 'triglyphlaw14.KlexTexts'. -/
def klexTextsUptoCard : Claim7 := { stood := { row := klexTextsUptoRow, standIns := [], harness := (true, "16b4ea4e091422cc74a5aed84b0d857ab6f17ca7b276b2150b1364c7a8997f44"), looks := true }, kinds := [], alts := [], laidByText := true, laidKinds := [.data, .data, .data, .sentinel, .sentinel, .data], laidTests := true, laidLooks := .later }
def KlexTextsUptoCardSaid : Prop := Claim7.holds Tryd.pinned (.plain (OpenSpec.upto klexTextsSpec)) klexTextsUptoCard
end Rows
end Go.Proofs.YtljanfmmhglpiaaDoor
