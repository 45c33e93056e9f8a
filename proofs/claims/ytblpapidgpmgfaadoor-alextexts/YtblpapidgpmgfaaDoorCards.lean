/-
  DERIVED. GIVEN WITH THE SEED: THE CARDS: each row of YtblpapidgpmgfaaDoorRows.lean that lists a variable, with what it lists TIED to the program's text (the seventh form; the later family's looks); each row that meets fmt, with fmt's text TOLD by the authors' own Lean function (tested against real Go, not proved from fmt's source: count such statements apart). THE CARD IS WHAT COUNTS. Prove the row's statement (the work); the ties are given (YtblpapidgpmgfaaDoorTie.lean); close each card by the builder's one call (the guide's Derived/Test/ToyasCard.lean, 'card_holds'). Laid BY PROGRAM, IN A SANDBOX (cutbox-door.mjs). By AI agents, Wed Nov 11 2026. No macro, syntax, notation, axiom, sorry.
-/
import Derived.Test.YtblpapidgpmgfaaDoorRows
import GoSem.ClaimSeven
namespace Go.Proofs.YtblpapidgpmgfaaDoor
namespace Rows

/-- THE TIED CARD OF 'triglyphlaw12.AlexBlanks'. -/
def alexBlanksCard : Claim7 := { stood := { row := alexBlanksRow, standIns := [], harness := (true, "015747f71076069f9f221466071942ffd5239ff88cc73de3e29da2642af7ca50"), looks := true }, kinds := [], alts := [], laidByText := true, laidKinds := [.data, .data, .data, .sentinel, .sentinel, .data, .data, .data], laidTests := true, laidLooks := .later }
def AlexBlanksCardSaid : Prop := Claim7.holds Tryd.pinned (.plain (OpenSpec.ofChange alexBlanksSpec)) alexBlanksCard

/-- THE TIED CARD OF 'triglyphlaw12.AlexPlaces'. -/
def alexPlacesCard : Claim7 := { stood := { row := alexPlacesRow, standIns := [], harness := (true, "015747f71076069f9f221466071942ffd5239ff88cc73de3e29da2642af7ca50"), looks := true }, kinds := [], alts := [], laidByText := true, laidKinds := [.data, .data, .data, .sentinel, .sentinel, .data, .data, .data], laidTests := true, laidLooks := .later }
def AlexPlacesCardSaid : Prop := Claim7.holds Tryd.pinned (.plain (OpenSpec.ofChange alexPlacesSpec)) alexPlacesCard

/-- THE TIED CARD OF 'triglyphlaw12.AlexRemarks'. -/
def alexRemarksCard : Claim7 := { stood := { row := alexRemarksRow, standIns := [], harness := (true, "015747f71076069f9f221466071942ffd5239ff88cc73de3e29da2642af7ca50"), looks := true }, kinds := [], alts := [], laidByText := true, laidKinds := [.data, .data, .data, .sentinel, .sentinel, .data, .data, .data], laidTests := true, laidLooks := .later }
def AlexRemarksCardSaid : Prop := Claim7.holds Tryd.pinned (.plain (OpenSpec.ofChange alexRemarksSpec)) alexRemarksCard

/-- THE TIED CARD OF 'triglyphlaw12.AlexTexts'. -/
def alexTextsCard : Claim7 := { stood := { row := alexTextsRow, standIns := [], harness := (true, "015747f71076069f9f221466071942ffd5239ff88cc73de3e29da2642af7ca50"), looks := true }, kinds := [], alts := [], laidByText := true, laidKinds := [.data, .data, .data, .sentinel, .sentinel, .data, .data, .data], laidTests := true, laidLooks := .later }
def AlexTextsCardSaid : Prop := Claim7.holds Tryd.pinned (.plain (OpenSpec.ofChange alexTextsSpec)) alexTextsCard

/-- THE SECOND FORM's CARD OF 'triglyphlaw12.AlexBlanks'. -/
def alexBlanksUptoCard : Claim7 := { stood := { row := alexBlanksUptoRow, standIns := [], harness := (true, "015747f71076069f9f221466071942ffd5239ff88cc73de3e29da2642af7ca50"), looks := true }, kinds := [], alts := [], laidByText := true, laidKinds := [.data, .data, .data, .sentinel, .sentinel, .data, .data, .data], laidTests := true, laidLooks := .later }
def AlexBlanksUptoCardSaid : Prop := Claim7.holds Tryd.pinned (.plain (OpenSpec.upto alexBlanksSpec)) alexBlanksUptoCard

/-- THE SECOND FORM's CARD OF 'triglyphlaw12.AlexPlaces'. -/
def alexPlacesUptoCard : Claim7 := { stood := { row := alexPlacesUptoRow, standIns := [], harness := (true, "015747f71076069f9f221466071942ffd5239ff88cc73de3e29da2642af7ca50"), looks := true }, kinds := [], alts := [], laidByText := true, laidKinds := [.data, .data, .data, .sentinel, .sentinel, .data, .data, .data], laidTests := true, laidLooks := .later }
def AlexPlacesUptoCardSaid : Prop := Claim7.holds Tryd.pinned (.plain (OpenSpec.upto alexPlacesSpec)) alexPlacesUptoCard

/-- THE SECOND FORM's CARD OF 'triglyphlaw12.AlexRemarks'. -/
def alexRemarksUptoCard : Claim7 := { stood := { row := alexRemarksUptoRow, standIns := [], harness := (true, "015747f71076069f9f221466071942ffd5239ff88cc73de3e29da2642af7ca50"), looks := true }, kinds := [], alts := [], laidByText := true, laidKinds := [.data, .data, .data, .sentinel, .sentinel, .data, .data, .data], laidTests := true, laidLooks := .later }
def AlexRemarksUptoCardSaid : Prop := Claim7.holds Tryd.pinned (.plain (OpenSpec.upto alexRemarksSpec)) alexRemarksUptoCard

/-- THE SECOND FORM's CARD OF 'triglyphlaw12.AlexTexts'. -/
def alexTextsUptoCard : Claim7 := { stood := { row := alexTextsUptoRow, standIns := [], harness := (true, "015747f71076069f9f221466071942ffd5239ff88cc73de3e29da2642af7ca50"), looks := true }, kinds := [], alts := [], laidByText := true, laidKinds := [.data, .data, .data, .sentinel, .sentinel, .data, .data, .data], laidTests := true, laidLooks := .later }
def AlexTextsUptoCardSaid : Prop := Claim7.holds Tryd.pinned (.plain (OpenSpec.upto alexTextsSpec)) alexTextsUptoCard
end Rows
end Go.Proofs.YtblpapidgpmgfaaDoor
