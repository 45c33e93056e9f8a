/-
  DERIVED. GIVEN WITH THE SEED: THE CARDS: each row of YtkigfmfegldhcaaDoorRows.lean that lists a variable, with what it lists TIED to the program's text (the seventh form; the later family's looks); each row that meets fmt, with fmt's text TOLD by the authors' own Lean function (tested against real Go, not proved from fmt's source: count such statements apart). THE CARD IS WHAT COUNTS. Prove the row's statement (the work); the ties are given (YtkigfmfegldhcaaDoorTie.lean); close each card by the builder's one call (the guide's Derived/Test/ToyasCard.lean, 'card_holds'). Laid BY PROGRAM, IN A SANDBOX (cutbox-door.mjs). By AI agents, Wed Nov 11 2026. No macro, syntax, notation, axiom, sorry.
-/
import Derived.Test.YtkigfmfegldhcaaDoorRows
import GoSem.ClaimSeven
namespace Go.Proofs.YtkigfmfegldhcaaDoor
namespace Rows

/-- THE TIED CARD OF 'triglyphlaw04.AtomicOne'. -/
def atomicOneCard : Claim7 := { stood := { row := atomicOneRow, standIns := [], harness := (true, "fd5b97cc654f9f786890f95d444c648f32b206236c6fe8f93d88bb81a2ff0a8b"), looks := false }, kinds := [], alts := [], laidByText := true, laidKinds := [.data], laidTests := true, laidLooks := .later }
def AtomicOneCardSaid : Prop := Claim7.holds Tryd.pinned (.plain (OpenSpec.ofChange atomicOneSpec)) atomicOneCard

/-- THE TIED CARD OF 'triglyphlaw04.AtomicCells'. -/
def atomicCellsCard : Claim7 := { stood := { row := atomicCellsRow, standIns := [], harness := (true, "fd5b97cc654f9f786890f95d444c648f32b206236c6fe8f93d88bb81a2ff0a8b"), looks := false }, kinds := [], alts := [], laidByText := true, laidKinds := [.data], laidTests := true, laidLooks := .later }
def AtomicCellsCardSaid : Prop := Claim7.holds Tryd.pinned (.plain (OpenSpec.ofChange atomicCellsSpec)) atomicCellsCard

/-- THE TIED CARD OF 'triglyphlaw04.AtomicTwo'. -/
def atomicTwoCard : Claim7 := { stood := { row := atomicTwoRow, standIns := [], harness := (true, "fd5b97cc654f9f786890f95d444c648f32b206236c6fe8f93d88bb81a2ff0a8b"), looks := false }, kinds := [], alts := [], laidByText := true, laidKinds := [.data], laidTests := true, laidLooks := .later }
def AtomicTwoCardSaid : Prop := Claim7.holds Tryd.pinned (.plain (OpenSpec.ofChange atomicTwoSpec)) atomicTwoCard

/-- THE TIED CARD OF 'triglyphlaw04.AtomicAgrees'. -/
def atomicAgreesCard : Claim7 := { stood := { row := atomicAgreesRow, standIns := [], harness := (true, "fd5b97cc654f9f786890f95d444c648f32b206236c6fe8f93d88bb81a2ff0a8b"), looks := false }, kinds := [], alts := [], laidByText := true, laidKinds := [.data], laidTests := true, laidLooks := .later }
def AtomicAgreesCardSaid : Prop := Claim7.holds Tryd.pinned (.plain (OpenSpec.ofChange atomicAgreesSpec)) atomicAgreesCard

/-- THE TIED CARD OF 'triglyphlaw04.AtomicTurned'. -/
def atomicTurnedCard : Claim7 := { stood := { row := atomicTurnedRow, standIns := [], harness := (true, "fd5b97cc654f9f786890f95d444c648f32b206236c6fe8f93d88bb81a2ff0a8b"), looks := false }, kinds := [], alts := [], laidByText := true, laidKinds := [.data], laidTests := true, laidLooks := .later }
def AtomicTurnedCardSaid : Prop := Claim7.holds Tryd.pinned (.plain (OpenSpec.ofChange atomicTurnedSpec)) atomicTurnedCard

/-- THE TIED CARD OF 'triglyphlaw04.AtomicAtoms'. -/
def atomicAtomsCard : Claim7 := { stood := { row := atomicAtomsRow, standIns := [], harness := (true, "fd5b97cc654f9f786890f95d444c648f32b206236c6fe8f93d88bb81a2ff0a8b"), looks := false }, kinds := [], alts := [], laidByText := true, laidKinds := [.data], laidTests := true, laidLooks := .later }
def AtomicAtomsCardSaid : Prop := Claim7.holds Tryd.pinned (.plain (OpenSpec.ofChange atomicAtomsSpec)) atomicAtomsCard

/-- THE SECOND FORM's CARD OF 'triglyphlaw04.AtomicOne'. -/
def atomicOneUptoCard : Claim7 := { stood := { row := atomicOneUptoRow, standIns := [], harness := (true, "fd5b97cc654f9f786890f95d444c648f32b206236c6fe8f93d88bb81a2ff0a8b"), looks := false }, kinds := [], alts := [], laidByText := true, laidKinds := [.data], laidTests := true, laidLooks := .later }
def AtomicOneUptoCardSaid : Prop := Claim7.holds Tryd.pinned (.plain (OpenSpec.upto atomicOneSpec)) atomicOneUptoCard

/-- THE SECOND FORM's CARD OF 'triglyphlaw04.AtomicCells'. -/
def atomicCellsUptoCard : Claim7 := { stood := { row := atomicCellsUptoRow, standIns := [], harness := (true, "fd5b97cc654f9f786890f95d444c648f32b206236c6fe8f93d88bb81a2ff0a8b"), looks := false }, kinds := [], alts := [], laidByText := true, laidKinds := [.data], laidTests := true, laidLooks := .later }
def AtomicCellsUptoCardSaid : Prop := Claim7.holds Tryd.pinned (.plain (OpenSpec.upto atomicCellsSpec)) atomicCellsUptoCard

/-- THE SECOND FORM's CARD OF 'triglyphlaw04.AtomicTwo'. -/
def atomicTwoUptoCard : Claim7 := { stood := { row := atomicTwoUptoRow, standIns := [], harness := (true, "fd5b97cc654f9f786890f95d444c648f32b206236c6fe8f93d88bb81a2ff0a8b"), looks := false }, kinds := [], alts := [], laidByText := true, laidKinds := [.data], laidTests := true, laidLooks := .later }
def AtomicTwoUptoCardSaid : Prop := Claim7.holds Tryd.pinned (.plain (OpenSpec.upto atomicTwoSpec)) atomicTwoUptoCard

/-- THE SECOND FORM's CARD OF 'triglyphlaw04.AtomicAgrees'. -/
def atomicAgreesUptoCard : Claim7 := { stood := { row := atomicAgreesUptoRow, standIns := [], harness := (true, "fd5b97cc654f9f786890f95d444c648f32b206236c6fe8f93d88bb81a2ff0a8b"), looks := false }, kinds := [], alts := [], laidByText := true, laidKinds := [.data], laidTests := true, laidLooks := .later }
def AtomicAgreesUptoCardSaid : Prop := Claim7.holds Tryd.pinned (.plain (OpenSpec.upto atomicAgreesSpec)) atomicAgreesUptoCard

/-- THE SECOND FORM's CARD OF 'triglyphlaw04.AtomicTurned'. -/
def atomicTurnedUptoCard : Claim7 := { stood := { row := atomicTurnedUptoRow, standIns := [], harness := (true, "fd5b97cc654f9f786890f95d444c648f32b206236c6fe8f93d88bb81a2ff0a8b"), looks := false }, kinds := [], alts := [], laidByText := true, laidKinds := [.data], laidTests := true, laidLooks := .later }
def AtomicTurnedUptoCardSaid : Prop := Claim7.holds Tryd.pinned (.plain (OpenSpec.upto atomicTurnedSpec)) atomicTurnedUptoCard

/-- THE SECOND FORM's CARD OF 'triglyphlaw04.AtomicAtoms'. -/
def atomicAtomsUptoCard : Claim7 := { stood := { row := atomicAtomsUptoRow, standIns := [], harness := (true, "fd5b97cc654f9f786890f95d444c648f32b206236c6fe8f93d88bb81a2ff0a8b"), looks := false }, kinds := [], alts := [], laidByText := true, laidKinds := [.data], laidTests := true, laidLooks := .later }
def AtomicAtomsUptoCardSaid : Prop := Claim7.holds Tryd.pinned (.plain (OpenSpec.upto atomicAtomsSpec)) atomicAtomsUptoCard
end Rows
end Go.Proofs.YtkigfmfegldhcaaDoor
