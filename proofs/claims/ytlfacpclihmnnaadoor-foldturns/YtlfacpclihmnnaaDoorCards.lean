/-
  DERIVED. GIVEN WITH THE SEED: THE CARDS: each row of YtlfacpclihmnnaaDoorRows.lean that lists a variable, with what it lists TIED to the program's text (the seventh form; the later family's looks); each row that meets fmt, with fmt's text TOLD by the authors' own Lean function (tested against real Go, not proved from fmt's source: count such statements apart). THE CARD IS WHAT COUNTS. Prove the row's statement (the work); the ties are given (YtlfacpclihmnnaaDoorTie.lean); close each card by the builder's one call (the guide's Derived/Test/ToyasCard.lean, 'card_holds'). Laid BY PROGRAM, IN A SANDBOX (cutbox-door.mjs). By AI agents, Wed Nov 11 2026. No macro, syntax, notation, axiom, sorry.
-/
import Derived.Test.YtlfacpclihmnnaaDoorRows
import GoSem.ClaimSeven
namespace Go.Proofs.YtlfacpclihmnnaaDoor
namespace Rows

/-- THE TIED CARD OF 'triglyphlaw08.FoldReds'. -/
def foldRedsCard : Claim7 := { stood := { row := foldRedsRow, standIns := [], harness := (true, "cfe85eca33cf3c355b05fc89aaef1f0e4be725ab88df0a22d50b736b81e61fe1"), looks := false }, kinds := [], alts := [], laidByText := true, laidKinds := [.data], laidTests := true, laidLooks := .later }
def FoldRedsCardSaid : Prop := Claim7.holds Tryd.pinned (.plain (OpenSpec.ofChange foldRedsSpec)) foldRedsCard

/-- THE TIED CARD OF 'triglyphlaw08.FoldScans'. -/
def foldScansCard : Claim7 := { stood := { row := foldScansRow, standIns := [], harness := (true, "cfe85eca33cf3c355b05fc89aaef1f0e4be725ab88df0a22d50b736b81e61fe1"), looks := false }, kinds := [], alts := [], laidByText := true, laidKinds := [.data], laidTests := true, laidLooks := .later }
def FoldScansCardSaid : Prop := Claim7.holds Tryd.pinned (.plain (OpenSpec.ofChange foldScansSpec)) foldScansCard

/-- THE TIED CARD OF 'triglyphlaw08.FoldOuters'. -/
def foldOutersCard : Claim7 := { stood := { row := foldOutersRow, standIns := [], harness := (true, "cfe85eca33cf3c355b05fc89aaef1f0e4be725ab88df0a22d50b736b81e61fe1"), looks := false }, kinds := [], alts := [], laidByText := true, laidKinds := [.data], laidTests := true, laidLooks := .later }
def FoldOutersCardSaid : Prop := Claim7.holds Tryd.pinned (.plain (OpenSpec.ofChange foldOutersSpec)) foldOutersCard

/-- THE TIED CARD OF 'triglyphlaw08.FoldEnds'. -/
def foldEndsCard : Claim7 := { stood := { row := foldEndsRow, standIns := [], harness := (true, "cfe85eca33cf3c355b05fc89aaef1f0e4be725ab88df0a22d50b736b81e61fe1"), looks := false }, kinds := [], alts := [], laidByText := true, laidKinds := [.data], laidTests := true, laidLooks := .later }
def FoldEndsCardSaid : Prop := Claim7.holds Tryd.pinned (.plain (OpenSpec.ofChange foldEndsSpec)) foldEndsCard

/-- THE TIED CARD OF 'triglyphlaw08.FoldTurns'. -/
def foldTurnsCard : Claim7 := { stood := { row := foldTurnsRow, standIns := [], harness := (true, "cfe85eca33cf3c355b05fc89aaef1f0e4be725ab88df0a22d50b736b81e61fe1"), looks := false }, kinds := [], alts := [], laidByText := true, laidKinds := [.data], laidTests := true, laidLooks := .later }
def FoldTurnsCardSaid : Prop := Claim7.holds Tryd.pinned (.plain (OpenSpec.ofChange foldTurnsSpec)) foldTurnsCard

/-- THE TIED CARD OF 'triglyphlaw08.FoldCells'. -/
def foldCellsCard : Claim7 := { stood := { row := foldCellsRow, standIns := [], harness := (true, "cfe85eca33cf3c355b05fc89aaef1f0e4be725ab88df0a22d50b736b81e61fe1"), looks := false }, kinds := [], alts := [], laidByText := true, laidKinds := [.data], laidTests := true, laidLooks := .later }
def FoldCellsCardSaid : Prop := Claim7.holds Tryd.pinned (.plain (OpenSpec.ofChange foldCellsSpec)) foldCellsCard

/-- THE SECOND FORM's CARD OF 'triglyphlaw08.FoldReds'. -/
def foldRedsUptoCard : Claim7 := { stood := { row := foldRedsUptoRow, standIns := [], harness := (true, "cfe85eca33cf3c355b05fc89aaef1f0e4be725ab88df0a22d50b736b81e61fe1"), looks := false }, kinds := [], alts := [], laidByText := true, laidKinds := [.data], laidTests := true, laidLooks := .later }
def FoldRedsUptoCardSaid : Prop := Claim7.holds Tryd.pinned (.plain (OpenSpec.upto foldRedsSpec)) foldRedsUptoCard

/-- THE SECOND FORM's CARD OF 'triglyphlaw08.FoldScans'. -/
def foldScansUptoCard : Claim7 := { stood := { row := foldScansUptoRow, standIns := [], harness := (true, "cfe85eca33cf3c355b05fc89aaef1f0e4be725ab88df0a22d50b736b81e61fe1"), looks := false }, kinds := [], alts := [], laidByText := true, laidKinds := [.data], laidTests := true, laidLooks := .later }
def FoldScansUptoCardSaid : Prop := Claim7.holds Tryd.pinned (.plain (OpenSpec.upto foldScansSpec)) foldScansUptoCard

/-- THE SECOND FORM's CARD OF 'triglyphlaw08.FoldOuters'. -/
def foldOutersUptoCard : Claim7 := { stood := { row := foldOutersUptoRow, standIns := [], harness := (true, "cfe85eca33cf3c355b05fc89aaef1f0e4be725ab88df0a22d50b736b81e61fe1"), looks := false }, kinds := [], alts := [], laidByText := true, laidKinds := [.data], laidTests := true, laidLooks := .later }
def FoldOutersUptoCardSaid : Prop := Claim7.holds Tryd.pinned (.plain (OpenSpec.upto foldOutersSpec)) foldOutersUptoCard

/-- THE SECOND FORM's CARD OF 'triglyphlaw08.FoldEnds'. -/
def foldEndsUptoCard : Claim7 := { stood := { row := foldEndsUptoRow, standIns := [], harness := (true, "cfe85eca33cf3c355b05fc89aaef1f0e4be725ab88df0a22d50b736b81e61fe1"), looks := false }, kinds := [], alts := [], laidByText := true, laidKinds := [.data], laidTests := true, laidLooks := .later }
def FoldEndsUptoCardSaid : Prop := Claim7.holds Tryd.pinned (.plain (OpenSpec.upto foldEndsSpec)) foldEndsUptoCard

/-- THE SECOND FORM's CARD OF 'triglyphlaw08.FoldTurns'. -/
def foldTurnsUptoCard : Claim7 := { stood := { row := foldTurnsUptoRow, standIns := [], harness := (true, "cfe85eca33cf3c355b05fc89aaef1f0e4be725ab88df0a22d50b736b81e61fe1"), looks := false }, kinds := [], alts := [], laidByText := true, laidKinds := [.data], laidTests := true, laidLooks := .later }
def FoldTurnsUptoCardSaid : Prop := Claim7.holds Tryd.pinned (.plain (OpenSpec.upto foldTurnsSpec)) foldTurnsUptoCard

/-- THE SECOND FORM's CARD OF 'triglyphlaw08.FoldCells'. -/
def foldCellsUptoCard : Claim7 := { stood := { row := foldCellsUptoRow, standIns := [], harness := (true, "cfe85eca33cf3c355b05fc89aaef1f0e4be725ab88df0a22d50b736b81e61fe1"), looks := false }, kinds := [], alts := [], laidByText := true, laidKinds := [.data], laidTests := true, laidLooks := .later }
def FoldCellsUptoCardSaid : Prop := Claim7.holds Tryd.pinned (.plain (OpenSpec.upto foldCellsSpec)) foldCellsUptoCard
end Rows
end Go.Proofs.YtlfacpclihmnnaaDoor
