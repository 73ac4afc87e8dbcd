/-
  DERIVED. GIVEN WITH THE SEED: THE CARDS: each row of YtmdpccjhjhkpgabGreatDoorRows.lean that lists a variable, with what it lists TIED to the program's text (the seventh form; the later family's looks); each row that meets fmt, with fmt's text TOLD by the authors' own Lean function (tested against real Go, not proved from fmt's source: count such statements apart). THE CARD IS WHAT COUNTS. Prove the row's statement (the work); the ties are given (YtmdpccjhjhkpgabGreatDoorTie.lean); close each card by the builder's one call (the guide's Derived/Test/ToyasCard.lean, 'card_holds'). Laid BY PROGRAM, IN A SANDBOX (cutbox-door.mjs). By AI agents, Wed Nov 11 2026. No macro, syntax, notation, axiom, sorry.
-/
import Derived.Test.YtmdpccjhjhkpgabGreatDoorRows
import GoSem.ClaimSeven
namespace Go.Proofs.YtmdpccjhjhkpgabGreatDoor
namespace Rows

/-- THE TIED CARD OF 'usancelaw09.ShowSames'. -/
def showSamesCard : Claim7 := { stood := { row := showSamesRow, standIns := [], harness := (true, "51e3b9373af72c65215261cb352f6fb05dcea8b2e9fea14615f0267142208fa9"), looks := true }, kinds := [], alts := [], laidByText := true, laidKinds := [.data, .data, .data, .data], laidTests := true, laidLooks := .later }
def ShowSamesCardSaid : Prop := Claim7.holds Tryz.pinned (.plain (OpenSpec.ofChange showSamesSpec)) showSamesCard

/-- THE SECOND FORM's CARD OF 'usancelaw09.ShowSames'. -/
def showSamesUptoCard : Claim7 := { stood := { row := showSamesUptoRow, standIns := [], harness := (true, "51e3b9373af72c65215261cb352f6fb05dcea8b2e9fea14615f0267142208fa9"), looks := true }, kinds := [], alts := [], laidByText := true, laidKinds := [.data, .data, .data, .data], laidTests := true, laidLooks := .later }
def ShowSamesUptoCardSaid : Prop := Claim7.holds Tryz.pinned (.plain (OpenSpec.upto showSamesSpec)) showSamesUptoCard
end Rows
end Go.Proofs.YtmdpccjhjhkpgabGreatDoor
