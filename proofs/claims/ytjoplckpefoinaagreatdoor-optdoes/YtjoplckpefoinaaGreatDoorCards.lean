/-
  DERIVED. GIVEN WITH THE SEED: THE CARDS: each row of YtjoplckpefoinaaGreatDoorRows.lean that lists a variable, with what it lists TIED to the program's text (the seventh form; the later family's looks); each row that meets fmt, with fmt's text TOLD by the authors' own Lean function (tested against real Go, not proved from fmt's source: count such statements apart). THE CARD IS WHAT COUNTS. Prove the row's statement (the work); the ties are given (YtjoplckpefoinaaGreatDoorTie.lean); close each card by the builder's one call (the guide's Derived/Test/ToyasCard.lean, 'card_holds'). Laid BY PROGRAM, IN A SANDBOX (cutbox-door.mjs). By AI agents, Wed Nov 11 2026. No macro, syntax, notation, axiom, sorry.
-/
import Derived.Test.YtjoplckpefoinaaGreatDoorRows
import GoSem.ClaimSeven
namespace Go.Proofs.YtjoplckpefoinaaGreatDoor
namespace Rows

/-- THE TIED CARD OF 'usancelaw16.OptDoes'. -/
def optDoesCard : Claim7 := { stood := { row := optDoesRow, standIns := [], harness := (true, "6bfecacdd8e8b7846f03129a723c2216f6f4f2054acb3233c9eef972ee82aad5"), looks := false }, kinds := [], alts := [], laidByText := true, laidKinds := [.data], laidTests := true, laidLooks := .later }
def OptDoesCardSaid : Prop := Claim7.holds Tryz.pinned (.plain (OpenSpec.ofChange optDoesSpec)) optDoesCard

/-- THE SECOND FORM's CARD OF 'usancelaw16.OptDoes'. -/
def optDoesUptoCard : Claim7 := { stood := { row := optDoesUptoRow, standIns := [], harness := (true, "6bfecacdd8e8b7846f03129a723c2216f6f4f2054acb3233c9eef972ee82aad5"), looks := false }, kinds := [], alts := [], laidByText := true, laidKinds := [.data], laidTests := true, laidLooks := .later }
def OptDoesUptoCardSaid : Prop := Claim7.holds Tryz.pinned (.plain (OpenSpec.upto optDoesSpec)) optDoesUptoCard
end Rows
end Go.Proofs.YtjoplckpefoinaaGreatDoor
