/-
  DERIVED. GIVEN WITH THE SEED: THE CARDS: each row of YtekgfdbeinacjaaGreatDoorRows.lean that lists a variable, with what it lists TIED to the program's text (the seventh form; the later family's looks); each row that meets fmt, with fmt's text TOLD by the authors' own Lean function (tested against real Go, not proved from fmt's source: count such statements apart). THE CARD IS WHAT COUNTS. Prove the row's statement (the work); the ties are given (YtekgfdbeinacjaaGreatDoorTie.lean); close each card by the builder's one call (the guide's Derived/Test/ToyasCard.lean, 'card_holds'). Laid BY PROGRAM, IN A SANDBOX (cutbox-door.mjs). By AI agents, Wed Nov 11 2026. No macro, syntax, notation, axiom, sorry.
-/
import Derived.Test.YtekgfdbeinacjaaGreatDoorRows
import GoSem.ClaimSeven
namespace Go.Proofs.YtekgfdbeinacjaaGreatDoor
namespace Rows

/-- THE TIED CARD OF 'usancelaw16.OptDoes'. -/
def optDoesCard : Claim7 := { stood := { row := optDoesRow, standIns := [], harness := (true, "4acdac16984e798f2f02976035066b07912104ca2eeecb82e712d1b7de15b60c"), looks := false }, kinds := [], alts := [], laidByText := true, laidKinds := [.data], laidTests := true, laidLooks := .later }
def OptDoesCardSaid : Prop := Claim7.holds Tryz.pinned (.plain (OpenSpec.ofChange optDoesSpec)) optDoesCard

/-- THE TIED CARD OF 'usancelaw16.OptMeans'. -/
def optMeansCard : Claim7 := { stood := { row := optMeansRow, standIns := [], harness := (true, "4acdac16984e798f2f02976035066b07912104ca2eeecb82e712d1b7de15b60c"), looks := false }, kinds := [], alts := [], laidByText := true, laidKinds := [.data], laidTests := true, laidLooks := .later }
def OptMeansCardSaid : Prop := Claim7.holds Tryz.pinned (.plain (OpenSpec.ofChange optMeansSpec)) optMeansCard

/-- THE TIED CARD OF 'usancelaw16.OptLess'. -/
def optLessCard : Claim7 := { stood := { row := optLessRow, standIns := [], harness := (true, "4acdac16984e798f2f02976035066b07912104ca2eeecb82e712d1b7de15b60c"), looks := false }, kinds := [], alts := [], laidByText := true, laidKinds := [.data], laidTests := true, laidLooks := .later }
def OptLessCardSaid : Prop := Claim7.holds Tryz.pinned (.plain (OpenSpec.ofChange optLessSpec)) optLessCard

/-- THE SECOND FORM's CARD OF 'usancelaw16.OptDoes'. -/
def optDoesUptoCard : Claim7 := { stood := { row := optDoesUptoRow, standIns := [], harness := (true, "4acdac16984e798f2f02976035066b07912104ca2eeecb82e712d1b7de15b60c"), looks := false }, kinds := [], alts := [], laidByText := true, laidKinds := [.data], laidTests := true, laidLooks := .later }
def OptDoesUptoCardSaid : Prop := Claim7.holds Tryz.pinned (.plain (OpenSpec.upto optDoesSpec)) optDoesUptoCard

/-- THE SECOND FORM's CARD OF 'usancelaw16.OptMeans'. -/
def optMeansUptoCard : Claim7 := { stood := { row := optMeansUptoRow, standIns := [], harness := (true, "4acdac16984e798f2f02976035066b07912104ca2eeecb82e712d1b7de15b60c"), looks := false }, kinds := [], alts := [], laidByText := true, laidKinds := [.data], laidTests := true, laidLooks := .later }
def OptMeansUptoCardSaid : Prop := Claim7.holds Tryz.pinned (.plain (OpenSpec.upto optMeansSpec)) optMeansUptoCard

/-- THE SECOND FORM's CARD OF 'usancelaw16.OptLess'. -/
def optLessUptoCard : Claim7 := { stood := { row := optLessUptoRow, standIns := [], harness := (true, "4acdac16984e798f2f02976035066b07912104ca2eeecb82e712d1b7de15b60c"), looks := false }, kinds := [], alts := [], laidByText := true, laidKinds := [.data], laidTests := true, laidLooks := .later }
def OptLessUptoCardSaid : Prop := Claim7.holds Tryz.pinned (.plain (OpenSpec.upto optLessSpec)) optLessUptoCard
end Rows
end Go.Proofs.YtekgfdbeinacjaaGreatDoor
