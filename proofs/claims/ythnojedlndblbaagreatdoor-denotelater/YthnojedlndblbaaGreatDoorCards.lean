/-
  DERIVED. GIVEN WITH THE SEED: THE CARDS: each row of YthnojedlndblbaaGreatDoorRows.lean that lists a variable, with what it lists TIED to the program's text (the seventh form; the later family's looks); each row that meets fmt, with fmt's text TOLD by the authors' own Lean function (tested against real Go, not proved from fmt's source: count such statements apart). THE CARD IS WHAT COUNTS. Prove the row's statement (the work); the ties are given (YthnojedlndblbaaGreatDoorTie.lean); close each card by the builder's one call (the guide's Derived/Test/ToyasCard.lean, 'card_holds'). Laid BY PROGRAM, IN A SANDBOX (cutbox-door.mjs). By AI agents, Wed Nov 11 2026. No macro, syntax, notation, axiom, sorry.
-/
import Derived.Test.YthnojedlndblbaaGreatDoorRows
import GoSem.ClaimSeven
namespace Go.Proofs.YthnojedlndblbaaGreatDoor
namespace Rows

/-- THE TIED CARD OF 'usancelaw15.DenoteValues'. -/
def denoteValuesCard : Claim7 := { stood := { row := denoteValuesRow, standIns := [], harness := (true, "f2e09415283972995123fd625a0e9b917c82d0a2823993aad650d9546b213943"), looks := false }, kinds := [], alts := [], laidByText := true, laidKinds := [.data], laidTests := true, laidLooks := .later }
def DenoteValuesCardSaid : Prop := Claim7.holds Tryz.pinned (.plain (OpenSpec.ofChange denoteValuesSpec)) denoteValuesCard

/-- THE TIED CARD OF 'usancelaw15.DenoteBegins'. -/
def denoteBeginsCard : Claim7 := { stood := { row := denoteBeginsRow, standIns := [], harness := (true, "f2e09415283972995123fd625a0e9b917c82d0a2823993aad650d9546b213943"), looks := false }, kinds := [], alts := [], laidByText := true, laidKinds := [.data], laidTests := true, laidLooks := .later }
def DenoteBeginsCardSaid : Prop := Claim7.holds Tryz.pinned (.plain (OpenSpec.ofChange denoteBeginsSpec)) denoteBeginsCard

/-- THE TIED CARD OF 'usancelaw15.DenoteSteps'. -/
def denoteStepsCard : Claim7 := { stood := { row := denoteStepsRow, standIns := [], harness := (true, "f2e09415283972995123fd625a0e9b917c82d0a2823993aad650d9546b213943"), looks := false }, kinds := [], alts := [], laidByText := true, laidKinds := [.data], laidTests := true, laidLooks := .later }
def DenoteStepsCardSaid : Prop := Claim7.holds Tryz.pinned (.plain (OpenSpec.ofChange denoteStepsSpec)) denoteStepsCard

/-- THE TIED CARD OF 'usancelaw15.DenoteRuns'. -/
def denoteRunsCard : Claim7 := { stood := { row := denoteRunsRow, standIns := [], harness := (true, "f2e09415283972995123fd625a0e9b917c82d0a2823993aad650d9546b213943"), looks := false }, kinds := [], alts := [], laidByText := true, laidKinds := [.data], laidTests := true, laidLooks := .later }
def DenoteRunsCardSaid : Prop := Claim7.holds Tryz.pinned (.plain (OpenSpec.ofChange denoteRunsSpec)) denoteRunsCard

/-- THE TIED CARD OF 'usancelaw15.DenoteAgain'. -/
def denoteAgainCard : Claim7 := { stood := { row := denoteAgainRow, standIns := [], harness := (true, "f2e09415283972995123fd625a0e9b917c82d0a2823993aad650d9546b213943"), looks := false }, kinds := [], alts := [], laidByText := true, laidKinds := [.data], laidTests := true, laidLooks := .later }
def DenoteAgainCardSaid : Prop := Claim7.holds Tryz.pinned (.plain (OpenSpec.ofChange denoteAgainSpec)) denoteAgainCard

/-- THE TIED CARD OF 'usancelaw15.DenoteLater'. -/
def denoteLaterCard : Claim7 := { stood := { row := denoteLaterRow, standIns := [], harness := (true, "f2e09415283972995123fd625a0e9b917c82d0a2823993aad650d9546b213943"), looks := false }, kinds := [], alts := [], laidByText := true, laidKinds := [.data], laidTests := true, laidLooks := .later }
def DenoteLaterCardSaid : Prop := Claim7.holds Tryz.pinned (.plain (OpenSpec.ofChange denoteLaterSpec)) denoteLaterCard

/-- THE SECOND FORM's CARD OF 'usancelaw15.DenoteValues'. -/
def denoteValuesUptoCard : Claim7 := { stood := { row := denoteValuesUptoRow, standIns := [], harness := (true, "f2e09415283972995123fd625a0e9b917c82d0a2823993aad650d9546b213943"), looks := false }, kinds := [], alts := [], laidByText := true, laidKinds := [.data], laidTests := true, laidLooks := .later }
def DenoteValuesUptoCardSaid : Prop := Claim7.holds Tryz.pinned (.plain (OpenSpec.upto denoteValuesSpec)) denoteValuesUptoCard

/-- THE SECOND FORM's CARD OF 'usancelaw15.DenoteBegins'. -/
def denoteBeginsUptoCard : Claim7 := { stood := { row := denoteBeginsUptoRow, standIns := [], harness := (true, "f2e09415283972995123fd625a0e9b917c82d0a2823993aad650d9546b213943"), looks := false }, kinds := [], alts := [], laidByText := true, laidKinds := [.data], laidTests := true, laidLooks := .later }
def DenoteBeginsUptoCardSaid : Prop := Claim7.holds Tryz.pinned (.plain (OpenSpec.upto denoteBeginsSpec)) denoteBeginsUptoCard

/-- THE SECOND FORM's CARD OF 'usancelaw15.DenoteSteps'. -/
def denoteStepsUptoCard : Claim7 := { stood := { row := denoteStepsUptoRow, standIns := [], harness := (true, "f2e09415283972995123fd625a0e9b917c82d0a2823993aad650d9546b213943"), looks := false }, kinds := [], alts := [], laidByText := true, laidKinds := [.data], laidTests := true, laidLooks := .later }
def DenoteStepsUptoCardSaid : Prop := Claim7.holds Tryz.pinned (.plain (OpenSpec.upto denoteStepsSpec)) denoteStepsUptoCard

/-- THE SECOND FORM's CARD OF 'usancelaw15.DenoteRuns'. -/
def denoteRunsUptoCard : Claim7 := { stood := { row := denoteRunsUptoRow, standIns := [], harness := (true, "f2e09415283972995123fd625a0e9b917c82d0a2823993aad650d9546b213943"), looks := false }, kinds := [], alts := [], laidByText := true, laidKinds := [.data], laidTests := true, laidLooks := .later }
def DenoteRunsUptoCardSaid : Prop := Claim7.holds Tryz.pinned (.plain (OpenSpec.upto denoteRunsSpec)) denoteRunsUptoCard

/-- THE SECOND FORM's CARD OF 'usancelaw15.DenoteAgain'. -/
def denoteAgainUptoCard : Claim7 := { stood := { row := denoteAgainUptoRow, standIns := [], harness := (true, "f2e09415283972995123fd625a0e9b917c82d0a2823993aad650d9546b213943"), looks := false }, kinds := [], alts := [], laidByText := true, laidKinds := [.data], laidTests := true, laidLooks := .later }
def DenoteAgainUptoCardSaid : Prop := Claim7.holds Tryz.pinned (.plain (OpenSpec.upto denoteAgainSpec)) denoteAgainUptoCard

/-- THE SECOND FORM's CARD OF 'usancelaw15.DenoteLater'. -/
def denoteLaterUptoCard : Claim7 := { stood := { row := denoteLaterUptoRow, standIns := [], harness := (true, "f2e09415283972995123fd625a0e9b917c82d0a2823993aad650d9546b213943"), looks := false }, kinds := [], alts := [], laidByText := true, laidKinds := [.data], laidTests := true, laidLooks := .later }
def DenoteLaterUptoCardSaid : Prop := Claim7.holds Tryz.pinned (.plain (OpenSpec.upto denoteLaterSpec)) denoteLaterUptoCard
end Rows
end Go.Proofs.YthnojedlndblbaaGreatDoor
