/-
  DERIVED. GIVEN WITH THE SEED: THE CARDS: each row of YthnojedlndblbabGreatDoorRows.lean that lists a variable, with what it lists TIED to the program's text (the seventh form; the later family's looks); each row that meets fmt, with fmt's text TOLD by the authors' own Lean function (tested against real Go, not proved from fmt's source: count such statements apart). THE CARD IS WHAT COUNTS. Prove the row's statement (the work); the ties are given (YthnojedlndblbabGreatDoorTie.lean); close each card by the builder's one call (the guide's Derived/Test/ToyasCard.lean, 'card_holds'). Laid BY PROGRAM, IN A SANDBOX (cutbox-door.mjs). By AI agents, Wed Nov 11 2026. No macro, syntax, notation, axiom, sorry.
-/
import Derived.Test.YthnojedlndblbabGreatDoorRows
import GoSem.ClaimSeven
namespace Go.Proofs.YthnojedlndblbabGreatDoor
namespace Rows

/-- THE TIED CARD OF 'usancelaw15.DenoteParts'. -/
def denotePartsCard : Claim7 := { stood := { row := denotePartsRow, standIns := [], harness := (true, "ba908ac990ce2d9dfd0b1cc75e3c73bec2fc51b6c97828b4693f27010223a064"), looks := false }, kinds := [], alts := [], laidByText := true, laidKinds := [.data], laidTests := true, laidLooks := .later }
def DenotePartsCardSaid : Prop := Claim7.holds Tryz.pinned (.plain (OpenSpec.ofChange denotePartsSpec)) denotePartsCard

/-- THE TIED CARD OF 'usancelaw15.DenoteEnds'. -/
def denoteEndsCard : Claim7 := { stood := { row := denoteEndsRow, standIns := [], harness := (true, "ba908ac990ce2d9dfd0b1cc75e3c73bec2fc51b6c97828b4693f27010223a064"), looks := false }, kinds := [], alts := [], laidByText := true, laidKinds := [.data], laidTests := true, laidLooks := .later }
def DenoteEndsCardSaid : Prop := Claim7.holds Tryz.pinned (.plain (OpenSpec.ofChange denoteEndsSpec)) denoteEndsCard

/-- THE TIED CARD OF 'usancelaw15.DenoteTimes'. -/
def denoteTimesCard : Claim7 := { stood := { row := denoteTimesRow, standIns := [], harness := (true, "ba908ac990ce2d9dfd0b1cc75e3c73bec2fc51b6c97828b4693f27010223a064"), looks := false }, kinds := [], alts := [], laidByText := true, laidKinds := [.data], laidTests := true, laidLooks := .later }
def DenoteTimesCardSaid : Prop := Claim7.holds Tryz.pinned (.plain (OpenSpec.ofChange denoteTimesSpec)) denoteTimesCard

/-- THE SECOND FORM's CARD OF 'usancelaw15.DenoteParts'. -/
def denotePartsUptoCard : Claim7 := { stood := { row := denotePartsUptoRow, standIns := [], harness := (true, "ba908ac990ce2d9dfd0b1cc75e3c73bec2fc51b6c97828b4693f27010223a064"), looks := false }, kinds := [], alts := [], laidByText := true, laidKinds := [.data], laidTests := true, laidLooks := .later }
def DenotePartsUptoCardSaid : Prop := Claim7.holds Tryz.pinned (.plain (OpenSpec.upto denotePartsSpec)) denotePartsUptoCard

/-- THE SECOND FORM's CARD OF 'usancelaw15.DenoteEnds'. -/
def denoteEndsUptoCard : Claim7 := { stood := { row := denoteEndsUptoRow, standIns := [], harness := (true, "ba908ac990ce2d9dfd0b1cc75e3c73bec2fc51b6c97828b4693f27010223a064"), looks := false }, kinds := [], alts := [], laidByText := true, laidKinds := [.data], laidTests := true, laidLooks := .later }
def DenoteEndsUptoCardSaid : Prop := Claim7.holds Tryz.pinned (.plain (OpenSpec.upto denoteEndsSpec)) denoteEndsUptoCard

/-- THE SECOND FORM's CARD OF 'usancelaw15.DenoteTimes'. -/
def denoteTimesUptoCard : Claim7 := { stood := { row := denoteTimesUptoRow, standIns := [], harness := (true, "ba908ac990ce2d9dfd0b1cc75e3c73bec2fc51b6c97828b4693f27010223a064"), looks := false }, kinds := [], alts := [], laidByText := true, laidKinds := [.data], laidTests := true, laidLooks := .later }
def DenoteTimesUptoCardSaid : Prop := Claim7.holds Tryz.pinned (.plain (OpenSpec.upto denoteTimesSpec)) denoteTimesUptoCard
end Rows
end Go.Proofs.YthnojedlndblbabGreatDoor
