/-
  DERIVED. GIVEN WITH THE SEED: THE CARDS: each row of YtekgfdbeinacjaaDoorRows.lean that lists a variable, with what it lists TIED to the program's text (the seventh form; the later family's looks); each row that meets fmt, with fmt's text TOLD by the authors' own Lean function (tested against real Go, not proved from fmt's source: count such statements apart). THE CARD IS WHAT COUNTS. Prove the row's statement (the work); the ties are given (YtekgfdbeinacjaaDoorTie.lean); close each card by the builder's one call (the guide's Derived/Test/ToyasCard.lean, 'card_holds'). Laid BY PROGRAM, IN A SANDBOX (cutbox-door.mjs). By AI agents, Wed Nov 11 2026. No macro, syntax, notation, axiom, sorry.
-/
import Derived.Test.YtekgfdbeinacjaaDoorRows
import GoSem.ClaimSeven
namespace Go.Proofs.YtekgfdbeinacjaaDoor
namespace Rows

/-- THE TIED CARD OF 'usancelaw16.OptTwice'. -/
def optTwiceCard : Claim7 := { stood := { row := optTwiceRow, standIns := [], harness := (true, "7fe1d01a21bf638554db3453054b709f8233b1d624c4557a8c95f11d559e409e"), looks := false }, kinds := [], alts := [], laidByText := true, laidKinds := [.data], laidTests := true, laidLooks := .later }
def OptTwiceCardSaid : Prop := Claim7.holds Tryd.pinned (.plain (OpenSpec.ofChange optTwiceSpec)) optTwiceCard

/-- THE TIED CARD OF 'usancelaw16.OptFolds'. -/
def optFoldsCard : Claim7 := { stood := { row := optFoldsRow, standIns := [], harness := (true, "7fe1d01a21bf638554db3453054b709f8233b1d624c4557a8c95f11d559e409e"), looks := false }, kinds := [], alts := [], laidByText := true, laidKinds := [.data], laidTests := true, laidLooks := .later }
def OptFoldsCardSaid : Prop := Claim7.holds Tryd.pinned (.plain (OpenSpec.ofChange optFoldsSpec)) optFoldsCard

/-- THE SECOND FORM's CARD OF 'usancelaw16.OptTwice'. -/
def optTwiceUptoCard : Claim7 := { stood := { row := optTwiceUptoRow, standIns := [], harness := (true, "7fe1d01a21bf638554db3453054b709f8233b1d624c4557a8c95f11d559e409e"), looks := false }, kinds := [], alts := [], laidByText := true, laidKinds := [.data], laidTests := true, laidLooks := .later }
def OptTwiceUptoCardSaid : Prop := Claim7.holds Tryd.pinned (.plain (OpenSpec.upto optTwiceSpec)) optTwiceUptoCard

/-- THE SECOND FORM's CARD OF 'usancelaw16.OptFolds'. -/
def optFoldsUptoCard : Claim7 := { stood := { row := optFoldsUptoRow, standIns := [], harness := (true, "7fe1d01a21bf638554db3453054b709f8233b1d624c4557a8c95f11d559e409e"), looks := false }, kinds := [], alts := [], laidByText := true, laidKinds := [.data], laidTests := true, laidLooks := .later }
def OptFoldsUptoCardSaid : Prop := Claim7.holds Tryd.pinned (.plain (OpenSpec.upto optFoldsSpec)) optFoldsUptoCard
end Rows
end Go.Proofs.YtekgfdbeinacjaaDoor
