/-
  DERIVED. GIVEN WITH THE SEED: THE CARDS: each row of YtddbiiejilcbbaaGreatDoorRows.lean that lists a variable, with what it lists TIED to the program's text (the seventh form; the later family's looks); each row that meets fmt, with fmt's text TOLD by the authors' own Lean function (tested against real Go, not proved from fmt's source: count such statements apart). THE CARD IS WHAT COUNTS. Prove the row's statement (the work); the ties are given (YtddbiiejilcbbaaGreatDoorTie.lean); close each card by the builder's one call (the guide's Derived/Test/ToyasCard.lean, 'card_holds'). Laid BY PROGRAM, IN A SANDBOX (cutbox-door.mjs). By AI agents, Wed Nov 11 2026. No macro, syntax, notation, axiom, sorry.
-/
import Derived.Test.YtddbiiejilcbbaaGreatDoorRows
import GoSem.ClaimSeven
namespace Go.Proofs.YtddbiiejilcbbaaGreatDoor
namespace Rows

/-- THE TIED CARD OF 'usancelaw17.GenBytes'. -/
def genBytesCard : Claim7 := { stood := { row := genBytesRow, standIns := [], harness := (true, "4461e4d1fd4a2af66eba0c92d7088c97366dc1919a0128b2619c01efa05affba"), looks := false }, kinds := [], alts := [], laidByText := true, laidKinds := [.data, .data, .data], laidTests := true, laidLooks := .later }
def GenBytesCardSaid : Prop := Claim7.holds Tryz.pinned (.plain (OpenSpec.ofChange genBytesSpec)) genBytesCard

/-- THE TIED CARD OF 'usancelaw17.GenBack'. -/
def genBackCard : Claim7 := { stood := { row := genBackRow, standIns := [], harness := (true, "4461e4d1fd4a2af66eba0c92d7088c97366dc1919a0128b2619c01efa05affba"), looks := false }, kinds := [], alts := [], laidByText := true, laidKinds := [.data, .data, .data], laidTests := true, laidLooks := .later }
def GenBackCardSaid : Prop := Claim7.holds Tryz.pinned (.plain (OpenSpec.ofChange genBackSpec)) genBackCard

/-- THE TIED CARD OF 'usancelaw18.VmBegins'. -/
def vmBeginsCard : Claim7 := { stood := { row := vmBeginsRow, standIns := [], harness := (true, "4461e4d1fd4a2af66eba0c92d7088c97366dc1919a0128b2619c01efa05affba"), looks := false }, kinds := [], alts := [], laidByText := true, laidKinds := [.data, .data], laidTests := true, laidLooks := .later }
def VmBeginsCardSaid : Prop := Claim7.holds Tryz.pinned (.plain (OpenSpec.ofChange vmBeginsSpec)) vmBeginsCard

/-- THE TIED CARD OF 'usancelaw18.VmSteps'. -/
def vmStepsCard : Claim7 := { stood := { row := vmStepsRow, standIns := [], harness := (true, "4461e4d1fd4a2af66eba0c92d7088c97366dc1919a0128b2619c01efa05affba"), looks := false }, kinds := [], alts := [], laidByText := true, laidKinds := [.data, .data], laidTests := true, laidLooks := .later }
def VmStepsCardSaid : Prop := Claim7.holds Tryz.pinned (.plain (OpenSpec.ofChange vmStepsSpec)) vmStepsCard

/-- THE SECOND FORM's CARD OF 'usancelaw17.GenBytes'. -/
def genBytesUptoCard : Claim7 := { stood := { row := genBytesUptoRow, standIns := [], harness := (true, "4461e4d1fd4a2af66eba0c92d7088c97366dc1919a0128b2619c01efa05affba"), looks := false }, kinds := [], alts := [], laidByText := true, laidKinds := [.data, .data, .data], laidTests := true, laidLooks := .later }
def GenBytesUptoCardSaid : Prop := Claim7.holds Tryz.pinned (.plain (OpenSpec.upto genBytesSpec)) genBytesUptoCard

/-- THE SECOND FORM's CARD OF 'usancelaw17.GenBack'. -/
def genBackUptoCard : Claim7 := { stood := { row := genBackUptoRow, standIns := [], harness := (true, "4461e4d1fd4a2af66eba0c92d7088c97366dc1919a0128b2619c01efa05affba"), looks := false }, kinds := [], alts := [], laidByText := true, laidKinds := [.data, .data, .data], laidTests := true, laidLooks := .later }
def GenBackUptoCardSaid : Prop := Claim7.holds Tryz.pinned (.plain (OpenSpec.upto genBackSpec)) genBackUptoCard

/-- THE SECOND FORM's CARD OF 'usancelaw18.VmBegins'. -/
def vmBeginsUptoCard : Claim7 := { stood := { row := vmBeginsUptoRow, standIns := [], harness := (true, "4461e4d1fd4a2af66eba0c92d7088c97366dc1919a0128b2619c01efa05affba"), looks := false }, kinds := [], alts := [], laidByText := true, laidKinds := [.data, .data], laidTests := true, laidLooks := .later }
def VmBeginsUptoCardSaid : Prop := Claim7.holds Tryz.pinned (.plain (OpenSpec.upto vmBeginsSpec)) vmBeginsUptoCard

/-- THE SECOND FORM's CARD OF 'usancelaw18.VmSteps'. -/
def vmStepsUptoCard : Claim7 := { stood := { row := vmStepsUptoRow, standIns := [], harness := (true, "4461e4d1fd4a2af66eba0c92d7088c97366dc1919a0128b2619c01efa05affba"), looks := false }, kinds := [], alts := [], laidByText := true, laidKinds := [.data, .data], laidTests := true, laidLooks := .later }
def VmStepsUptoCardSaid : Prop := Claim7.holds Tryz.pinned (.plain (OpenSpec.upto vmStepsSpec)) vmStepsUptoCard
end Rows
end Go.Proofs.YtddbiiejilcbbaaGreatDoor
