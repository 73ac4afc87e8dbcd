/- the text YFrame -/
import Derived.Test.YtommhgmlblecnaaGreatDoorRows
import Derived.Test.YtommhgmlblecnaaGreatDoorYGd
import Derived.ProofKit
import Derived.LaidMore
import Derived.OpenShut
import Derived.ShutString
import Derived.ChangeMaps5
import Derived.Stop.Joined
import Derived.Stop.LaidErr
import Derived.Lib.LaidTab
import Derived.Deep.DeepHandedRow
namespace Go.Proofs.YtommhgmlblecnaaGreatDoor
open Go Go.ChangeShapes Go.WideShapes Go.ChangeAt Go.WideMaps Go.WideElems Go.RowKit Go.ChangeMaps

theorem own : ownKnob Tryz.prog.godebug = none := by kernel_rfl

/-- The rows' list of tables. -/
def laid1 : List (String × DataW Unit) := [("usance/date.monthDays", Rows.laid_usance_date_monthDays)]
theorem laid_met (os : Os) (args : Array Value) : laidMetH Tryz.prog laid1 ((World.doorLaid Tryz.prog 24 os).forCall (fun _ _ => 0) ⟨#[], args, []⟩).memory :=
  laidMetH_of_parts3 (fuel := 8) (laidMet_of_run' 8 (by kernel_rfl) (by kernel_rfl)) (by kernel_rfl) (by kernel_rfl)
def monthTab : List Int := [31, 28, 31, 30, 31, 30, 31, 31, 30, 31, 30, 31]
theorem month_datum : (Rows.laid_usance_date_monthDays : DataW Unit) = Lib.tabData .i64 monthTab := by kernel_rfl
theorem tab_of_laid {W : World} (h : laidMetH Tryz.prog laid1 W) : Tab W := by
  rw [MakeChecks.laidMetH_plain _ _ _ (by kernel_rfl)] at h
  unfold laid1 at h
  rw [month_datum] at h
  have ht := Lib.tabIs_of_head (g := 1) (t := 167) (e := 3) (n := 12) (by kernel_rfl) (by kernel_rfl) Tryz.underlying167 Tryz.underlying3 (by kernel_rfl) (by kernel_rfl) h
  intro k hk
  have hc := Lib.TabIs.cell ht (g := 1) (by kernel_rfl) k hk
  rw [hc]
  match k, hk with
  | 0, _ | 1, _ | 2, _ | 3, _ | 4, _ | 5, _ | 6, _ | 7, _ | 8, _ | 9, _ | 10, _ | 11, _ => rfl
end Go.Proofs.YtommhgmlblecnaaGreatDoor
