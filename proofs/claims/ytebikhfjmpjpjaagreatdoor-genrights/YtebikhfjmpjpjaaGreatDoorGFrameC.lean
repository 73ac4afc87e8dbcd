/- the text GFrame -/
import Derived.Test.YtebikhfjmpjpjaaGreatDoorAG3
import Derived.Test.DevTool
import Derived.Test.YtebikhfjmpjpjaaGreatDoorAG5
import Derived.Test.YtebikhfjmpjpjaaGreatDoorAG15
import Derived.Test.YtebikhfjmpjpjaaGreatDoorTie
import Derived.Lib.LaidTab
namespace Go.Proofs.YtebikhfjmpjpjaaGreatDoor
open Go Go.ChangeShapes Go.WideShapes Go.ChangeAt Go.WideMaps Go.WideElems Go.RowKit Go.ChangeMaps Go.Deep

/-- The rows' list of tables. -/
def laid1 : List (String × DataW Unit) := [("usance/date.monthDays", Rows.laid_usance_date_monthDays), ("usance/gen.reckonOps", Rows.laid_usance_gen_reckonOps), ("usance/gen.uses", Rows.laid_usance_gen_uses)]
theorem laid_met (os : Os) (args : Array Value) : laidMetH Tryz.prog laid1 ((World.doorLaid Tryz.prog 24 os).forCall (fun _ _ => 0) ⟨#[], args, []⟩).memory :=
  laidMetH_of_parts3 (fuel := 8) (laidMet_of_run' 8 (by kernel_chk) (by kernel_chk)) (by kernel_chk) (by kernel_chk)
def monthTab : List Int := [31, 28, 31, 30, 31, 30, 31, 31, 30, 31, 30, 31]
theorem month_datum : (Rows.laid_usance_date_monthDays : DataW Unit) = Lib.tabData .i64 monthTab := by kernel_chk
theorem uses_datum : (Rows.laid_usance_gen_uses : DataW Unit) = Lib.tabData .i64 usesT := by kernel_chk
theorem tab_of_laid {W : World} (h : laidMetH Tryz.prog laid1 W) : Tab W := by
  rw [MakeChecks.laidMetH_plain _ _ _ (by kernel_chk)] at h
  unfold laid1 at h
  rw [month_datum] at h
  have ht := Lib.tabIs_of_head (g := 1) (t := 208) (e := 3) (n := 12) (by kernel_chk) (by kernel_chk) Tryz.underlying208 Tryz.underlying3 (by kernel_chk) (by kernel_chk) h
  intro k hk
  have hc := Lib.TabIs.cell ht (g := 1) (by kernel_chk) k hk
  rw [hc]
  match k, hk with
  | 0, _ | 1, _ | 2, _ | 3, _ | 4, _ | 5, _ | 6, _ | 7, _ | 8, _ | 9, _ | 10, _ | 11, _ => rfl
theorem tabU_of_laid {W : World} (h : laidMetH Tryz.prog laid1 W) : TabU W := by
  rw [MakeChecks.laidMetH_plain _ _ _ (by kernel_chk)] at h
  have h3 := h.tail.tail
  rw [uses_datum] at h3
  have ht := Lib.tabIs_of_head (g := 0) (t := 133) (e := 3) (n := 31) (by kernel_chk) (by kernel_chk) Tryz.underlying133 Tryz.underlying3 (by kernel_chk) (by kernel_chk) h3
  exact fun k hk => Lib.TabIs.cell ht (g := 0) (by kernel_chk) k hk
end Go.Proofs.YtebikhfjmpjpjaaGreatDoor
