/- the text MFrame -/
import Derived.Test.YtddbiiejilcbbaaGreatDoorAG5
import Derived.Test.YtddbiiejilcbbaaGreatDoorAG14
import Derived.Test.YtddbiiejilcbbaaGreatDoorAG7
import Derived.Test.YtddbiiejilcbbaaGreatDoorAG20
import Derived.Test.YtddbiiejilcbbaaGreatDoorTie
import Derived.Lib.LaidTab
namespace Go.Proofs.YtddbiiejilcbbaaGreatDoor
open Go Go.ChangeShapes Go.WideShapes Go.ChangeAt Go.WideMaps Go.WideElems Go.RowKit Go.ChangeMaps Go.Deep

/-- The rows' list of tables. -/
def laid1 : List (String × DataW Unit) := [("usance/date.monthDays", Rows.laid_usance_date_monthDays), ("usance/gen.uses", Rows.laid_usance_gen_uses)]
theorem laid_met (os : Os) (args : Array Value) : laidMetH Tryz.prog laid1 ((World.doorLaid Tryz.prog 24 os).forCall (fun _ _ => 0) ⟨#[], args, []⟩).memory :=
  laidMetH_of_parts3 (fuel := 8) (laidMet_of_run' 8 (by kernel_rfl) (by kernel_rfl)) (by kernel_rfl) (by kernel_rfl)
def monthTab : List Int := [31, 28, 31, 30, 31, 30, 31, 31, 30, 31, 30, 31]
theorem month_datum : (Rows.laid_usance_date_monthDays : DataW Unit) = Lib.tabData .i64 monthTab := by kernel_rfl
theorem uses_datum : (Rows.laid_usance_gen_uses : DataW Unit) = Lib.tabData .i64 usesT := by kernel_rfl
theorem tab_of_laid {W : World} (h : laidMetH Tryz.prog laid1 W) : Tab W := by
  rw [MakeChecks.laidMetH_plain _ _ _ (by kernel_rfl)] at h
  unfold laid1 at h
  rw [month_datum] at h
  have ht := Lib.tabIs_of_head (g := 1) (t := 205) (e := 3) (n := 12) (by kernel_rfl) (by kernel_rfl) Tryz.underlying205 Tryz.underlying3 (by kernel_rfl) (by kernel_rfl) h
  intro k hk
  have hc := Lib.TabIs.cell ht (g := 1) (by kernel_rfl) k hk
  rw [hc]
  match k, hk with
  | 0, _ | 1, _ | 2, _ | 3, _ | 4, _ | 5, _ | 6, _ | 7, _ | 8, _ | 9, _ | 10, _ | 11, _ => rfl
theorem tabU_of_laid {W : World} (h : laidMetH Tryz.prog laid1 W) : TabU W := by
  rw [MakeChecks.laidMetH_plain _ _ _ (by kernel_rfl)] at h
  have h3 := h.tail
  rw [uses_datum] at h3
  have ht := Lib.tabIs_of_head (g := 0) (t := 140) (e := 3) (n := 31) (by kernel_rfl) (by kernel_rfl) Tryz.underlying140 Tryz.underlying3 (by kernel_rfl) (by kernel_rfl) h3
  exact fun k hk => Lib.TabIs.cell ht (g := 0) (by kernel_rfl) k hk
end Go.Proofs.YtddbiiejilcbbaaGreatDoor
