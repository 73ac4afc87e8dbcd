/-
  DERIVED. GIVEN WITH THE SEED: THE PROGRAM's TIES (one call each: nine closed facts by the kernel) AND EACH ROW's TIE, after the 31st guide's Derived/Test/Toyas{Tie, Card}.lean. No idea stands in it: it is a product of the set-up. Laid BY PROGRAM, IN A SANDBOX (cutbox-door.mjs). By AI agents, Wed Nov 11 2026. No macro, syntax, notation, axiom, sorry.
-/
import Derived.Test.YtddbiiejilcbbaaGreatDoorRows
import Derived.LaidByTextLater
import Derived.SevenTiedAt
import Derived.LaidSub
import Derived.LaidOnce
namespace Go.Proofs.YtddbiiejilcbbaaGreatDoor
open Go
set_option maxRecDepth 100000
theorem seatTie1 : Tryz.prog.laidByTextLater [("usance/date.monthDays", Rows.laid_usance_date_monthDays), ("usance/gen.reckonOps", Rows.laid_usance_gen_reckonOps), ("usance/gen.uses", Rows.laid_usance_gen_uses)] [.data, .data, .data] true :=
  Program.laidByTextLater_by_one 24 8 32 (by kernel_rfl) (by kernel_rfl) (by kernel_rfl) (by kernel_rfl) (by kernel_rfl) (by kernel_rfl) (fun _ _ => by kernel_rfl)
theorem noOwnUnsafe : Tryz.pinned.checked.prog.headLifts.contains "ownunsafe" = false := by kernel_rfl
theorem tie : Tryz.prog.laidByTextLater [("usance/date.monthDays", Rows.laid_usance_date_monthDays), ("usance/gen.reckonOps", Rows.laid_usance_gen_reckonOps), ("usance/gen.uses", Rows.laid_usance_gen_uses)] [.data, .data, .data] true :=
  Program.laidByTextLater.sub seatTie1 ["usance/date.monthDays", "usance/gen.reckonOps", "usance/gen.uses"] (by kernel_rfl) (by kernel_rfl)
theorem genBytes_row_tie : Rows.genBytesRow.laidByTextAt .later Tryz.pinned [.data, .data, .data] true :=
  OpenClaim.laidByTextAt_later rfl rfl tie noOwnUnsafe
theorem genBack_row_tie : Rows.genBackRow.laidByTextAt .later Tryz.pinned [.data, .data, .data] true :=
  OpenClaim.laidByTextAt_later rfl rfl tie noOwnUnsafe
theorem tie2 : Tryz.prog.laidByTextLater [("usance/date.monthDays", Rows.laid_usance_date_monthDays), ("usance/gen.uses", Rows.laid_usance_gen_uses)] [.data, .data] true :=
  Program.laidByTextLater.sub seatTie1 ["usance/date.monthDays", "usance/gen.uses"] (by kernel_rfl) (by kernel_rfl)
theorem vmBegins_row_tie : Rows.vmBeginsRow.laidByTextAt .later Tryz.pinned [.data, .data] true :=
  OpenClaim.laidByTextAt_later rfl rfl tie2 noOwnUnsafe
theorem vmSteps_row_tie : Rows.vmStepsRow.laidByTextAt .later Tryz.pinned [.data, .data] true :=
  OpenClaim.laidByTextAt_later rfl rfl tie2 noOwnUnsafe
theorem genBytesUpto_row_tie : Rows.genBytesUptoRow.laidByTextAt .later Tryz.pinned [.data, .data, .data] true :=
  OpenClaim.laidByTextAt_later rfl rfl tie noOwnUnsafe
theorem genBackUpto_row_tie : Rows.genBackUptoRow.laidByTextAt .later Tryz.pinned [.data, .data, .data] true :=
  OpenClaim.laidByTextAt_later rfl rfl tie noOwnUnsafe
theorem vmBeginsUpto_row_tie : Rows.vmBeginsUptoRow.laidByTextAt .later Tryz.pinned [.data, .data] true :=
  OpenClaim.laidByTextAt_later rfl rfl tie2 noOwnUnsafe
theorem vmStepsUpto_row_tie : Rows.vmStepsUptoRow.laidByTextAt .later Tryz.pinned [.data, .data] true :=
  OpenClaim.laidByTextAt_later rfl rfl tie2 noOwnUnsafe
end Go.Proofs.YtddbiiejilcbbaaGreatDoor
