/- texts put together: DRef -/
import Derived.Test.YtebikhfjmpjpjaaGreatDoorAG8
namespace Go.Proofs.YtebikhfjmpjpjaaGreatDoor
open Go Go.RowKit

end Go.Proofs.YtebikhfjmpjpjaaGreatDoor
