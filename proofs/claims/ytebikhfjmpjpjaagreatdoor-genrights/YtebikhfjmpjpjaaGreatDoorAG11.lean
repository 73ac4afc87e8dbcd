/- texts put together: DRefB -/
import Derived.Test.YtebikhfjmpjpjaaGreatDoorAG9
import Derived.Test.YtebikhfjmpjpjaaGreatDoorAG10
import Derived.Test.YtebikhfjmpjpjaaGreatDoorAG1
namespace Go.Proofs.YtebikhfjmpjpjaaGreatDoor
open Go Go.RowKit

end Go.Proofs.YtebikhfjmpjpjaaGreatDoor
