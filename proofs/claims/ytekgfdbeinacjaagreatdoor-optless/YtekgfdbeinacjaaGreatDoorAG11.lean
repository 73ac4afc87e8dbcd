/- texts put together: DRefB -/
import Derived.Test.YtekgfdbeinacjaaGreatDoorAG9
import Derived.Test.YtekgfdbeinacjaaGreatDoorAG10
import Derived.Test.YtekgfdbeinacjaaGreatDoorAG1
namespace Go.Proofs.YtekgfdbeinacjaaGreatDoor
open Go Go.RowKit

end Go.Proofs.YtekgfdbeinacjaaGreatDoor
