/- texts put together: DRefB -/
import Derived.Test.YtddbiiejilcbbaaGreatDoorAG9
import Derived.Test.YtddbiiejilcbbaaGreatDoorAG10
import Derived.Test.YtddbiiejilcbbaaGreatDoorAG1
namespace Go.Proofs.YtddbiiejilcbbaaGreatDoor
open Go Go.RowKit

end Go.Proofs.YtddbiiejilcbbaaGreatDoor
