/- texts put together: DSumsMath -/
import Derived.Test.YtddbiiejilcbbaaGreatDoorAG12
import Derived.Test.YtddbiiejilcbbaaGreatDoorAG1
namespace Go.Proofs.YtddbiiejilcbbaaGreatDoor
open Go Go.RowKit

end Go.Proofs.YtddbiiejilcbbaaGreatDoor
