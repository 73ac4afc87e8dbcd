/- texts put together: DRef -/
import Derived.Test.YtddbiiejilcbbaaGreatDoorAG8
namespace Go.Proofs.YtddbiiejilcbbaaGreatDoor
open Go Go.RowKit

end Go.Proofs.YtddbiiejilcbbaaGreatDoor
