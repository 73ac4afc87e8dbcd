/- texts put together: DRef -/
import Derived.Test.YtekgfdbeinacjaaGreatDoorAG8
namespace Go.Proofs.YtekgfdbeinacjaaGreatDoor
open Go Go.RowKit

end Go.Proofs.YtekgfdbeinacjaaGreatDoor
