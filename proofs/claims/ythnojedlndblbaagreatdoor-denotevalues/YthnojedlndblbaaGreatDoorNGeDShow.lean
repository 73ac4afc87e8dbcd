/- texts put together: DShow -/
import Derived.Test.YthnojedlndblbaaGreatDoorNGeDText
namespace Go.Proofs.YthnojedlndblbaaGreatDoor
open Go Go.RowKit

end Go.Proofs.YthnojedlndblbaaGreatDoor
