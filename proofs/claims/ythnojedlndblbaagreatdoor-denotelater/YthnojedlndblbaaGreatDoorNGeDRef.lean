/- texts put together: DRef -/
import Derived.Test.YthnojedlndblbaaGreatDoorNGeDFuncs
namespace Go.Proofs.YthnojedlndblbaaGreatDoor
open Go Go.RowKit

end Go.Proofs.YthnojedlndblbaaGreatDoor
