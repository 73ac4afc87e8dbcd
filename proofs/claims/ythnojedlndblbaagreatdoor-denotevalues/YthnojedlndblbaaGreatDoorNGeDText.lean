/- texts put together: DText -/
import Derived.Test.YthnojedlndblbaaGreatDoorNGeDFuncs
import Derived.Test.YthnojedlndblbaaGreatDoorNGeDApp
namespace Go.Proofs.YthnojedlndblbaaGreatDoor
open Go Go.RowKit

end Go.Proofs.YthnojedlndblbaaGreatDoor
