/- texts put together: DApp -/
import Derived.Test.YthnojedlndblbaaGreatDoorNGa
namespace Go.Proofs.YthnojedlndblbaaGreatDoor
open Go Go.RowKit


end Go.Proofs.YthnojedlndblbaaGreatDoor
