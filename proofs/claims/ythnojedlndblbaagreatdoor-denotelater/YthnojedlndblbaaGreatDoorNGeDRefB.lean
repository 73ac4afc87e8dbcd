/- texts put together: DRefB -/
import Derived.Test.YthnojedlndblbaaGreatDoorNGeDRef
import Derived.Test.YthnojedlndblbaaGreatDoorNGeDYears
import Derived.Test.YthnojedlndblbaaGreatDoorNGe
namespace Go.Proofs.YthnojedlndblbaaGreatDoor
open Go Go.RowKit

end Go.Proofs.YthnojedlndblbaaGreatDoor
