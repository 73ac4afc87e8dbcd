/- texts put together: DRefB -/
import Derived.Test.YthnojedlndblbabGreatDoorNGeDRef
import Derived.Test.YthnojedlndblbabGreatDoorNGeDYears
import Derived.Test.YthnojedlndblbabGreatDoorNGe
namespace Go.Proofs.YthnojedlndblbabGreatDoor
open Go Go.RowKit

end Go.Proofs.YthnojedlndblbabGreatDoor
