/- texts put together: NRf -/
import Derived.Test.YthnojedlndblbabGreatDoorNGg
namespace Go.Proofs.YthnojedlndblbabGreatDoor
open Go Go.RowKit

end Go.Proofs.YthnojedlndblbabGreatDoor
