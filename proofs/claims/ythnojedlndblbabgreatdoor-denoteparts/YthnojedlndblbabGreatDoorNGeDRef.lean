/- texts put together: DRef -/
import Derived.Test.YthnojedlndblbabGreatDoorNGeDFuncs
namespace Go.Proofs.YthnojedlndblbabGreatDoor
open Go Go.RowKit



end Go.Proofs.YthnojedlndblbabGreatDoor
