/- The walk of the laws' own 'less'. -/
import Derived.Test.YtlddkbmfkipmpabDoorWShown
namespace Go.Proofs.YtlddkbmfkipmpabDoor
open Go Go.RowKit

def lessI (a b : Bool) : Int := if a then -1 else if b then 1 else 0

end Go.Proofs.YtlddkbmfkipmpabDoor
