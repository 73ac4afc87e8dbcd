/- the text PNone -/
import Derived.Test.YtcmgclkbhhdnaaaGreatDoorPGd
namespace Go.Proofs.YtcmgclkbhhdnaaaGreatDoor
open Go Go.RowKit

end Go.Proofs.YtcmgclkbhhdnaaaGreatDoor
