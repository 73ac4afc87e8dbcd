/- the text PRefC -/
import Derived.Test.YtcmgclkbhhdnaaaGreatDoorPNoneC
namespace Go.Proofs.YtcmgclkbhhdnaaaGreatDoor
open Go Go.RowKit

end Go.Proofs.YtcmgclkbhhdnaaaGreatDoor
