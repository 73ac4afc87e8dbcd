/- the text PRefG -/
import Derived.Test.YtcmgclkbhhdnaaaGreatDoorPRefFC
namespace Go.Proofs.YtcmgclkbhhdnaaaGreatDoor
open Go Go.RowKit

end Go.Proofs.YtcmgclkbhhdnaaaGreatDoor
