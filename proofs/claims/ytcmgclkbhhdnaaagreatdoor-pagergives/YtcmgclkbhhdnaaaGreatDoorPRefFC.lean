/- the text PRefF -/
import Derived.Test.YtcmgclkbhhdnaaaGreatDoorPRefEC
namespace Go.Proofs.YtcmgclkbhhdnaaaGreatDoor
open Go Go.RowKit

end Go.Proofs.YtcmgclkbhhdnaaaGreatDoor
