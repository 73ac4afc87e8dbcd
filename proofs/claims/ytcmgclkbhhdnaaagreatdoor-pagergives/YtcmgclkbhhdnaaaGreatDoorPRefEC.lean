/- the text PRefE -/
import Derived.Test.YtcmgclkbhhdnaaaGreatDoorPRefDC
namespace Go.Proofs.YtcmgclkbhhdnaaaGreatDoor
open Go Go.RowKit

end Go.Proofs.YtcmgclkbhhdnaaaGreatDoor
