/- the text PRefI -/
import Derived.Test.YtcmgclkbhhdnaaaGreatDoorPRefHC
namespace Go.Proofs.YtcmgclkbhhdnaaaGreatDoor
open Go Go.RowKit

end Go.Proofs.YtcmgclkbhhdnaaaGreatDoor
