/- the text PRefD -/
import Derived.Test.YtcmgclkbhhdnaaaGreatDoorPRefCC
namespace Go.Proofs.YtcmgclkbhhdnaaaGreatDoor
open Go Go.RowKit

end Go.Proofs.YtcmgclkbhhdnaaaGreatDoor
