/- texts put together: ON4 ON5 ON6 -/
import Derived.Test.YtddbiiejilcbbaaGreatDoorAG17
import Derived.Test.YtddbiiejilcbbaaGreatDoorAG2
namespace Go.Proofs.YtddbiiejilcbbaaGreatDoor
open Go Go.RowKit

end Go.Proofs.YtddbiiejilcbbaaGreatDoor
namespace Go.Proofs.YtddbiiejilcbbaaGreatDoor
open Go Go.RowKit

end Go.Proofs.YtddbiiejilcbbaaGreatDoor
namespace Go.Proofs.YtddbiiejilcbbaaGreatDoor
open Go Go.RowKit

/-- Is a rule's pass none of those? -/
def delP (p n : Int) : Bool := IntKind.i64.wrap ((BitVec.ofInt 64 p &&& BitVec.ofInt 64 n).toNat : Nat) == 0
end Go.Proofs.YtddbiiejilcbbaaGreatDoor
