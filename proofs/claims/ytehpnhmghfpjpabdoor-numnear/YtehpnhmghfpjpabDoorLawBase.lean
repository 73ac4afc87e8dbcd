/- num's Mul and Div, as the laws use them. -/
import Derived.Test.YtehpnhmghfpjpabDoorMulDiv
import Derived.Test.YtehpnhmghfpjpabDoorRatioMath
import Derived.Test.YtehpnhmghfpjpabDoorFrame
import Derived.WalkSmall
namespace Go.Proofs.YtehpnhmghfpjpabDoor
open Go.RowKit

/-- num's Mul and Div draw, and change nothing. -/
theorem div_b {B : Nat} {w0 w : World} (a b : Int) (hb : Below B w0 w) : Calls Tryd.prog 6 #[.int .i64 a, .int .i64 b] w fun e w' => e = .returned (.int .i64 (divI a b)) ∧ Below B w0 w' :=
  (div_any a b w).mono (by rintro e w' ⟨rfl, n, rfl⟩; exact ⟨rfl, below_drewN hb n⟩)
end Go.Proofs.YtehpnhmghfpjpabDoor
