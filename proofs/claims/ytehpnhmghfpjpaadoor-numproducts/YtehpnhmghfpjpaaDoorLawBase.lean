/- num's Mul and Div, as the laws use them. -/
import Derived.Test.YtehpnhmghfpjpaaDoorMulDiv
import Derived.Test.YtehpnhmghfpjpaaDoorRatioMath
import Derived.Test.YtehpnhmghfpjpaaDoorFrame
import Derived.WalkSmall
namespace Go.Proofs.YtehpnhmghfpjpaaDoor
open Go.RowKit

/-- num's Mul and Div draw, and change nothing. -/
theorem mul_b {B : Nat} {w0 w : World} (a b : Int) (hb : Below B w0 w) : Calls Tryd.prog 20 #[.int .i64 a, .int .i64 b] w fun e w' => e = .returned (.int .i64 (mulI a b)) ∧ Below B w0 w' :=
  (mul_any a b w).mono (by rintro e w' ⟨rfl, n, rfl⟩; exact ⟨rfl, below_drewN hb n⟩)
theorem div_b {B : Nat} {w0 w : World} (a b : Int) (hb : Below B w0 w) : Calls Tryd.prog 22 #[.int .i64 a, .int .i64 b] w fun e w' => e = .returned (.int .i64 (divI a b)) ∧ Below B w0 w' :=
  (div_any a b w).mono (by rintro e w' ⟨rfl, n, rfl⟩; exact ⟨rfl, below_drewN hb n⟩)
end Go.Proofs.YtehpnhmghfpjpaaDoor
