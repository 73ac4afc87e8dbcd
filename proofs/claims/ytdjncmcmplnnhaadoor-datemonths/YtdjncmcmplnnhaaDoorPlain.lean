/- The plain mathematics of layer 1 (num): clamping, sums, whole parts: no Go in sight. -/
import Derived.WalkKit
namespace Go.Proofs.YtdjncmcmplnnhaaDoor
open Go Go.RowKit

/-- A number within its limits. -/
def clampI (a : Int) : Int := if 1000000000000000 < a then 1000000000000000 else if a < -1000000000000000 then -1000000000000000 else a

theorem clampI_le (a : Int) : clampI a ≤ 1000000000000000 := by unfold clampI; split <;> (try split) <;> omega
theorem clampI_ge (a : Int) : -1000000000000000 ≤ clampI a := by unfold clampI; split <;> (try split) <;> omega
theorem clampI_in {a : Int} (h1 : -1000000000000000 ≤ a) (h2 : a ≤ 1000000000000000) : clampI a = a := by unfold clampI; rw [if_neg (by omega), if_neg (by omega)]
theorem clampI_hi {a : Int} (h : 1000000000000000 < a) : clampI a = 1000000000000000 := by unfold clampI; rw [if_pos h]
theorem clampI_lo {a : Int} (h : a < -1000000000000000) : clampI a = -1000000000000000 := by unfold clampI; rw [if_neg (by omega), if_pos h]
theorem clampI_idem (a : Int) : clampI (clampI a) = clampI a := clampI_in (clampI_ge a) (clampI_le a)
theorem clampI_mono {a b : Int} (h : a ≤ b) : clampI a ≤ clampI b := by unfold clampI; split <;> split <;> (try split) <;> (try split) <;> omega
theorem clampI_neg (a : Int) : clampI (-a) = - clampI a := by unfold clampI; split <;> split <;> (try split) <;> (try split) <;> omega
end Go.Proofs.YtdjncmcmplnnhaaDoor
