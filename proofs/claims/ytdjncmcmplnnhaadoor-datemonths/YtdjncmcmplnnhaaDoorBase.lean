/- The walks of num's small functions: Clamp, Add, Sub, Neg, Whole, and the reference's own. -/
import Derived.Test.YtdjncmcmplnnhaaDoorChecked
import Derived.Test.YtdjncmcmplnnhaaDoorPlain
import Derived.WalkKit
import Derived.WalkSpells
import Derived.WalkLawsBesides
namespace Go.Proofs.YtdjncmcmplnnhaaDoor
open Go.RowKit

theorem ret_int {k : IntKind} {a b : Int} (h : a = b) : Ending.returned (.int k a) = .returned (.int k b) := by rw [h]

set_option maxHeartbeats 400000 in
theorem clamp_any (a : Int) (w : World) :
    Calls Tryd.prog 44 #[.int .i64 a] w fun e w' => e = .returned (.int .i64 (clampI a)) ∧ w' = w := by
  by_cases h1 : 1000000000000000 < a
  · go_enter Tryd.func44, Tryd.ntmps44
    go_wp2
    go_ret
    exact ⟨ret_int (clampI_hi h1).symm, rfl⟩
  · by_cases h2 : a < -1000000000000000
    · go_enter Tryd.func44, Tryd.ntmps44
      go_wp2
      go_ret
      exact ⟨ret_int (clampI_lo h2).symm, rfl⟩
    · go_enter Tryd.func44, Tryd.ntmps44
      go_wp2
      go_ret
      exact ⟨ret_int (clampI_in (by omega) (by omega)).symm, rfl⟩

set_option maxHeartbeats 400000 in
theorem rclamp_any (a : Int) (w : World) :
    Calls Tryd.prog 50 #[.int .i64 a] w fun e w' => e = .returned (.int .i64 (clampI a)) ∧ w' = w := by
  by_cases h1 : 1000000000000000 < a
  · go_enter Tryd.func50, Tryd.ntmps50
    go_wp2
    go_ret
    exact ⟨ret_int (clampI_hi h1).symm, rfl⟩
  · by_cases h2 : a < -1000000000000000
    · go_enter Tryd.func50, Tryd.ntmps50
      go_wp2
      go_ret
      exact ⟨ret_int (clampI_lo h2).symm, rfl⟩
    · go_enter Tryd.func50, Tryd.ntmps50
      go_wp2
      go_ret
      exact ⟨ret_int (clampI_in (by omega) (by omega)).symm, rfl⟩




set_option maxHeartbeats 400000 in
theorem neg_any (a : Int) (w : World) :
    Calls Tryd.prog 26 #[.int .i64 a] w fun e w' => e = .returned (.int .i64 (- clampI a)) ∧ w' = w := by
  have l0 := clampI_le a
  have g0 := clampI_ge a
  go_enter Tryd.func26, Tryd.ntmps26
  go_wp2_with (go_at_call 44; refine (clamp_any _ _).mono ?_; rintro e w' ⟨rfl, rfl⟩)
  go_ret
  exact ⟨rfl, rfl⟩





end Go.Proofs.YtdjncmcmplnnhaaDoor
