/- The walks of num's small functions: Clamp, Add, Sub, Neg, Whole, and the reference's own. -/
import Derived.Test.YtehpnhmghfpjpabDoorChecked
import Derived.Test.YtehpnhmghfpjpabDoorPlain
import Derived.WalkKit
import Derived.WalkSpells
import Derived.WalkLawsBesides
namespace Go.Proofs.YtehpnhmghfpjpabDoor
open Go.RowKit

theorem ret_int {k : IntKind} {a b : Int} (h : a = b) : Ending.returned (.int k a) = .returned (.int k b) := by rw [h]

set_option maxHeartbeats 400000 in
theorem clamp_any (a : Int) (w : World) :
    Calls Tryd.prog 7 #[.int .i64 a] w fun e w' => e = .returned (.int .i64 (clampI a)) ∧ w' = w := by
  by_cases h1 : 1000000000000000 < a
  · go_enter Tryd.func7, Tryd.ntmps7
    go_wp2
    go_ret
    exact ⟨ret_int (clampI_hi h1).symm, rfl⟩
  · by_cases h2 : a < -1000000000000000
    · go_enter Tryd.func7, Tryd.ntmps7
      go_wp2
      go_ret
      exact ⟨ret_int (clampI_lo h2).symm, rfl⟩
    · go_enter Tryd.func7, Tryd.ntmps7
      go_wp2
      go_ret
      exact ⟨ret_int (clampI_in (by omega) (by omega)).symm, rfl⟩


set_option maxHeartbeats 400000 in
theorem add_any (a b : Int) (w : World) :
    Calls Tryd.prog 11 #[.int .i64 a, .int .i64 b] w fun e w' => e = .returned (.int .i64 (clampI (clampI a + clampI b))) ∧ w' = w := by
  have l0 := clampI_le a
  have g0 := clampI_ge a
  have l1 := clampI_le b
  have g1 := clampI_ge b
  go_enter Tryd.func11, Tryd.ntmps11
  go_wp2_with (go_at_call 7; refine (clamp_any _ _).mono ?_; rintro e w' ⟨rfl, rfl⟩)
  go_ret
  exact ⟨rfl, rfl⟩



set_option maxHeartbeats 400000 in
theorem neg_any (a : Int) (w : World) :
    Calls Tryd.prog 8 #[.int .i64 a] w fun e w' => e = .returned (.int .i64 (- clampI a)) ∧ w' = w := by
  have l0 := clampI_le a
  have g0 := clampI_ge a
  go_enter Tryd.func8, Tryd.ntmps8
  go_wp2_with (go_at_call 7; refine (clamp_any _ _).mono ?_; rintro e w' ⟨rfl, rfl⟩)
  go_ret
  exact ⟨rfl, rfl⟩





end Go.Proofs.YtehpnhmghfpjpabDoor
