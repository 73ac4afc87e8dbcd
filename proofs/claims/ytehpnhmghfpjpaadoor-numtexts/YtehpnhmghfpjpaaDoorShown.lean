/- The walk of the laws' own head: two halves are one, and one and a half is written so. -/
import Derived.Test.YtehpnhmghfpjpaaDoorShow
namespace Go.Proofs.YtehpnhmghfpjpaaDoor
open Go.RowKit

theorem clampI_half : clampI 500000 = 500000 := clampI_in (by omega) (by omega)

theorem showL_15 : showL 1500000 = [49, 46, 53] := by
  have e : clampI 1500000 = 1500000 := clampI_in (by omega) (by omega)
  have e1 : Lib.itoa 1 = [49] := by rw [itoa_nonneg (by omega)]; unfold Lib.decDigits; simp
  unfold showL
  rw [e, if_neg (by omega)]
  unfold showPos
  rw [show (1500000 : Int) / 1000000 = 1 by rfl, show (1500000 : Int) % 1000000 = 500000 by rfl, e1]
  simp [fracDigits, putN, putF]

set_option maxHeartbeats 400000 in
theorem shown_any (w : World) (htab : Lib.TabBelow Tryd.prog w.heap.size w "internal/strconv.uint64pow10" .u64 Lib.pow10Tab) :
    Calls Tryd.prog 9 #[] w fun e w' => e = .returned (.bool true) ∧ Below w.heap.size w w' := by
  have e1 : clampI (500000 + 500000) = 1000000 := clampI_in (by omega) (by omega)
  go_enter Tryd.func9, Tryd.ntmps9
  go_wp2_with (first | (go_at_call 12; refine (add_any _ _ _).mono ?_; rintro e w ⟨rfl, rfl⟩; rw [clampI_half, e1]) | (go_at_call 26; refine (show_any _ _ htab).mono ?_; rintro e w1 ⟨rfl, hb⟩; rw [showL_15]))
  go_ret
  exact ⟨rfl, hb⟩
end Go.Proofs.YtehpnhmghfpjpaaDoor
