/- the text PNone -/
import Derived.Test.YtcmgclkbhhdnaaaGreatDoorPGd
namespace Go.Proofs.YtcmgclkbhhdnaaaGreatDoor
open Go Go.RowKit

theorem pages_nil (w : World) : Calls Tryz.prog 29 #[.pointer none] w fun e w' => e = .returned (.int .i64 0) ∧ w' = w := by
  go_enter Tryz.func29, Tryz.ntmps29
  go_wp2
  go_ret
  exact ⟨rfl, rfl⟩
theorem left_nil (w : World) : Calls Tryz.prog 26 #[.pointer none] w fun e w' => e = .returned (.int .i64 0) ∧ w' = w := by
  go_enter Tryz.func26, Tryz.ntmps26
  go_wp2
  go_ret
  exact ⟨rfl, rfl⟩
theorem root_nil (w : World) : Calls Tryz.prog 35 #[.pointer none] w fun e w' => e = .returned (.int .i64 (-1)) ∧ w' = w := by
  go_enter Tryz.func35, Tryz.ntmps35
  go_wp2
  go_ret
  exact ⟨rfl, rfl⟩
set_option maxRecDepth 100000 in
set_option maxHeartbeats 1000000 in
theorem none_any (w : World) : Calls Tryz.prog 10 #[] w fun e w' => e = .returned (.bool true) ∧ w' = w := by
  have H1 := hid (alloc_nil w)
  have H2 := hid (free_nil 0 w)
  have H3 := hid (pread_nil 0 w)
  have H4 := hid (pwrite_nil 0 (.slice none 0 0) w)
  have H5 := hid (setRoot_nil w)
  have H6 := hid (pcommit_nil w)
  have H7 := hid (abort_nil w)
  have H8 := hid (pformat_nil w)
  have H9 := hid (popen_nil w)
  have H10 := hid (pages_nil w)
  have H11 := hid (left_nil w)
  have H12 := hid (root_nil w)
  go_enter Tryz.func10, Tryz.ntmps10
  go_wp2_with fail
  refine H1.out.mono ?_
  rintro e wz ⟨rfl, hwz⟩
  obtain rfl := hwz.symm
  clear H1
  go_wp2_with fail
  refine H2.out.mono ?_
  rintro e wz ⟨rfl, hwz⟩
  obtain rfl := hwz.symm
  clear H2
  go_wp2_with fail
  refine H3.out.mono ?_
  rintro e wz ⟨rfl, hwz⟩
  obtain rfl := hwz.symm
  clear H3
  go_wp2_with fail
  refine H4.out.mono ?_
  rintro e wz ⟨rfl, hwz⟩
  obtain rfl := hwz.symm
  clear H4
  go_wp2_with fail
  refine H5.out.mono ?_
  rintro e wz ⟨rfl, hwz⟩
  obtain rfl := hwz.symm
  clear H5
  go_wp2_with fail
  refine H6.out.mono ?_
  rintro e wz ⟨rfl, hwz⟩
  obtain rfl := hwz.symm
  clear H6
  go_wp2_with fail
  refine H7.out.mono ?_
  rintro e wz ⟨rfl, hwz⟩
  obtain rfl := hwz.symm
  clear H7
  go_wp2_with fail
  refine H8.out.mono ?_
  rintro e wz ⟨rfl, hwz⟩
  obtain rfl := hwz.symm
  clear H8
  go_wp2_with fail
  refine H9.out.mono ?_
  rintro e wz ⟨rfl, hwz⟩
  obtain rfl := hwz.symm
  clear H9
  go_wp2_with fail
  refine H10.out.mono ?_
  rintro e wz ⟨rfl, hwz⟩
  obtain rfl := hwz.symm
  clear H10
  go_wp2_with fail
  refine H11.out.mono ?_
  rintro e wz ⟨rfl, hwz⟩
  obtain rfl := hwz.symm
  clear H11
  go_wp2_with fail
  refine H12.out.mono ?_
  rintro e wz ⟨rfl, hwz⟩
  obtain rfl := hwz.symm
  clear H12
  go_wp2_with fail
  go_ret
  exact ⟨rfl, rfl⟩
end Go.Proofs.YtcmgclkbhhdnaaaGreatDoor
