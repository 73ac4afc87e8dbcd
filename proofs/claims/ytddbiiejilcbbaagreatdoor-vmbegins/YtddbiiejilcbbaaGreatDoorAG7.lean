/- texts put together: DBase -/
import Derived.Test.YtddbiiejilcbbaaGreatDoorChecked
import Derived.Test.YtddbiiejilcbbaaGreatDoorAG6
import Derived.Test.YtddbiiejilcbbaaGreatDoorAG0
import Derived.WalkKit
import Derived.WalkSpells
import Derived.WalkLawsBesides
import Derived.Deep.QuietTactic
import Derived.BigQuiet
namespace Go.Proofs.YtddbiiejilcbbaaGreatDoor
open Go Go.RowKit

theorem ret_intD {k : IntKind} {a b : Int} (h : a = b) : Ending.returned (.int k a) = .returned (.int k b) := by rw [h]
theorem ret_bool {a b : Bool} (h : a = b) : Ending.returned (.bool a) = .returned (.bool b) := by rw [h]

/-- The months' days lie where the program lays them. -/
def Tab (w : World) : Prop := ∀ k, k < 12 → w.cell? ⟨1, k, none⟩ = some (.int .i64 (mt k : Nat))

set_option maxHeartbeats 400000 in
theorem leapDays_any (y : Nat) (h : y ≤ 10000) (w : World) :
    Calls Tryz.prog 230 #[.int .i64 y] w fun e w' => e = .returned (.int .i64 (lpN y : Nat)) ∧ w' = w := by
  by_cases h4 : y % 4 = 0
  · by_cases h100 : y % 100 = 0
    · by_cases h400 : y % 400 = 0
      · go_enter Tryz.func230, Tryz.ntmps230
        go_wp2
        go_ret
        refine ⟨ret_intD ?_, rfl⟩
        unfold lpN; rw [if_pos (by omega)]; rfl
      · go_enter Tryz.func230, Tryz.ntmps230
        go_wp2
        go_ret
        refine ⟨ret_intD ?_, rfl⟩
        unfold lpN; rw [if_neg (by omega)]; rfl
    · go_enter Tryz.func230, Tryz.ntmps230
      go_wp2
      go_ret
      refine ⟨ret_intD ?_, rfl⟩
      unfold lpN; rw [if_pos (by omega)]; rfl
  · go_enter Tryz.func230, Tryz.ntmps230
    go_wp2
    go_ret
    refine ⟨ret_intD ?_, rfl⟩
    unfold lpN; rw [if_neg (by omega)]; rfl

set_option maxHeartbeats 400000 in
theorem yearLater_any (y n : Nat) (h : y ≤ 5000) (hn : n ≤ 5000) (w : World) :
    Calls Tryz.prog 229 #[.int .i64 y, .int .i64 n] w fun e w' => e = .returned (.int .i64 (yl (y + n) : Nat)) ∧ w' = w := by
  have H := hid (fun w => leapDays_any (y + n) (by omega) w)
  have hl := lpN_le (y + n)
  go_enter Tryz.func229, Tryz.ntmps229
  go_wp2_with fail
  refine (H.out _).mono ?_
  rintro e w ⟨rfl, rfl⟩
  go_wp2
  go_ret
  refine ⟨ret_intD ?_, rfl⟩
  unfold yl; omega

theorem Tab.drewN {w : World} (h : Tab w) (n : Nat) : Tab (w.drewN n) := h

set_option maxHeartbeats 400000 in
theorem month_any (y m : Nat) (h : y ≤ 5000) (hm : m < 12) (w : World) (ht : Tab w) :
    Calls Tryz.prog 195 #[.int .i64 y, .int .i64 m] w fun e w' => e = .returned (.int .i64 (ml y m : Nat)) ∧ ∃ n, w' = w.drewN n := by
  have H := hid (fun w => leapDays_any y (by omega) w)
  have hl := lpN_le y
  have hc := ht m hm
  have hb := mt_bounds hm
  have hm' : (m : Int) < 12 := by omega
  clear ht
  by_cases h1 : m = 1
  · subst h1
    go_enter Tryz.func195, Tryz.ntmps195
    go_wp2_with fail
    go_quiet ((go_at_call 230; refine Calls.quiet_of_same (H.out _)))
    go_wp2
    go_ret
    refine ⟨ret_intD ?_, _, rfl⟩
    unfold ml mt; simp
  · go_enter Tryz.func195, Tryz.ntmps195
    go_wp2_with fail
    go_ret
    refine ⟨ret_intD ?_, 0, rfl⟩
    unfold ml; simp [h1]
end Go.Proofs.YtddbiiejilcbbaaGreatDoor
