/- The walks of wire's small functions: fold, unfold, mayEnd, turnSign. -/
import Derived.Test.YtpflajehakiloaaDoorWRow
import Derived.Test.YtpflajehakiloaaDoorWBits
namespace Go.Proofs.YtpflajehakiloaaDoor
open Go Go.RowKit

theorem ret_int {k : IntKind} {a b : Int} (h : a = b) : Ending.returned (.int k a) = .returned (.int k b) := by rw [h]
theorem ret_bool {a b : Bool} (h : a = b) : Ending.returned (.bool a) = .returned (.bool b) := by rw [h]

set_option maxHeartbeats 400000 in
theorem fold_any (n : Int) (h0 : -9223372036854775808 ≤ n) (h1 : n ≤ 9223372036854775807) (w : World) :
    Calls Tryd.prog 38 #[.int .i64 n] w fun e w' => e = .returned (.int .u64 (zig n : Nat)) ∧ w' = w := by
  by_cases hn : n < 0
  · go_enter Tryd.func38, Tryd.ntmps38
    go_wp2
    go_ret
    refine ⟨ret_int ?_, rfl⟩
    rw [not_i64 n h0 h1, zig_neg hn, IntKind.wrap_u64 (-n - 1), Int.emod_eq_of_lt (by omega) (by omega), IntKind.wrap_u64, Int.emod_eq_of_lt (by omega) (by omega), or_one _ (by omega) (by omega)]
    omega
  · go_enter Tryd.func38, Tryd.ntmps38
    go_wp2
    go_ret
    refine ⟨ret_int ?_, rfl⟩
    rw [zig_pos (by omega)]; omega

set_option maxHeartbeats 400000 in
theorem unfold_any (u : Nat) (h : u < 18446744073709551616) (w : World) :
    Calls Tryd.prog 36 #[.int .u64 u] w fun e w' => e = .returned (.int .i64 (unzig u)) ∧ w' = w := by
  by_cases hn : u % 2 = 1
  · go_enter Tryd.func36, Tryd.ntmps36
    go_wp2
    go_ret
    refine ⟨ret_int ?_, rfl⟩
    rw [not_i64 _ (by omega) (by omega)]
    unfold unzig
    rw [if_pos hn]; omega
  · go_enter Tryd.func36, Tryd.ntmps36
    go_wp2
    go_ret
    refine ⟨ret_int ?_, rfl⟩
    unfold unzig
    rw [if_neg hn]; omega

set_option maxHeartbeats 400000 in
theorem mayEnd_any (i : Nat) (c : Int) (w : World) :
    Calls Tryd.prog 35 #[.int .i64 i, .int .u8 c] w fun e w' => e = .returned (.bool (mayEndB i c)) ∧ w' = w := by
  by_cases h9 : i = 9
  · have h9b : ((i : Int) == 9) = true := by simp; omega
    go_enter Tryd.func35, Tryd.ntmps35
    go_wp2
    go_ret
    refine ⟨ret_bool ?_, rfl⟩
    unfold mayEndB
    rw [if_pos h9]; rfl
  · have h9b : ((i : Int) == 9) = false := by simp; omega
    by_cases hc : 0 < c
    · have hcb : decide (0 < c) = true := decide_eq_true hc
      go_enter Tryd.func35, Tryd.ntmps35
      go_wp2
      go_ret
      refine ⟨ret_bool ?_, rfl⟩
      unfold mayEndB
      rw [if_neg h9]; simp [hc]
    · have hcb : decide (0 < c) = false := decide_eq_false hc
      go_enter Tryd.func35, Tryd.ntmps35
      go_wp2
      go_ret
      refine ⟨ret_bool ?_, rfl⟩
      unfold mayEndB
      rw [if_neg h9, decide_eq_false (show ¬ 0 < c by omega)]
      rw [Bool.eq_iff_iff]; simp

set_option maxHeartbeats 400000 in
theorem turn_any (u : Nat) (hu : u < 18446744073709551616) (w : World) :
    Calls Tryd.prog 33 #[.int .u64 u] w fun e w' => e = .returned (.int .u64 ((u + 9223372036854775808) % 18446744073709551616 : Nat)) ∧ w' = w := by
  go_enter Tryd.func33, Tryd.ntmps33
  go_wp2
  go_ret
  exact ⟨ret_int (xor_sign u hu), rfl⟩
end Go.Proofs.YtpflajehakiloaaDoor
