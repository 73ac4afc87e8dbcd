/- A digit's value. -/
import Derived.Test.YtcjhimakbopipaaDoorMHex
namespace Go.Proofs.YtcjhimakbopipaaDoor
open Go Go.RowKit

theorem ud_cases {c : UInt8} {n : Nat} (h : ud c = some n) : (48 ≤ c.toNat ∧ c.toNat ≤ 57 ∧ n = c.toNat - 48) ∨ (97 ≤ c.toNat ∧ c.toNat ≤ 102 ∧ n = c.toNat - 87) := by
  unfold ud at h
  split at h
  · cases h; left; omega
  · split at h
    · cases h; right; omega
    · cases h
theorem ud_nones {c : UInt8} (h : ud c = none) : c.toNat < 48 ∨ (57 < c.toNat ∧ c.toNat < 97) ∨ 102 < c.toNat := by
  unfold ud at h
  split at h
  · cases h
  · split at h
    · cases h
    · omega
set_option maxHeartbeats 400000 in
theorem digitOf_some {c : UInt8} {n : Nat} (h : ud c = some n) (w : World) :
    Calls Tryd.prog 27 #[.int .u8 (c.toNat : Nat)] w fun e w' => e = .returned (.tuple #[.int .u8 n, .bool true]) ∧ w' = w := by
  have hc := c.toNat_lt
  rcases ud_cases h with ⟨h1, h2, h3⟩ | ⟨h1, h2, h3⟩
  · generalize c.toNat = x at *
    have e1 : IntKind.u8.wrap ((x : Int) - 48) = (n : Int) := by rw [IntKind.wrap_u8']; omega
    have i1 : (48 : Int) ≤ x := by omega
    have i2 : (x : Int) ≤ 57 := by omega
    go_enter Tryd.func27, Tryd.ntmps27
    go_wp2
    go_returns
    exact ⟨by simp; omega, rfl⟩
  · generalize c.toNat = x at *
    have e1 : IntKind.u8.wrap ((x : Int) - 97) = (x : Int) - 97 := by rw [IntKind.wrap_u8']; omega
    have e2 : IntKind.u8.wrap ((x : Int) - 97 + 10) = (n : Int) := by rw [IntKind.wrap_u8']; omega
    have i1 : (97 : Int) ≤ x := by omega
    have i2 : (x : Int) ≤ 102 := by omega
    have i3 : ¬ (x : Int) ≤ 57 := by omega
    go_enter Tryd.func27, Tryd.ntmps27
    go_wp2
    go_returns
    exact ⟨by simp, rfl⟩
set_option maxHeartbeats 400000 in
theorem digitOf_none {c : UInt8} (h : ud c = none) (w : World) :
    Calls Tryd.prog 27 #[.int .u8 (c.toNat : Nat)] w fun e w' => e = .returned (.tuple #[.int .u8 0, .bool false]) ∧ w' = w := by
  have hc := c.toNat_lt
  rcases ud_nones h with h1 | ⟨h1, h2⟩ | h1
  · generalize c.toNat = x at *
    have i1 : ¬ (48 : Int) ≤ x := by omega
    have i2 : ¬ (97 : Int) ≤ x := by omega
    go_enter Tryd.func27, Tryd.ntmps27
    go_wp2
    go_returns
    exact ⟨rfl, rfl⟩
  · generalize c.toNat = x at *
    have i1 : (48 : Int) ≤ x := by omega
    have i2 : ¬ (x : Int) ≤ 57 := by omega
    have i3 : ¬ (97 : Int) ≤ x := by omega
    go_enter Tryd.func27, Tryd.ntmps27
    go_wp2
    go_returns
    exact ⟨rfl, rfl⟩
  · generalize c.toNat = x at *
    have i1 : (48 : Int) ≤ x := by omega
    have i2 : ¬ (x : Int) ≤ 57 := by omega
    have i3 : (97 : Int) ≤ x := by omega
    have i4 : ¬ (x : Int) ≤ 102 := by omega
    go_enter Tryd.func27, Tryd.ntmps27
    go_wp2
    go_returns
    exact ⟨rfl, rfl⟩
set_option maxHeartbeats 400000 in
theorem digit_some {c : UInt8} {n : Nat} (h : ud c = some n) (w : World) :
    Calls Tryd.prog 28 #[.int .u8 (c.toNat : Nat)] w fun e w' => e = .returned (.int .i64 n) ∧ w' = w := by
  have hc := c.toNat_lt
  rcases ud_cases h with ⟨h1, h2, h3⟩ | ⟨h1, h2, h3⟩
  · generalize c.toNat = x at *
    have e1 : IntKind.u8.wrap ((x : Int) - 48) = (n : Int) := by rw [IntKind.wrap_u8']; omega
    have i1 : (48 : Int) ≤ x := by omega
    have i2 : (x : Int) ≤ 57 := by omega
    go_enter Tryd.func28, Tryd.ntmps28
    go_wp2
    go_ret
    exact ⟨ret_intM (by omega), rfl⟩
  · generalize c.toNat = x at *
    have e1 : IntKind.u8.wrap ((x : Int) - 97) = (x : Int) - 97 := by rw [IntKind.wrap_u8']; omega
    have i1 : (97 : Int) ≤ x := by omega
    have i2 : (x : Int) ≤ 102 := by omega
    have i3 : ¬ (x : Int) ≤ 57 := by omega
    go_enter Tryd.func28, Tryd.ntmps28
    go_wp2
    go_ret
    exact ⟨ret_intM (by omega), rfl⟩
set_option maxHeartbeats 400000 in
theorem digit_none {c : UInt8} (h : ud c = none) (w : World) :
    Calls Tryd.prog 28 #[.int .u8 (c.toNat : Nat)] w fun e w' => e = .returned (.int .i64 (-1)) ∧ w' = w := by
  have hc := c.toNat_lt
  rcases ud_nones h with h1 | ⟨h1, h2⟩ | h1
  · generalize c.toNat = x at *
    have i1 : ¬ (48 : Int) ≤ x := by omega
    have i2 : ¬ (97 : Int) ≤ x := by omega
    go_enter Tryd.func28, Tryd.ntmps28
    go_wp2
    go_ret
    exact ⟨rfl, rfl⟩
  · generalize c.toNat = x at *
    have i1 : (48 : Int) ≤ x := by omega
    have i2 : ¬ (x : Int) ≤ 57 := by omega
    have i3 : ¬ (97 : Int) ≤ x := by omega
    go_enter Tryd.func28, Tryd.ntmps28
    go_wp2
    go_ret
    exact ⟨rfl, rfl⟩
  · generalize c.toNat = x at *
    have i1 : (48 : Int) ≤ x := by omega
    have i2 : ¬ (x : Int) ≤ 57 := by omega
    have i3 : (97 : Int) ≤ x := by omega
    have i4 : ¬ (x : Int) ≤ 102 := by omega
    go_enter Tryd.func28, Tryd.ntmps28
    go_wp2
    go_ret
    exact ⟨rfl, rfl⟩
end Go.Proofs.YtcjhimakbopipaaDoor
