/- The reference's Parse, way by way: refused for what stands behind them. -/
import Derived.Test.YtehpnhmghfpjpaaDoorRefParse0
namespace Go.Proofs.YtehpnhmghfpjpaaDoor
open Go.RowKit

set_option maxRecDepth 100000 in
set_option maxHeartbeats 1600000 in
theorem rpB51_f (s T : ByteArray) (k : Nat) (w : World) (R : Int × Bool) (hk : k ≤ T.size) (hTi : (T.size : Int) ≤ 9223372036854775807) (hp : 0 < s.size) (h45 : (s[0]'hp).toNat ≠ 45) (hT : s = T)
    (HDG : Hid (∀ i (h : i < T.size), i < k → isD (T[i]'h) = true)) (e1 : decide ((k : Int) < 1) = false) (e2 : decide (10 < (k : Int)) = false) (e3 : decide (1 < (k : Int)) = false) (hsz : k < T.size) (hno : ((T[k]'hsz).toNat : Int) < 48 ∨ 57 < ((T[k]'hsz).toNat : Int)) (e5 : (((T[k]'hsz).toNat : Int) != 46) = true) (HZ : Hid (R = (0, false))) :
    Calls Tryd.prog 25 #[.string s] w fun e w' => e = .returned (.tuple #[.int .i64 R.1, .bool R.2]) ∧ w' = w := by
  have d0 : (0 : Int) < (s.size : Int) := by omega
  subst hT
  have d45 : (((s[0]'hp).toNat : Int) == 45) = false := by simp; omega
  clear h45
  have hszi : (k : Int) < (s.size : Int) := by omega
  go_enter Tryd.func25, Tryd.ntmps25
  go_wp2
  go_loop [5] (fun a => ∃ i : Nat, i ≤ k ∧ a = .int .i64 i) (fun a => k - (intOf a).toNat)
  case atStart => exact ⟨0, Nat.zero_le _, rfl⟩
  case round =>
    obtain ⟨i, hi, rfl⟩ := hrel
    by_cases hlt : i < k
    · have hin : i < s.size := by omega
      obtain ⟨hD0, hD1⟩ := isD_yes (HDG.out i hin hlt)
      have hii : (i : Int) < (s.size : Int) := by omega
      clear e1 e2 e3 e5 HZ hno
      go_wp2_with (go_at_call 37; refine (rdig_yes _ _ hD0 hD1).mono ?_; rintro e w ⟨rfl, rfl⟩)
      go_round
      case rel => exact ⟨i + 1, by omega, by go_num⟩
      case measure => simp [intOf]; omega
    · obtain rfl : i = k := by omega
      clear hi hlt
      go_wp2_with (go_at_call 37; refine (rdig_no _ _ hno).mono ?_; rintro e w ⟨rfl, rfl⟩)
      go_ret2
      exact ⟨by rw [HZ.out]; rfl, rfl⟩

set_option maxRecDepth 100000 in
set_option maxHeartbeats 1600000 in
theorem rpB61_f (s T : ByteArray) (k : Nat) (w : World) (R : Int × Bool) (hk : k ≤ T.size) (hTi : (T.size : Int) ≤ 9223372036854775807) (hp : 0 < s.size) (h45 : (s[0]'hp).toNat ≠ 45) (hT : s = T)
    (HDG : Hid (∀ i (h : i < T.size), i < k → isD (T[i]'h) = true)) (e1 : decide ((k : Int) < 1) = false) (e2 : decide (10 < (k : Int)) = false) (e3 : decide (1 < (k : Int)) = false) (hsz : k < T.size) (hno : ((T[k]'hsz).toNat : Int) < 48 ∨ 57 < ((T[k]'hsz).toNat : Int)) (e5 : (((T[k]'hsz).toNat : Int) != 46) = false) (p : Nat) (rp : (T.size : Int) - (k : Int) - 1 = (p : Int)) (e6 : decide ((p : Int) < 1) = true) (HZ : Hid (R = (0, false))) :
    Calls Tryd.prog 25 #[.string s] w fun e w' => e = .returned (.tuple #[.int .i64 R.1, .bool R.2]) ∧ w' = w := by
  have d0 : (0 : Int) < (s.size : Int) := by omega
  subst hT
  have d45 : (((s[0]'hp).toNat : Int) == 45) = false := by simp; omega
  clear h45
  have hszi : (k : Int) < (s.size : Int) := by omega
  go_enter Tryd.func25, Tryd.ntmps25
  go_wp2
  go_loop [5] (fun a => ∃ i : Nat, i ≤ k ∧ a = .int .i64 i) (fun a => k - (intOf a).toNat)
  case atStart => exact ⟨0, Nat.zero_le _, rfl⟩
  case round =>
    obtain ⟨i, hi, rfl⟩ := hrel
    by_cases hlt : i < k
    · have hin : i < s.size := by omega
      obtain ⟨hD0, hD1⟩ := isD_yes (HDG.out i hin hlt)
      have hii : (i : Int) < (s.size : Int) := by omega
      clear e1 e2 e3 e5 rp e6 HZ hno
      go_wp2_with (go_at_call 37; refine (rdig_yes _ _ hD0 hD1).mono ?_; rintro e w ⟨rfl, rfl⟩)
      go_round
      case rel => exact ⟨i + 1, by omega, by go_num⟩
      case measure => simp [intOf]; omega
    · obtain rfl : i = k := by omega
      clear hi hlt
      go_wp2_with (go_at_call 37; refine (rdig_no _ _ hno).mono ?_; rintro e w ⟨rfl, rfl⟩)
      go_ret2
      exact ⟨by rw [HZ.out]; rfl, rfl⟩

set_option maxRecDepth 100000 in
set_option maxHeartbeats 1600000 in
theorem rpB71_f (s T : ByteArray) (k : Nat) (w : World) (R : Int × Bool) (hk : k ≤ T.size) (hTi : (T.size : Int) ≤ 9223372036854775807) (hp : 0 < s.size) (h45 : (s[0]'hp).toNat ≠ 45) (hT : s = T)
    (HDG : Hid (∀ i (h : i < T.size), i < k → isD (T[i]'h) = true)) (e1 : decide ((k : Int) < 1) = false) (e2 : decide (10 < (k : Int)) = false) (e3 : decide (1 < (k : Int)) = false) (hsz : k < T.size) (hno : ((T[k]'hsz).toNat : Int) < 48 ∨ 57 < ((T[k]'hsz).toNat : Int)) (e5 : (((T[k]'hsz).toNat : Int) != 46) = false) (p : Nat) (rp : (T.size : Int) - (k : Int) - 1 = (p : Int)) (e6 : decide ((p : Int) < 1) = false) (e7 : decide (6 < (p : Int)) = true) (HZ : Hid (R = (0, false))) :
    Calls Tryd.prog 25 #[.string s] w fun e w' => e = .returned (.tuple #[.int .i64 R.1, .bool R.2]) ∧ w' = w := by
  have d0 : (0 : Int) < (s.size : Int) := by omega
  subst hT
  have d45 : (((s[0]'hp).toNat : Int) == 45) = false := by simp; omega
  clear h45
  have hszi : (k : Int) < (s.size : Int) := by omega
  go_enter Tryd.func25, Tryd.ntmps25
  go_wp2
  go_loop [5] (fun a => ∃ i : Nat, i ≤ k ∧ a = .int .i64 i) (fun a => k - (intOf a).toNat)
  case atStart => exact ⟨0, Nat.zero_le _, rfl⟩
  case round =>
    obtain ⟨i, hi, rfl⟩ := hrel
    by_cases hlt : i < k
    · have hin : i < s.size := by omega
      obtain ⟨hD0, hD1⟩ := isD_yes (HDG.out i hin hlt)
      have hii : (i : Int) < (s.size : Int) := by omega
      clear e1 e2 e3 e5 rp e6 e7 HZ hno
      go_wp2_with (go_at_call 37; refine (rdig_yes _ _ hD0 hD1).mono ?_; rintro e w ⟨rfl, rfl⟩)
      go_round
      case rel => exact ⟨i + 1, by omega, by go_num⟩
      case measure => simp [intOf]; omega
    · obtain rfl : i = k := by omega
      clear hi hlt
      go_wp2_with (go_at_call 37; refine (rdig_no _ _ hno).mono ?_; rintro e w ⟨rfl, rfl⟩)
      go_ret2
      exact ⟨by rw [HZ.out]; rfl, rfl⟩

set_option maxRecDepth 100000 in
set_option maxHeartbeats 1600000 in
theorem rpB52_f (s T : ByteArray) (k : Nat) (w : World) (R : Int × Bool) (hk : k ≤ T.size) (hTi : (T.size : Int) ≤ 9223372036854775807) (hp : 0 < s.size) (h45 : (s[0]'hp).toNat ≠ 45) (hT : s = T)
    (HDG : Hid (∀ i (h : i < T.size), i < k → isD (T[i]'h) = true)) (e1 : decide ((k : Int) < 1) = false) (e2 : decide (10 < (k : Int)) = false) (e3 : decide (1 < (k : Int)) = true) (hT0 : 0 < T.size) (e4 : (((T[0]'hT0).toNat : Int) == 48) = false) (hsz : k < T.size) (hno : ((T[k]'hsz).toNat : Int) < 48 ∨ 57 < ((T[k]'hsz).toNat : Int)) (e5 : (((T[k]'hsz).toNat : Int) != 46) = true) (HZ : Hid (R = (0, false))) :
    Calls Tryd.prog 25 #[.string s] w fun e w' => e = .returned (.tuple #[.int .i64 R.1, .bool R.2]) ∧ w' = w := by
  have d0 : (0 : Int) < (s.size : Int) := by omega
  subst hT
  have d45 : (((s[0]'hp).toNat : Int) == 45) = false := by simp; omega
  clear h45
  have hT0i : (0 : Int) < (s.size : Int) := by omega
  have hszi : (k : Int) < (s.size : Int) := by omega
  go_enter Tryd.func25, Tryd.ntmps25
  go_wp2
  go_loop [5] (fun a => ∃ i : Nat, i ≤ k ∧ a = .int .i64 i) (fun a => k - (intOf a).toNat)
  case atStart => exact ⟨0, Nat.zero_le _, rfl⟩
  case round =>
    obtain ⟨i, hi, rfl⟩ := hrel
    by_cases hlt : i < k
    · have hin : i < s.size := by omega
      obtain ⟨hD0, hD1⟩ := isD_yes (HDG.out i hin hlt)
      have hii : (i : Int) < (s.size : Int) := by omega
      clear e1 e2 e3 e4 e5 HZ hno
      go_wp2_with (go_at_call 37; refine (rdig_yes _ _ hD0 hD1).mono ?_; rintro e w ⟨rfl, rfl⟩)
      go_round
      case rel => exact ⟨i + 1, by omega, by go_num⟩
      case measure => simp [intOf]; omega
    · obtain rfl : i = k := by omega
      clear hi hlt
      go_wp2_with (go_at_call 37; refine (rdig_no _ _ hno).mono ?_; rintro e w ⟨rfl, rfl⟩)
      go_ret2
      exact ⟨by rw [HZ.out]; rfl, rfl⟩

set_option maxRecDepth 100000 in
set_option maxHeartbeats 1600000 in
theorem rpB62_f (s T : ByteArray) (k : Nat) (w : World) (R : Int × Bool) (hk : k ≤ T.size) (hTi : (T.size : Int) ≤ 9223372036854775807) (hp : 0 < s.size) (h45 : (s[0]'hp).toNat ≠ 45) (hT : s = T)
    (HDG : Hid (∀ i (h : i < T.size), i < k → isD (T[i]'h) = true)) (e1 : decide ((k : Int) < 1) = false) (e2 : decide (10 < (k : Int)) = false) (e3 : decide (1 < (k : Int)) = true) (hT0 : 0 < T.size) (e4 : (((T[0]'hT0).toNat : Int) == 48) = false) (hsz : k < T.size) (hno : ((T[k]'hsz).toNat : Int) < 48 ∨ 57 < ((T[k]'hsz).toNat : Int)) (e5 : (((T[k]'hsz).toNat : Int) != 46) = false) (p : Nat) (rp : (T.size : Int) - (k : Int) - 1 = (p : Int)) (e6 : decide ((p : Int) < 1) = true) (HZ : Hid (R = (0, false))) :
    Calls Tryd.prog 25 #[.string s] w fun e w' => e = .returned (.tuple #[.int .i64 R.1, .bool R.2]) ∧ w' = w := by
  have d0 : (0 : Int) < (s.size : Int) := by omega
  subst hT
  have d45 : (((s[0]'hp).toNat : Int) == 45) = false := by simp; omega
  clear h45
  have hT0i : (0 : Int) < (s.size : Int) := by omega
  have hszi : (k : Int) < (s.size : Int) := by omega
  go_enter Tryd.func25, Tryd.ntmps25
  go_wp2
  go_loop [5] (fun a => ∃ i : Nat, i ≤ k ∧ a = .int .i64 i) (fun a => k - (intOf a).toNat)
  case atStart => exact ⟨0, Nat.zero_le _, rfl⟩
  case round =>
    obtain ⟨i, hi, rfl⟩ := hrel
    by_cases hlt : i < k
    · have hin : i < s.size := by omega
      obtain ⟨hD0, hD1⟩ := isD_yes (HDG.out i hin hlt)
      have hii : (i : Int) < (s.size : Int) := by omega
      clear e1 e2 e3 e4 e5 rp e6 HZ hno
      go_wp2_with (go_at_call 37; refine (rdig_yes _ _ hD0 hD1).mono ?_; rintro e w ⟨rfl, rfl⟩)
      go_round
      case rel => exact ⟨i + 1, by omega, by go_num⟩
      case measure => simp [intOf]; omega
    · obtain rfl : i = k := by omega
      clear hi hlt
      go_wp2_with (go_at_call 37; refine (rdig_no _ _ hno).mono ?_; rintro e w ⟨rfl, rfl⟩)
      go_ret2
      exact ⟨by rw [HZ.out]; rfl, rfl⟩

set_option maxRecDepth 100000 in
set_option maxHeartbeats 1600000 in
theorem rpB72_f (s T : ByteArray) (k : Nat) (w : World) (R : Int × Bool) (hk : k ≤ T.size) (hTi : (T.size : Int) ≤ 9223372036854775807) (hp : 0 < s.size) (h45 : (s[0]'hp).toNat ≠ 45) (hT : s = T)
    (HDG : Hid (∀ i (h : i < T.size), i < k → isD (T[i]'h) = true)) (e1 : decide ((k : Int) < 1) = false) (e2 : decide (10 < (k : Int)) = false) (e3 : decide (1 < (k : Int)) = true) (hT0 : 0 < T.size) (e4 : (((T[0]'hT0).toNat : Int) == 48) = false) (hsz : k < T.size) (hno : ((T[k]'hsz).toNat : Int) < 48 ∨ 57 < ((T[k]'hsz).toNat : Int)) (e5 : (((T[k]'hsz).toNat : Int) != 46) = false) (p : Nat) (rp : (T.size : Int) - (k : Int) - 1 = (p : Int)) (e6 : decide ((p : Int) < 1) = false) (e7 : decide (6 < (p : Int)) = true) (HZ : Hid (R = (0, false))) :
    Calls Tryd.prog 25 #[.string s] w fun e w' => e = .returned (.tuple #[.int .i64 R.1, .bool R.2]) ∧ w' = w := by
  have d0 : (0 : Int) < (s.size : Int) := by omega
  subst hT
  have d45 : (((s[0]'hp).toNat : Int) == 45) = false := by simp; omega
  clear h45
  have hT0i : (0 : Int) < (s.size : Int) := by omega
  have hszi : (k : Int) < (s.size : Int) := by omega
  go_enter Tryd.func25, Tryd.ntmps25
  go_wp2
  go_loop [5] (fun a => ∃ i : Nat, i ≤ k ∧ a = .int .i64 i) (fun a => k - (intOf a).toNat)
  case atStart => exact ⟨0, Nat.zero_le _, rfl⟩
  case round =>
    obtain ⟨i, hi, rfl⟩ := hrel
    by_cases hlt : i < k
    · have hin : i < s.size := by omega
      obtain ⟨hD0, hD1⟩ := isD_yes (HDG.out i hin hlt)
      have hii : (i : Int) < (s.size : Int) := by omega
      clear e1 e2 e3 e4 e5 rp e6 e7 HZ hno
      go_wp2_with (go_at_call 37; refine (rdig_yes _ _ hD0 hD1).mono ?_; rintro e w ⟨rfl, rfl⟩)
      go_round
      case rel => exact ⟨i + 1, by omega, by go_num⟩
      case measure => simp [intOf]; omega
    · obtain rfl : i = k := by omega
      clear hi hlt
      go_wp2_with (go_at_call 37; refine (rdig_no _ _ hno).mono ?_; rintro e w ⟨rfl, rfl⟩)
      go_ret2
      exact ⟨by rw [HZ.out]; rfl, rfl⟩
end Go.Proofs.YtehpnhmghfpjpaaDoor
