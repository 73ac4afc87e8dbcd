/- texts put together: Plain RatioPlain Base DivPlain Div64 Div64W Ratio MulDiv RatioMath RefRatio RefMulDiv -/
import Derived.WalkKit
import Derived.Test.YtddbiiejilcbbaaGreatDoorChecked
import Derived.WalkSpells
import Derived.WalkLawsBesides
import Derived.Test.YtddbiiejilcbbaaGreatDoorShelf
import Derived.Laws.Bits64b
import Derived.Deep.QuietTactic
import Derived.BigQuiet
namespace Go.Proofs.YtddbiiejilcbbaaGreatDoor
open Go Go.RowKit

/-- A number within its limits. -/
def clampI (a : Int) : Int := if 1000000000000000 < a then 1000000000000000 else if a < -1000000000000000 then -1000000000000000 else a

theorem clampI_le (a : Int) : clampI a ≤ 1000000000000000 := by unfold clampI; split <;> (try split) <;> omega
theorem clampI_ge (a : Int) : -1000000000000000 ≤ clampI a := by unfold clampI; split <;> (try split) <;> omega
theorem clampI_in {a : Int} (h1 : -1000000000000000 ≤ a) (h2 : a ≤ 1000000000000000) : clampI a = a := by unfold clampI; rw [if_neg (by omega), if_neg (by omega)]
theorem clampI_hi {a : Int} (h : 1000000000000000 < a) : clampI a = 1000000000000000 := by unfold clampI; rw [if_pos h]
theorem clampI_lo {a : Int} (h : a < -1000000000000000) : clampI a = -1000000000000000 := by unfold clampI; rw [if_neg (by omega), if_pos h]
end Go.Proofs.YtddbiiejilcbbaaGreatDoor
namespace Go.Proofs.YtddbiiejilcbbaaGreatDoor

/-- Is a rest nearer to the next number, or halfway with an odd one? -/
def upB (n r c : Nat) : Bool := decide (c - r < r) || (decide (r = c - r) && decide (n % 2 = 1))
/-- a b / c, rounded, at most 10^15. -/
def ratN (a b c : Nat) : Nat := if 1000000000000000 ≤ a * b / c then 1000000000000000 else if upB (a * b / c) (a * b % c) c then a * b / c + 1 else a * b / c
/-- Has the quotient another sign? -/
def sgnB (a b c : Int) : Bool := (decide (a < 0) != decide (b < 0)) != decide (c < 0)
def ratI (a b c : Int) : Int := if sgnB a b c then -(ratN a.natAbs b.natAbs c.natAbs : Int) else (ratN a.natAbs b.natAbs c.natAbs : Int)

theorem ratN_le (a b c : Nat) : ratN a b c ≤ 1000000000000000 := by unfold ratN; split <;> (try split) <;> omega
def mulI (a b : Int) : Int := ratI (clampI a) (clampI b) 1000000
def divI (a b : Int) : Int := if b = 0 then 0 else ratI (clampI a) 1000000 (clampI b)
theorem clampI_ne {b : Int} (h : b ≠ 0) : clampI b ≠ 0 := by unfold clampI; split <;> (try split) <;> omega
end Go.Proofs.YtddbiiejilcbbaaGreatDoor
namespace Go.Proofs.YtddbiiejilcbbaaGreatDoor
open Go.RowKit

theorem ret_int {k : IntKind} {a b : Int} (h : a = b) : Ending.returned (.int k a) = .returned (.int k b) := by rw [h]

set_option maxHeartbeats 400000 in
theorem clamp_any (a : Int) (w : World) :
    Calls Tryz.prog 116 #[.int .i64 a] w fun e w' => e = .returned (.int .i64 (clampI a)) ∧ w' = w := by
  by_cases h1 : 1000000000000000 < a
  · go_enter Tryz.func116, Tryz.ntmps116
    go_wp2
    go_ret
    exact ⟨ret_int (clampI_hi h1).symm, rfl⟩
  · by_cases h2 : a < -1000000000000000
    · go_enter Tryz.func116, Tryz.ntmps116
      go_wp2
      go_ret
      exact ⟨ret_int (clampI_lo h2).symm, rfl⟩
    · go_enter Tryz.func116, Tryz.ntmps116
      go_wp2
      go_ret
      exact ⟨ret_int (clampI_in (by omega) (by omega)).symm, rfl⟩

set_option maxHeartbeats 400000 in
theorem rclamp_any (a : Int) (w : World) :
    Calls Tryz.prog 51 #[.int .i64 a] w fun e w' => e = .returned (.int .i64 (clampI a)) ∧ w' = w := by
  by_cases h1 : 1000000000000000 < a
  · go_enter Tryz.func51, Tryz.ntmps51
    go_wp2
    go_ret
    exact ⟨ret_int (clampI_hi h1).symm, rfl⟩
  · by_cases h2 : a < -1000000000000000
    · go_enter Tryz.func51, Tryz.ntmps51
      go_wp2
      go_ret
      exact ⟨ret_int (clampI_lo h2).symm, rfl⟩
    · go_enter Tryz.func51, Tryz.ntmps51
      go_wp2
      go_ret
      exact ⟨ret_int (clampI_in (by omega) (by omega)).symm, rfl⟩

set_option maxHeartbeats 400000 in
theorem add_any (a b : Int) (w : World) :
    Calls Tryz.prog 150 #[.int .i64 a, .int .i64 b] w fun e w' => e = .returned (.int .i64 (clampI (clampI a + clampI b))) ∧ w' = w := by
  have l0 := clampI_le a
  have g0 := clampI_ge a
  have l1 := clampI_le b
  have g1 := clampI_ge b
  go_enter Tryz.func150, Tryz.ntmps150
  go_wp2_with (go_at_call 116; refine (clamp_any _ _).mono ?_; rintro e w' ⟨rfl, rfl⟩)
  go_ret
  exact ⟨rfl, rfl⟩

set_option maxHeartbeats 400000 in
theorem sub_any (a b : Int) (w : World) :
    Calls Tryz.prog 151 #[.int .i64 a, .int .i64 b] w fun e w' => e = .returned (.int .i64 (clampI (clampI a - clampI b))) ∧ w' = w := by
  have l0 := clampI_le a
  have g0 := clampI_ge a
  have l1 := clampI_le b
  have g1 := clampI_ge b
  go_enter Tryz.func151, Tryz.ntmps151
  go_wp2_with (go_at_call 116; refine (clamp_any _ _).mono ?_; rintro e w' ⟨rfl, rfl⟩)
  go_ret
  exact ⟨rfl, rfl⟩

set_option maxHeartbeats 400000 in
theorem radd_any (a b : Int) (w : World) :
    Calls Tryz.prog 92 #[.int .i64 a, .int .i64 b] w fun e w' => e = .returned (.int .i64 (clampI (clampI a + clampI b))) ∧ w' = w := by
  have l0 := clampI_le a
  have g0 := clampI_ge a
  have l1 := clampI_le b
  have g1 := clampI_ge b
  go_enter Tryz.func92, Tryz.ntmps92
  go_wp2_with (go_at_call 51; refine (rclamp_any _ _).mono ?_; rintro e w' ⟨rfl, rfl⟩)
  go_ret
  exact ⟨rfl, rfl⟩

set_option maxHeartbeats 400000 in
theorem neg_any (a : Int) (w : World) :
    Calls Tryz.prog 115 #[.int .i64 a] w fun e w' => e = .returned (.int .i64 (- clampI a)) ∧ w' = w := by
  have l0 := clampI_le a
  have g0 := clampI_ge a
  go_enter Tryz.func115, Tryz.ntmps115
  go_wp2_with (go_at_call 116; refine (clamp_any _ _).mono ?_; rintro e w' ⟨rfl, rfl⟩)
  go_ret
  exact ⟨rfl, rfl⟩

set_option maxHeartbeats 400000 in
theorem rneg_any (a : Int) (w : World) :
    Calls Tryz.prog 50 #[.int .i64 a] w fun e w' => e = .returned (.int .i64 (- clampI a)) ∧ w' = w := by
  have l0 := clampI_le a
  have g0 := clampI_ge a
  go_enter Tryz.func50, Tryz.ntmps50
  go_wp2_with (go_at_call 51; refine (rclamp_any _ _).mono ?_; rintro e w' ⟨rfl, rfl⟩)
  go_ret
  exact ⟨rfl, rfl⟩

set_option maxHeartbeats 400000 in
theorem whole_any (a : Int) (w : World) :
    Calls Tryz.prog 153 #[.int .i64 a] w fun e w' => e = .returned (.int .i64 ((clampI a).tdiv 1000000)) ∧ w' = w := by
  have l0 := clampI_le a
  have g0 := clampI_ge a
  go_enter Tryz.func153, Tryz.ntmps153
  go_wp2_with (go_at_call 116; refine (clamp_any _ _).mono ?_; rintro e w' ⟨rfl, rfl⟩)
  go_ret
  exact ⟨rfl, rfl⟩

set_option maxHeartbeats 400000 in
theorem rwhole_any (a : Int) (w : World) :
    Calls Tryz.prog 96 #[.int .i64 a] w fun e w' => e = .returned (.int .i64 ((clampI a).tdiv 1000000)) ∧ w' = w := by
  have l0 := clampI_le a
  have g0 := clampI_ge a
  go_enter Tryz.func96, Tryz.ntmps96
  go_wp2_with (go_at_call 51; refine (rclamp_any _ _).mono ?_; rintro e w' ⟨rfl, rfl⟩)
  go_ret
  exact ⟨rfl, rfl⟩

set_option maxHeartbeats 400000 in
theorem rsub_any (a b : Int) (w : World) :
    Calls Tryz.prog 93 #[.int .i64 a, .int .i64 b] w fun e w' => e = .returned (.int .i64 (clampI (clampI a - clampI b))) ∧ w' = w := by
  have l0 := clampI_le a
  have g0 := clampI_ge a
  have l1 := clampI_le b
  have g1 := clampI_ge b
  go_enter Tryz.func93, Tryz.ntmps93
  go_wp2_with (first | (go_at_call 50; refine (rneg_any _ _).mono ?_; rintro e w' ⟨rfl, rfl⟩) | (go_at_call 92; refine (radd_any _ _ _).mono ?_; rintro e w' ⟨rfl, rfl⟩))
  go_ret
  exact ⟨ret_int (by rw [clampI_in (a := - clampI b) (by omega) (by omega)]; rfl), rfl⟩

end Go.Proofs.YtddbiiejilcbbaaGreatDoor
namespace Go.Proofs.YtddbiiejilcbbaaGreatDoor

section
variable {Y y1 y0 u v q r : Nat}

theorem kn_expand (hY : Y = y1 * 4294967296 + y0) (q : Nat) : q * Y = (q * y1) * 4294967296 + q * y0 := by
  rw [hY, Nat.mul_add, Nat.mul_assoc]

theorem kn_Q_lt (hu : u < Y) (hv : v < 4294967296) : (u * 4294967296 + v) / Y < 4294967296 := by
  rw [Nat.div_lt_iff_lt_mul (by omega)]
  have : (u + 1) * 4294967296 ≤ Y * 4294967296 := Nat.mul_le_mul_right _ hu
  omega

/-- The first guess is not too small. -/
theorem kn_start (hY : Y = y1 * 4294967296 + y0) (h1 : 0 < y1) : (u * 4294967296 + v) / Y ≤ u / y1 ∨ v ≥ 4294967296 := by
  by_cases hv : v < 4294967296
  · left
    have h2 : (u * 4294967296 + v) / Y ≤ (u * 4294967296 + v) / (y1 * 4294967296) := Nat.div_le_div_left (by omega) (by omega)
    have h3 : (u * 4294967296 + v) / (y1 * 4294967296) = u / y1 := by
      rw [Nat.mul_comm y1, ← Nat.div_div_eq_div_mul]
      congr 1
      omega
    omega
  · right; omega

theorem kn_big (hu : u < Y) (hv : v < 4294967296) (hq : 4294967296 ≤ q) : (u * 4294967296 + v) / Y ≤ q - 1 := by
  have := kn_Q_lt hu hv; omega

theorem kn_more (hY : Y = y1 * 4294967296 + y0) (hu : u < Y) (he : q * y1 + r = u) (hc : 4294967296 * r + v < q * y0) : (u * 4294967296 + v) / Y ≤ q - 1 ∧ 1 ≤ q := by
  have hq : 1 ≤ q := by
    rcases Nat.eq_zero_or_pos q with h | h
    · subst h; simp at hc
    · exact h
  refine ⟨?_, hq⟩
  have e := kn_expand hY q
  have : (u * 4294967296 + v) / Y < q := by
    rw [Nat.div_lt_iff_lt_mul (by omega), e]
    generalize q * y1 = P at *
    generalize q * y0 = S at *
    omega
  omega

theorem kn_done (hY : Y = y1 * 4294967296 + y0) (hu : u < Y) (he : q * y1 + r = u) (hQ : (u * 4294967296 + v) / Y ≤ q) (hc : q * y0 ≤ 4294967296 * r + v) : q = (u * 4294967296 + v) / Y := by
  refine Nat.le_antisymm ?_ hQ
  rw [Nat.le_div_iff_mul_le (by omega), kn_expand hY q]
  generalize q * y1 = P at *
  generalize q * y0 = S at *
  omega

theorem kn_break (hY : Y = y1 * 4294967296 + y0) (h0 : y0 < 4294967296) (hu : u < Y) (he : q * y1 + r = u) (hQ : (u * 4294967296 + v) / Y ≤ q) (hr : 4294967296 ≤ r) : q = (u * 4294967296 + v) / Y := by
  have hq : q < 4294967296 := by
    have : q * y1 < 4294967296 * y1 := by
      rw [Nat.mul_comm 4294967296]
      generalize q * y1 = P at *
      omega
    exact Nat.lt_of_mul_lt_mul_right this
  have hS : q * y0 ≤ 4294967295 * 4294967295 := Nat.mul_le_mul (by omega) (by omega)
  refine Nat.le_antisymm ?_ hQ
  rw [Nat.le_div_iff_mul_le (by omega), kn_expand hY q]
  generalize q * y1 = P at *
  generalize q * y0 = S at *
  omega

/-- The two digits together. -/
theorem kn_join {Y u u1 u0 Q1 R1 Q0 R0 : Nat} (e1 : Q1 * Y + R1 = u * 4294967296 + u1) (e0 : Q0 * Y + R0 = R1 * 4294967296 + u0) :
    (Q1 * 4294967296 + Q0) * Y + R0 = (u * 4294967296 + u1) * 4294967296 + u0 := by
  rw [Nat.add_mul, Nat.mul_right_comm]
  generalize Q1 * Y = A at *
  generalize Q0 * Y = B at *
  omega

/-- What was shifted is shifted back. -/
theorem kn_back {n y s Q R : Nat} (h : Q * (y * 2 ^ s) + R = n * 2 ^ s) (hR : R < y * 2 ^ s) : Q = n / y ∧ R / 2 ^ s = n % y := by
  have hp : 0 < 2 ^ s := Nat.two_pow_pos s
  have hd : 2 ^ s ∣ R := by
    have h1 : 2 ^ s ∣ n * 2 ^ s := Nat.dvd_mul_left _ _
    have h2 : 2 ^ s ∣ Q * (y * 2 ^ s) := Nat.dvd_trans (Nat.dvd_mul_left _ y) (Nat.dvd_mul_left _ Q)
    rw [← h] at h1
    exact (Nat.dvd_add_right h2).1 h1
  obtain ⟨k, hk⟩ := hd
  subst hk
  have h3 : Q * y + k = n := by
    have : (Q * y + k) * 2 ^ s = n * 2 ^ s := by rw [← h, Nat.add_mul, Nat.mul_assoc, Nat.mul_comm k]
    exact Nat.eq_of_mul_eq_mul_right hp this
  have h4 : k < y := by
    rw [Nat.mul_comm] at hR
    exact Nat.lt_of_mul_lt_mul_right hR
  rw [Nat.mul_div_cancel_left _ hp]
  subst h3
  constructor
  · rw [Nat.mul_comm, Nat.mul_add_div (by omega), Nat.div_eq_of_lt h4]; rfl
  · rw [Nat.mul_comm, Nat.mul_add_mod, Nat.mod_eq_of_lt h4]
end
end Go.Proofs.YtddbiiejilcbbaaGreatDoor
namespace Go.Proofs.YtddbiiejilcbbaaGreatDoor
open Go.RowKit

theorem wrapN (a : Nat) : IntKind.u64.wrap (a : Int) = ((a % 18446744073709551616 : Nat) : Int) := by rw [IntKind.wrap_u64]; omega
theorem wrapMul (a b : Nat) : IntKind.u64.wrap ((a : Int) * (b : Int)) = ((a * b % 18446744073709551616 : Nat) : Int) := by rw [← Int.natCast_mul]; exact wrapN _
theorem wrapMulK (a : Nat) : IntKind.u64.wrap ((a : Int) * 4294967296) = ((a * 4294967296 % 18446744073709551616 : Nat) : Int) := wrapMul a 4294967296

theorem mod_calc {T R u v : Nat} (h : T + R = u * 4294967296 + v) (hR : R < 18446744073709551616) :
    IntKind.u64.wrap ((((u * 4294967296 % 18446744073709551616 + v) % 18446744073709551616 : Nat) : Int) - ((T % 18446744073709551616 : Nat) : Int)) = (R : Int) := by
  rw [IntKind.wrap_u64]
  omega

/-- The rest behind a digit, as the walk reckons it: modulo 2^64. -/
theorem rest_rules {Y u v Q : Nat} (hYb : Y ≤ 18446744073709551616) (hY0 : 0 < Y) (hQ : Q = (u * 4294967296 + v) / Y) :
    ∃ A B C R : Nat, IntKind.u64.wrap ((u : Int) * 4294967296) = (A : Int) ∧ IntKind.u64.wrap ((A : Int) + (v : Int)) = (B : Int) ∧ IntKind.u64.wrap ((Q : Int) * (Y : Int)) = (C : Int) ∧
      IntKind.u64.wrap ((B : Int) - (C : Int)) = (R : Int) ∧ R < Y ∧ Q * Y + R = u * 4294967296 + v := by
  have h1 : Q * Y + (u * 4294967296 + v) % Y = u * 4294967296 + v := hQ ▸ Nat.div_add_mod' (u * 4294967296 + v) Y
  have h2 := Nat.mod_lt (u * 4294967296 + v) (show Y > 0 from hY0)
  refine ⟨_, ((u * 4294967296 % 18446744073709551616 + v) % 18446744073709551616), _, (u * 4294967296 + v) % Y, wrapMulK u, ?_, wrapMul Q Y, mod_calc h1 (Nat.lt_of_lt_of_le h2 hYb), h2, h1⟩
  rw [← Int.natCast_add]; exact wrapN _

/-- The first guess of a digit. -/
theorem guess_rules {Y y1 y0 u : Nat} (hY : Y = y1 * 4294967296 + y0) (h1 : 0 < y1) (hy1 : y1 < 4294967296) (hub : u < 18446744073709551616) :
    ∃ q p r : Nat, (u : Int) / (y1 : Int) = (q : Int) ∧ IntKind.u64.wrap (q : Int) = (q : Int) ∧ IntKind.u64.wrap ((q : Int) * (y1 : Int)) = (p : Int) ∧ (u : Int) - (p : Int) = (r : Int) ∧ p ≤ u ∧ r < 4294967296 ∧
      (q * y1 + r = u) ∧ ∀ v, v < 4294967296 → (u * 4294967296 + v) / Y ≤ q := by
  have dm := Nat.div_add_mod' u y1
  have dl := Nat.mod_lt u (show y1 > 0 by omega)
  have dq := Nat.div_le_self u y1
  have ds : ∀ v, v < 4294967296 → (u * 4294967296 + v) / Y ≤ u / y1 := fun v hv => (kn_start hY h1).resolve_right (by omega)
  have de := (Int.natCast_ediv u y1).symm
  generalize u / y1 = q at *
  generalize u % y1 = r at *
  refine ⟨q, q * y1, r, de, IntWalk.u64_in _ ⟨by omega, by omega⟩, ?_, by omega, by omega, by omega, dm, ds⟩
  rw [← Int.natCast_mul]
  generalize q * y1 = p at *
  exact IntWalk.u64_in _ ⟨by omega, by omega⟩

/-- What the division leaves: two digits, and the rest, shifted back. -/
def DivOk (Y u u1 u0 s : Nat) (w : World) (e : Ending) (w' : World) : Prop :=
  ∃ Q1 R1 Q0 R0 : Nat, Q1 < 4294967296 ∧ Q0 < 4294967296 ∧ Q1 * Y + R1 = u * 4294967296 + u1 ∧ Q0 * Y + R0 = R1 * 4294967296 + u0 ∧ R0 < Y ∧
      e = .returned (.tuple #[.int .u64 ((Q1 : Int) * 4294967296 + (Q0 : Int)), .int .u64 ((R0 : Int) / 2 ^ s)]) ∧ w' = w

set_option maxRecDepth 100000 in
set_option maxHeartbeats 3200000 in
theorem div64_core (hi lo y s Y y1 y0 u L u1 u0 : Nat) (w : World) (h1 : hi < y) (h0 : 0 < hi) (hs : s ≤ 63)
    (hlz : ∀ w : World, Calls Tryz.prog 255 #[.int .u64 y] w fun e w' => e = .returned (.int .i64 s) ∧ w' = w)
    (rY : IntKind.u64.wrap ((y : Int) * 2 ^ s) = (Y : Int)) (rY0 : bits .and .u64 (Y : Int) 4294967295 = (y0 : Int)) (rY1 : (Y : Int) / 4294967296 = (y1 : Int))
    (rU : bits .or .u64 (IntKind.u64.wrap ((hi : Int) * 2 ^ s)) ((lo : Int) / 2 ^ (64 - s)) = (u : Int))
    (rL : IntKind.u64.wrap ((lo : Int) * 2 ^ s) = (L : Int)) (rL0 : bits .and .u64 (L : Int) 4294967295 = (u0 : Int)) (rL1 : (L : Int) / 4294967296 = (u1 : Int))
    (hY : Y = y1 * 4294967296 + y0) (hy1 : 2147483648 ≤ y1) (hy1' : y1 < 4294967296) (hy0 : y0 < 4294967296) (hu : u < Y) (hu1 : u1 < 4294967296) (hu0 : u0 < 4294967296) :
    Calls Tryz.prog 226 #[.int .u64 hi, .int .u64 lo, .int .u64 y] w fun e w' => DivOk Y u u1 u0 s w e w' := by
  have e1 : ((y : Int) == 0) = false := by simp; omega
  have e2 : ((hi : Int) == 0) = false := by simp; omega
  have e4 : ((y1 : Int) == 0) = false := by simp; omega
  have e3 : ¬ ((y : Int) ≤ (hi : Int)) := by omega
  have HL : Hid (∀ w : World, Calls Tryz.prog 255 #[.int .u64 y] w fun e w' => e = .returned (.int .i64 s) ∧ w' = w) := hlz
  have HY : Hid (Y = y1 * 4294967296 + y0) := hY
  have bY : Y ≤ 18446744073709551615 := by omega
  obtain ⟨q, p, r, rq, rwq, rp, rr, rpu, rrl, heq, hQs⟩ := guess_rules (u := u) hY (by omega) hy1' (by omega)
  have HS : Hid (q * y1 + r = u ∧ (u * 4294967296 + u1) / Y ≤ q) := ⟨heq, hQs u1 hu1⟩
  clear hlz hY heq hQs
  go_enter Tryz.func226, Tryz.ntmps226
  go_wp2_with (go_at_call 255; refine (HL.out _).mono ?_; rintro e w ⟨rfl, rfl⟩)
  go_loop [15, 16] (fun a b => ∃ q r : Nat, a = .int .u64 q ∧ b = .int .u64 r ∧ q * y1 + r = u ∧ (u * 4294967296 + u1) / Y ≤ q ∧ r < 4294967296) (fun a _ => (intOf a).toNat)
  case atStart => exact ⟨q, r, rfl, rfl, HS.out.1, HS.out.2, rrl⟩
  case round =>
    obtain ⟨q1, r1, rfl, rfl, he, hQ, hr⟩ := hrel
    clear rq rwq rp rr rpu rrl HS
    by_cases c1 : 4294967296 ≤ q1
    · have hqq := kn_big (u := u) (v := u1) hu hu1 c1
      have d1 : decide ((4294967296 : Int) ≤ (q1 : Int)) = true := by simp; omega
      obtain ⟨Q1, rz, hz⟩ : ∃ Q : Nat, (q1 : Int) - 1 = (Q : Int) ∧ q1 = Q + 1 := ⟨q1 - 1, by omega, by omega⟩
      obtain ⟨R1x, rn, hn⟩ : ∃ R : Nat, (r1 : Int) + (y1 : Int) = (R : Int) ∧ R = r1 + y1 := ⟨r1 + y1, by omega, rfl⟩
      have hee : Q1 * y1 + R1x = u := by rw [hz, Nat.add_mul] at he; omega
      have hQQ : (u * 4294967296 + u1) / Y ≤ Q1 := by omega
      have bqu : q1 ≤ q1 * y1 := Nat.le_mul_of_pos_right _ (by omega)
      have rzw : IntKind.u64.wrap (Q1 : Int) = (Q1 : Int) := IntWalk.u64_in _ ⟨by omega, by omega⟩
      have rnw : IntKind.u64.wrap (R1x : Int) = (R1x : Int) := IntWalk.u64_in _ ⟨by omega, by omega⟩
      have bR : (r1 : Int) < 4294967296 := by omega
      have bq : (1 : Int) ≤ (q1 : Int) := by omega
      have ML : Hid (Q1 < q1) := by show Q1 < q1; omega
      clear hz hn he hQ hr bqu hqq c1
      by_cases c3 : 4294967296 ≤ R1x
      · have d3 : decide ((4294967296 : Int) ≤ (R1x : Int)) = true := by simp; omega
        have hQe := kn_break HY.out hy0 hu hee hQQ c3
        clear hee hQQ c3
        have bq1 : Q1 < 4294967296 := by rw [hQe]; exact kn_Q_lt hu hu1
        obtain ⟨A, B, C, R1, rA, rB, rC, rD, hR1, hR1e⟩ := rest_rules (v := u1) (u := u) (Q := Q1) (by omega) (by omega) hQe
        obtain ⟨q', p', r', rq, rwq, rp, rr, rpu, rrl, heq', hQs⟩ := guess_rules (u := R1) HY.out (by omega) hy1' (by omega)
        have HS : Hid (q' * y1 + r' = R1 ∧ (R1 * 4294967296 + u0) / Y ≤ q') := ⟨heq', hQs u0 hu0⟩
        have HE : Hid (Q1 * Y + R1 = u * 4294967296 + u1) := hR1e
        clear heq' hQs hR1e hQe
        go_wp2
        go_loop [18, 16] (fun a b => ∃ q r : Nat, a = .int .u64 q ∧ b = .int .u64 r ∧ q * y1 + r = R1 ∧ (R1 * 4294967296 + u0) / Y ≤ q ∧ r < 4294967296) (fun a _ => (intOf a).toNat)
        case atStart => exact ⟨q', r', rfl, rfl, HS.out.1, HS.out.2, rrl⟩
        case round =>
          obtain ⟨q2, r2, rfl, rfl, he, hQ, hr⟩ := hrel
          clear rq rwq rp rr rpu rrl HS rA rB rC rD
          by_cases c1 : 4294967296 ≤ q2
          · have hqq := kn_big (u := R1) (v := u0) hR1 hu0 c1
            have d1 : decide ((4294967296 : Int) ≤ (q2 : Int)) = true := by simp; omega
            obtain ⟨Q2, rz, hz⟩ : ∃ Q : Nat, (q2 : Int) - 1 = (Q : Int) ∧ q2 = Q + 1 := ⟨q2 - 1, by omega, by omega⟩
            obtain ⟨R2x, rn, hn⟩ : ∃ R : Nat, (r2 : Int) + (y1 : Int) = (R : Int) ∧ R = r2 + y1 := ⟨r2 + y1, by omega, rfl⟩
            have hee : Q2 * y1 + R2x = R1 := by rw [hz, Nat.add_mul] at he; omega
            have hQQ : (R1 * 4294967296 + u0) / Y ≤ Q2 := by omega
            have bqu : q2 ≤ q2 * y1 := Nat.le_mul_of_pos_right _ (by omega)
            have rzw : IntKind.u64.wrap (Q2 : Int) = (Q2 : Int) := IntWalk.u64_in _ ⟨by omega, by omega⟩
            have rnw : IntKind.u64.wrap (R2x : Int) = (R2x : Int) := IntWalk.u64_in _ ⟨by omega, by omega⟩
            have bR : (r2 : Int) < 4294967296 := by omega
            have bq : (1 : Int) ≤ (q2 : Int) := by omega
            have ML : Hid (Q2 < q2) := by show Q2 < q2; omega
            clear hz hn he hQ hr bqu hqq c1
            by_cases c3 : 4294967296 ≤ R2x
            · have d3 : decide ((4294967296 : Int) ≤ (R2x : Int)) = true := by simp; omega
              have hQe := kn_break HY.out hy0 hR1 hee hQQ c3
              clear hee hQQ c3
              have bq2 : Q2 < 4294967296 := by rw [hQe]; exact kn_Q_lt hR1 hu0
              obtain ⟨A2, B2, C2, R0, rA2, rB2, rC2, rD2, hR0, hR0e⟩ := rest_rules (v := u0) (u := R1) (Q := Q2) (by omega) (by omega) hQe
              have HF : Hid (Q2 * Y + R0 = R1 * 4294967296 + u0) := hR0e
              clear hR0e hQe
              go_wp2
              go_ret2
              exact ⟨Q1, R1, Q2, R0, bq1, bq2, HE.out, HF.out, hR0, rfl, rfl⟩
            · have d3 : decide ((4294967296 : Int) ≤ (R2x : Int)) = false := by simp; omega
              have HR : Hid (Q2 * y1 + R2x = R1 ∧ (R1 * 4294967296 + u0) / Y ≤ Q2 ∧ R2x < 4294967296) := ⟨hee, hQQ, by omega⟩
              clear hee hQQ c3
              go_wp2
              go_round
              case rel => exact ⟨Q2, R2x, rfl, rfl, HR.out.1, HR.out.2.1, HR.out.2.2⟩
              case measure => have := ML.out; simp [intOf]; omega
          · have bS : q2 * y0 ≤ 4294967295 * 4294967295 := Nat.mul_le_mul (by omega) (by omega)
            obtain ⟨S, hS⟩ : ∃ S, S = q2 * y0 := ⟨_, rfl⟩
            have rS : IntKind.u64.wrap ((q2 : Int) * (y0 : Int)) = (S : Int) := by rw [← Int.natCast_mul, ← hS]; exact IntWalk.u64_in _ ⟨by omega, by omega⟩
            obtain ⟨KR, rK⟩ : ∃ KR : Nat, (4294967296 : Int) * (r2 : Int) = (KR : Int) := ⟨4294967296 * r2, by simp⟩
            have bK : (KR : Int) ≤ 18446744069414584320 := by omega
            have d1 : decide ((4294967296 : Int) ≤ (q2 : Int)) = false := by simp; omega
            by_cases c2 : 4294967296 * r2 + u0 < q2 * y0
            · obtain ⟨hqq, hq1⟩ := kn_more HY.out hR1 he c2
              have d2 : decide ((KR : Int) + (u0 : Int) < (S : Int)) = true := by simp; omega
              obtain ⟨Q2, rz, hz⟩ : ∃ Q : Nat, (q2 : Int) - 1 = (Q : Int) ∧ q2 = Q + 1 := ⟨q2 - 1, by omega, by omega⟩
              obtain ⟨R2x, rn, hn⟩ : ∃ R : Nat, (r2 : Int) + (y1 : Int) = (R : Int) ∧ R = r2 + y1 := ⟨r2 + y1, by omega, rfl⟩
              have hee : Q2 * y1 + R2x = R1 := by rw [hz, Nat.add_mul] at he; omega
              have hQQ : (R1 * 4294967296 + u0) / Y ≤ Q2 := by omega
              have bqu : q2 ≤ q2 * y1 := Nat.le_mul_of_pos_right _ (by omega)
              have rzw : IntKind.u64.wrap (Q2 : Int) = (Q2 : Int) := IntWalk.u64_in _ ⟨by omega, by omega⟩
              have rnw : IntKind.u64.wrap (R2x : Int) = (R2x : Int) := IntWalk.u64_in _ ⟨by omega, by omega⟩
              have bR : (r2 : Int) < 4294967296 := by omega
              have bq : (1 : Int) ≤ (q2 : Int) := by omega
              have ML : Hid (Q2 < q2) := by show Q2 < q2; omega
              clear hz hn he hQ hr bqu hqq hq1 c1 c2 hS bS
              by_cases c3 : 4294967296 ≤ R2x
              · have d3 : decide ((4294967296 : Int) ≤ (R2x : Int)) = true := by simp; omega
                have hQe := kn_break HY.out hy0 hR1 hee hQQ c3
                clear hee hQQ c3
                have bq2 : Q2 < 4294967296 := by rw [hQe]; exact kn_Q_lt hR1 hu0
                obtain ⟨A2, B2, C2, R0, rA2, rB2, rC2, rD2, hR0, hR0e⟩ := rest_rules (v := u0) (u := R1) (Q := Q2) (by omega) (by omega) hQe
                have HF : Hid (Q2 * Y + R0 = R1 * 4294967296 + u0) := hR0e
                clear hR0e hQe
                go_wp2
                go_ret2
                exact ⟨Q1, R1, Q2, R0, bq1, bq2, HE.out, HF.out, hR0, rfl, rfl⟩
              · have d3 : decide ((4294967296 : Int) ≤ (R2x : Int)) = false := by simp; omega
                have HR : Hid (Q2 * y1 + R2x = R1 ∧ (R1 * 4294967296 + u0) / Y ≤ Q2 ∧ R2x < 4294967296) := ⟨hee, hQQ, by omega⟩
                clear hee hQQ c3
                go_wp2
                go_round
                case rel => exact ⟨Q2, R2x, rfl, rfl, HR.out.1, HR.out.2.1, HR.out.2.2⟩
                case measure => have := ML.out; simp [intOf]; omega
            · have d2 : decide ((KR : Int) + (u0 : Int) < (S : Int)) = false := by simp; omega
              have hQe := kn_done HY.out hR1 he hQ (by omega)
              have bR : (r2 : Int) < 4294967296 := by omega
              clear he hQ hr c1 c2 hS bS
              have bq2 : q2 < 4294967296 := by rw [hQe]; exact kn_Q_lt hR1 hu0
              obtain ⟨A2, B2, C2, R0, rA2, rB2, rC2, rD2, hR0, hR0e⟩ := rest_rules (v := u0) (u := R1) (Q := q2) (by omega) (by omega) hQe
              have HF : Hid (q2 * Y + R0 = R1 * 4294967296 + u0) := hR0e
              clear hR0e hQe
              go_wp2
              go_ret2
              exact ⟨Q1, R1, q2, R0, bq1, bq2, HE.out, HF.out, hR0, rfl, rfl⟩
      · have d3 : decide ((4294967296 : Int) ≤ (R1x : Int)) = false := by simp; omega
        have HR : Hid (Q1 * y1 + R1x = u ∧ (u * 4294967296 + u1) / Y ≤ Q1 ∧ R1x < 4294967296) := ⟨hee, hQQ, by omega⟩
        clear hee hQQ c3
        go_wp2
        go_round
        case rel => exact ⟨Q1, R1x, rfl, rfl, HR.out.1, HR.out.2.1, HR.out.2.2⟩
        case measure => have := ML.out; simp [intOf]; omega
    · have bS : q1 * y0 ≤ 4294967295 * 4294967295 := Nat.mul_le_mul (by omega) (by omega)
      obtain ⟨S, hS⟩ : ∃ S, S = q1 * y0 := ⟨_, rfl⟩
      have rS : IntKind.u64.wrap ((q1 : Int) * (y0 : Int)) = (S : Int) := by rw [← Int.natCast_mul, ← hS]; exact IntWalk.u64_in _ ⟨by omega, by omega⟩
      obtain ⟨KR, rK⟩ : ∃ KR : Nat, (4294967296 : Int) * (r1 : Int) = (KR : Int) := ⟨4294967296 * r1, by simp⟩
      have bK : (KR : Int) ≤ 18446744069414584320 := by omega
      have d1 : decide ((4294967296 : Int) ≤ (q1 : Int)) = false := by simp; omega
      by_cases c2 : 4294967296 * r1 + u1 < q1 * y0
      · obtain ⟨hqq, hq1⟩ := kn_more HY.out hu he c2
        have d2 : decide ((KR : Int) + (u1 : Int) < (S : Int)) = true := by simp; omega
        obtain ⟨Q1, rz, hz⟩ : ∃ Q : Nat, (q1 : Int) - 1 = (Q : Int) ∧ q1 = Q + 1 := ⟨q1 - 1, by omega, by omega⟩
        obtain ⟨R1x, rn, hn⟩ : ∃ R : Nat, (r1 : Int) + (y1 : Int) = (R : Int) ∧ R = r1 + y1 := ⟨r1 + y1, by omega, rfl⟩
        have hee : Q1 * y1 + R1x = u := by rw [hz, Nat.add_mul] at he; omega
        have hQQ : (u * 4294967296 + u1) / Y ≤ Q1 := by omega
        have bqu : q1 ≤ q1 * y1 := Nat.le_mul_of_pos_right _ (by omega)
        have rzw : IntKind.u64.wrap (Q1 : Int) = (Q1 : Int) := IntWalk.u64_in _ ⟨by omega, by omega⟩
        have rnw : IntKind.u64.wrap (R1x : Int) = (R1x : Int) := IntWalk.u64_in _ ⟨by omega, by omega⟩
        have bR : (r1 : Int) < 4294967296 := by omega
        have bq : (1 : Int) ≤ (q1 : Int) := by omega
        have ML : Hid (Q1 < q1) := by show Q1 < q1; omega
        clear hz hn he hQ hr bqu hqq hq1 c1 c2 hS bS
        by_cases c3 : 4294967296 ≤ R1x
        · have d3 : decide ((4294967296 : Int) ≤ (R1x : Int)) = true := by simp; omega
          have hQe := kn_break HY.out hy0 hu hee hQQ c3
          clear hee hQQ c3
          have bq1 : Q1 < 4294967296 := by rw [hQe]; exact kn_Q_lt hu hu1
          obtain ⟨A, B, C, R1, rA, rB, rC, rD, hR1, hR1e⟩ := rest_rules (v := u1) (u := u) (Q := Q1) (by omega) (by omega) hQe
          obtain ⟨q', p', r', rq, rwq, rp, rr, rpu, rrl, heq', hQs⟩ := guess_rules (u := R1) HY.out (by omega) hy1' (by omega)
          have HS : Hid (q' * y1 + r' = R1 ∧ (R1 * 4294967296 + u0) / Y ≤ q') := ⟨heq', hQs u0 hu0⟩
          have HE : Hid (Q1 * Y + R1 = u * 4294967296 + u1) := hR1e
          clear heq' hQs hR1e hQe
          go_wp2
          go_loop [18, 16] (fun a b => ∃ q r : Nat, a = .int .u64 q ∧ b = .int .u64 r ∧ q * y1 + r = R1 ∧ (R1 * 4294967296 + u0) / Y ≤ q ∧ r < 4294967296) (fun a _ => (intOf a).toNat)
          case atStart => exact ⟨q', r', rfl, rfl, HS.out.1, HS.out.2, rrl⟩
          case round =>
            obtain ⟨q2, r2, rfl, rfl, he, hQ, hr⟩ := hrel
            clear rq rwq rp rr rpu rrl HS rA rB rC rD
            by_cases c1 : 4294967296 ≤ q2
            · have hqq := kn_big (u := R1) (v := u0) hR1 hu0 c1
              have d1 : decide ((4294967296 : Int) ≤ (q2 : Int)) = true := by simp; omega
              obtain ⟨Q2, rz, hz⟩ : ∃ Q : Nat, (q2 : Int) - 1 = (Q : Int) ∧ q2 = Q + 1 := ⟨q2 - 1, by omega, by omega⟩
              obtain ⟨R2x, rn, hn⟩ : ∃ R : Nat, (r2 : Int) + (y1 : Int) = (R : Int) ∧ R = r2 + y1 := ⟨r2 + y1, by omega, rfl⟩
              have hee : Q2 * y1 + R2x = R1 := by rw [hz, Nat.add_mul] at he; omega
              have hQQ : (R1 * 4294967296 + u0) / Y ≤ Q2 := by omega
              have bqu : q2 ≤ q2 * y1 := Nat.le_mul_of_pos_right _ (by omega)
              have rzw : IntKind.u64.wrap (Q2 : Int) = (Q2 : Int) := IntWalk.u64_in _ ⟨by omega, by omega⟩
              have rnw : IntKind.u64.wrap (R2x : Int) = (R2x : Int) := IntWalk.u64_in _ ⟨by omega, by omega⟩
              have bR : (r2 : Int) < 4294967296 := by omega
              have bq : (1 : Int) ≤ (q2 : Int) := by omega
              have ML : Hid (Q2 < q2) := by show Q2 < q2; omega
              clear hz hn he hQ hr bqu hqq c1
              by_cases c3 : 4294967296 ≤ R2x
              · have d3 : decide ((4294967296 : Int) ≤ (R2x : Int)) = true := by simp; omega
                have hQe := kn_break HY.out hy0 hR1 hee hQQ c3
                clear hee hQQ c3
                have bq2 : Q2 < 4294967296 := by rw [hQe]; exact kn_Q_lt hR1 hu0
                obtain ⟨A2, B2, C2, R0, rA2, rB2, rC2, rD2, hR0, hR0e⟩ := rest_rules (v := u0) (u := R1) (Q := Q2) (by omega) (by omega) hQe
                have HF : Hid (Q2 * Y + R0 = R1 * 4294967296 + u0) := hR0e
                clear hR0e hQe
                go_wp2
                go_ret2
                exact ⟨Q1, R1, Q2, R0, bq1, bq2, HE.out, HF.out, hR0, rfl, rfl⟩
              · have d3 : decide ((4294967296 : Int) ≤ (R2x : Int)) = false := by simp; omega
                have HR : Hid (Q2 * y1 + R2x = R1 ∧ (R1 * 4294967296 + u0) / Y ≤ Q2 ∧ R2x < 4294967296) := ⟨hee, hQQ, by omega⟩
                clear hee hQQ c3
                go_wp2
                go_round
                case rel => exact ⟨Q2, R2x, rfl, rfl, HR.out.1, HR.out.2.1, HR.out.2.2⟩
                case measure => have := ML.out; simp [intOf]; omega
            · have bS : q2 * y0 ≤ 4294967295 * 4294967295 := Nat.mul_le_mul (by omega) (by omega)
              obtain ⟨S, hS⟩ : ∃ S, S = q2 * y0 := ⟨_, rfl⟩
              have rS : IntKind.u64.wrap ((q2 : Int) * (y0 : Int)) = (S : Int) := by rw [← Int.natCast_mul, ← hS]; exact IntWalk.u64_in _ ⟨by omega, by omega⟩
              obtain ⟨KR, rK⟩ : ∃ KR : Nat, (4294967296 : Int) * (r2 : Int) = (KR : Int) := ⟨4294967296 * r2, by simp⟩
              have bK : (KR : Int) ≤ 18446744069414584320 := by omega
              have d1 : decide ((4294967296 : Int) ≤ (q2 : Int)) = false := by simp; omega
              by_cases c2 : 4294967296 * r2 + u0 < q2 * y0
              · obtain ⟨hqq, hq1⟩ := kn_more HY.out hR1 he c2
                have d2 : decide ((KR : Int) + (u0 : Int) < (S : Int)) = true := by simp; omega
                obtain ⟨Q2, rz, hz⟩ : ∃ Q : Nat, (q2 : Int) - 1 = (Q : Int) ∧ q2 = Q + 1 := ⟨q2 - 1, by omega, by omega⟩
                obtain ⟨R2x, rn, hn⟩ : ∃ R : Nat, (r2 : Int) + (y1 : Int) = (R : Int) ∧ R = r2 + y1 := ⟨r2 + y1, by omega, rfl⟩
                have hee : Q2 * y1 + R2x = R1 := by rw [hz, Nat.add_mul] at he; omega
                have hQQ : (R1 * 4294967296 + u0) / Y ≤ Q2 := by omega
                have bqu : q2 ≤ q2 * y1 := Nat.le_mul_of_pos_right _ (by omega)
                have rzw : IntKind.u64.wrap (Q2 : Int) = (Q2 : Int) := IntWalk.u64_in _ ⟨by omega, by omega⟩
                have rnw : IntKind.u64.wrap (R2x : Int) = (R2x : Int) := IntWalk.u64_in _ ⟨by omega, by omega⟩
                have bR : (r2 : Int) < 4294967296 := by omega
                have bq : (1 : Int) ≤ (q2 : Int) := by omega
                have ML : Hid (Q2 < q2) := by show Q2 < q2; omega
                clear hz hn he hQ hr bqu hqq hq1 c1 c2 hS bS
                by_cases c3 : 4294967296 ≤ R2x
                · have d3 : decide ((4294967296 : Int) ≤ (R2x : Int)) = true := by simp; omega
                  have hQe := kn_break HY.out hy0 hR1 hee hQQ c3
                  clear hee hQQ c3
                  have bq2 : Q2 < 4294967296 := by rw [hQe]; exact kn_Q_lt hR1 hu0
                  obtain ⟨A2, B2, C2, R0, rA2, rB2, rC2, rD2, hR0, hR0e⟩ := rest_rules (v := u0) (u := R1) (Q := Q2) (by omega) (by omega) hQe
                  have HF : Hid (Q2 * Y + R0 = R1 * 4294967296 + u0) := hR0e
                  clear hR0e hQe
                  go_wp2
                  go_ret2
                  exact ⟨Q1, R1, Q2, R0, bq1, bq2, HE.out, HF.out, hR0, rfl, rfl⟩
                · have d3 : decide ((4294967296 : Int) ≤ (R2x : Int)) = false := by simp; omega
                  have HR : Hid (Q2 * y1 + R2x = R1 ∧ (R1 * 4294967296 + u0) / Y ≤ Q2 ∧ R2x < 4294967296) := ⟨hee, hQQ, by omega⟩
                  clear hee hQQ c3
                  go_wp2
                  go_round
                  case rel => exact ⟨Q2, R2x, rfl, rfl, HR.out.1, HR.out.2.1, HR.out.2.2⟩
                  case measure => have := ML.out; simp [intOf]; omega
              · have d2 : decide ((KR : Int) + (u0 : Int) < (S : Int)) = false := by simp; omega
                have hQe := kn_done HY.out hR1 he hQ (by omega)
                have bR : (r2 : Int) < 4294967296 := by omega
                clear he hQ hr c1 c2 hS bS
                have bq2 : q2 < 4294967296 := by rw [hQe]; exact kn_Q_lt hR1 hu0
                obtain ⟨A2, B2, C2, R0, rA2, rB2, rC2, rD2, hR0, hR0e⟩ := rest_rules (v := u0) (u := R1) (Q := q2) (by omega) (by omega) hQe
                have HF : Hid (q2 * Y + R0 = R1 * 4294967296 + u0) := hR0e
                clear hR0e hQe
                go_wp2
                go_ret2
                exact ⟨Q1, R1, q2, R0, bq1, bq2, HE.out, HF.out, hR0, rfl, rfl⟩
        · have d3 : decide ((4294967296 : Int) ≤ (R1x : Int)) = false := by simp; omega
          have HR : Hid (Q1 * y1 + R1x = u ∧ (u * 4294967296 + u1) / Y ≤ Q1 ∧ R1x < 4294967296) := ⟨hee, hQQ, by omega⟩
          clear hee hQQ c3
          go_wp2
          go_round
          case rel => exact ⟨Q1, R1x, rfl, rfl, HR.out.1, HR.out.2.1, HR.out.2.2⟩
          case measure => have := ML.out; simp [intOf]; omega
      · have d2 : decide ((KR : Int) + (u1 : Int) < (S : Int)) = false := by simp; omega
        have hQe := kn_done HY.out hu he hQ (by omega)
        have bR : (r1 : Int) < 4294967296 := by omega
        clear he hQ hr c1 c2 hS bS
        have bq1 : q1 < 4294967296 := by rw [hQe]; exact kn_Q_lt hu hu1
        obtain ⟨A, B, C, R1, rA, rB, rC, rD, hR1, hR1e⟩ := rest_rules (v := u1) (u := u) (Q := q1) (by omega) (by omega) hQe
        obtain ⟨q', p', r', rq, rwq, rp, rr, rpu, rrl, heq', hQs⟩ := guess_rules (u := R1) HY.out (by omega) hy1' (by omega)
        have HS : Hid (q' * y1 + r' = R1 ∧ (R1 * 4294967296 + u0) / Y ≤ q') := ⟨heq', hQs u0 hu0⟩
        have HE : Hid (q1 * Y + R1 = u * 4294967296 + u1) := hR1e
        clear heq' hQs hR1e hQe
        go_wp2
        go_loop [18, 16] (fun a b => ∃ q r : Nat, a = .int .u64 q ∧ b = .int .u64 r ∧ q * y1 + r = R1 ∧ (R1 * 4294967296 + u0) / Y ≤ q ∧ r < 4294967296) (fun a _ => (intOf a).toNat)
        case atStart => exact ⟨q', r', rfl, rfl, HS.out.1, HS.out.2, rrl⟩
        case round =>
          obtain ⟨q2, r2, rfl, rfl, he, hQ, hr⟩ := hrel
          clear rq rwq rp rr rpu rrl HS rA rB rC rD
          by_cases c1 : 4294967296 ≤ q2
          · have hqq := kn_big (u := R1) (v := u0) hR1 hu0 c1
            have d1 : decide ((4294967296 : Int) ≤ (q2 : Int)) = true := by simp; omega
            obtain ⟨Q2, rz, hz⟩ : ∃ Q : Nat, (q2 : Int) - 1 = (Q : Int) ∧ q2 = Q + 1 := ⟨q2 - 1, by omega, by omega⟩
            obtain ⟨R2x, rn, hn⟩ : ∃ R : Nat, (r2 : Int) + (y1 : Int) = (R : Int) ∧ R = r2 + y1 := ⟨r2 + y1, by omega, rfl⟩
            have hee : Q2 * y1 + R2x = R1 := by rw [hz, Nat.add_mul] at he; omega
            have hQQ : (R1 * 4294967296 + u0) / Y ≤ Q2 := by omega
            have bqu : q2 ≤ q2 * y1 := Nat.le_mul_of_pos_right _ (by omega)
            have rzw : IntKind.u64.wrap (Q2 : Int) = (Q2 : Int) := IntWalk.u64_in _ ⟨by omega, by omega⟩
            have rnw : IntKind.u64.wrap (R2x : Int) = (R2x : Int) := IntWalk.u64_in _ ⟨by omega, by omega⟩
            have bR : (r2 : Int) < 4294967296 := by omega
            have bq : (1 : Int) ≤ (q2 : Int) := by omega
            have ML : Hid (Q2 < q2) := by show Q2 < q2; omega
            clear hz hn he hQ hr bqu hqq c1
            by_cases c3 : 4294967296 ≤ R2x
            · have d3 : decide ((4294967296 : Int) ≤ (R2x : Int)) = true := by simp; omega
              have hQe := kn_break HY.out hy0 hR1 hee hQQ c3
              clear hee hQQ c3
              have bq2 : Q2 < 4294967296 := by rw [hQe]; exact kn_Q_lt hR1 hu0
              obtain ⟨A2, B2, C2, R0, rA2, rB2, rC2, rD2, hR0, hR0e⟩ := rest_rules (v := u0) (u := R1) (Q := Q2) (by omega) (by omega) hQe
              have HF : Hid (Q2 * Y + R0 = R1 * 4294967296 + u0) := hR0e
              clear hR0e hQe
              go_wp2
              go_ret2
              exact ⟨q1, R1, Q2, R0, bq1, bq2, HE.out, HF.out, hR0, rfl, rfl⟩
            · have d3 : decide ((4294967296 : Int) ≤ (R2x : Int)) = false := by simp; omega
              have HR : Hid (Q2 * y1 + R2x = R1 ∧ (R1 * 4294967296 + u0) / Y ≤ Q2 ∧ R2x < 4294967296) := ⟨hee, hQQ, by omega⟩
              clear hee hQQ c3
              go_wp2
              go_round
              case rel => exact ⟨Q2, R2x, rfl, rfl, HR.out.1, HR.out.2.1, HR.out.2.2⟩
              case measure => have := ML.out; simp [intOf]; omega
          · have bS : q2 * y0 ≤ 4294967295 * 4294967295 := Nat.mul_le_mul (by omega) (by omega)
            obtain ⟨S, hS⟩ : ∃ S, S = q2 * y0 := ⟨_, rfl⟩
            have rS : IntKind.u64.wrap ((q2 : Int) * (y0 : Int)) = (S : Int) := by rw [← Int.natCast_mul, ← hS]; exact IntWalk.u64_in _ ⟨by omega, by omega⟩
            obtain ⟨KR, rK⟩ : ∃ KR : Nat, (4294967296 : Int) * (r2 : Int) = (KR : Int) := ⟨4294967296 * r2, by simp⟩
            have bK : (KR : Int) ≤ 18446744069414584320 := by omega
            have d1 : decide ((4294967296 : Int) ≤ (q2 : Int)) = false := by simp; omega
            by_cases c2 : 4294967296 * r2 + u0 < q2 * y0
            · obtain ⟨hqq, hq1⟩ := kn_more HY.out hR1 he c2
              have d2 : decide ((KR : Int) + (u0 : Int) < (S : Int)) = true := by simp; omega
              obtain ⟨Q2, rz, hz⟩ : ∃ Q : Nat, (q2 : Int) - 1 = (Q : Int) ∧ q2 = Q + 1 := ⟨q2 - 1, by omega, by omega⟩
              obtain ⟨R2x, rn, hn⟩ : ∃ R : Nat, (r2 : Int) + (y1 : Int) = (R : Int) ∧ R = r2 + y1 := ⟨r2 + y1, by omega, rfl⟩
              have hee : Q2 * y1 + R2x = R1 := by rw [hz, Nat.add_mul] at he; omega
              have hQQ : (R1 * 4294967296 + u0) / Y ≤ Q2 := by omega
              have bqu : q2 ≤ q2 * y1 := Nat.le_mul_of_pos_right _ (by omega)
              have rzw : IntKind.u64.wrap (Q2 : Int) = (Q2 : Int) := IntWalk.u64_in _ ⟨by omega, by omega⟩
              have rnw : IntKind.u64.wrap (R2x : Int) = (R2x : Int) := IntWalk.u64_in _ ⟨by omega, by omega⟩
              have bR : (r2 : Int) < 4294967296 := by omega
              have bq : (1 : Int) ≤ (q2 : Int) := by omega
              have ML : Hid (Q2 < q2) := by show Q2 < q2; omega
              clear hz hn he hQ hr bqu hqq hq1 c1 c2 hS bS
              by_cases c3 : 4294967296 ≤ R2x
              · have d3 : decide ((4294967296 : Int) ≤ (R2x : Int)) = true := by simp; omega
                have hQe := kn_break HY.out hy0 hR1 hee hQQ c3
                clear hee hQQ c3
                have bq2 : Q2 < 4294967296 := by rw [hQe]; exact kn_Q_lt hR1 hu0
                obtain ⟨A2, B2, C2, R0, rA2, rB2, rC2, rD2, hR0, hR0e⟩ := rest_rules (v := u0) (u := R1) (Q := Q2) (by omega) (by omega) hQe
                have HF : Hid (Q2 * Y + R0 = R1 * 4294967296 + u0) := hR0e
                clear hR0e hQe
                go_wp2
                go_ret2
                exact ⟨q1, R1, Q2, R0, bq1, bq2, HE.out, HF.out, hR0, rfl, rfl⟩
              · have d3 : decide ((4294967296 : Int) ≤ (R2x : Int)) = false := by simp; omega
                have HR : Hid (Q2 * y1 + R2x = R1 ∧ (R1 * 4294967296 + u0) / Y ≤ Q2 ∧ R2x < 4294967296) := ⟨hee, hQQ, by omega⟩
                clear hee hQQ c3
                go_wp2
                go_round
                case rel => exact ⟨Q2, R2x, rfl, rfl, HR.out.1, HR.out.2.1, HR.out.2.2⟩
                case measure => have := ML.out; simp [intOf]; omega
            · have d2 : decide ((KR : Int) + (u0 : Int) < (S : Int)) = false := by simp; omega
              have hQe := kn_done HY.out hR1 he hQ (by omega)
              have bR : (r2 : Int) < 4294967296 := by omega
              clear he hQ hr c1 c2 hS bS
              have bq2 : q2 < 4294967296 := by rw [hQe]; exact kn_Q_lt hR1 hu0
              obtain ⟨A2, B2, C2, R0, rA2, rB2, rC2, rD2, hR0, hR0e⟩ := rest_rules (v := u0) (u := R1) (Q := q2) (by omega) (by omega) hQe
              have HF : Hid (q2 * Y + R0 = R1 * 4294967296 + u0) := hR0e
              clear hR0e hQe
              go_wp2
              go_ret2
              exact ⟨q1, R1, q2, R0, bq1, bq2, HE.out, HF.out, hR0, rfl, rfl⟩

end Go.Proofs.YtddbiiejilcbbaaGreatDoor
namespace Go.Proofs.YtddbiiejilcbbaaGreatDoor
open Go.RowKit

theorem bitLenAux_spec : ∀ (f x : Nat), x < 2 ^ f → x < 2 ^ Lib.bitLenAux f x ∧ Lib.bitLenAux f x ≤ f ∧ (x ≠ 0 → 2 ^ Lib.bitLenAux f x ≤ 2 * x)
  | 0, x, h => by simp [Lib.bitLenAux]; have : x = 0 := by simpa using h
                  omega
  | f + 1, x, h => by
    unfold Lib.bitLenAux
    by_cases hx : x = 0
    · simp [hx]
    · rw [if_neg hx]
      obtain ⟨a, b, c⟩ := bitLenAux_spec f (x / 2) (by rw [Nat.pow_succ] at h; omega)
      rw [Nat.add_comm 1, Nat.pow_succ]
      refine ⟨by omega, by omega, fun _ => ?_⟩
      by_cases h2 : x / 2 = 0
      · have : Lib.bitLenAux f (x / 2) = 0 := by rw [h2]; cases f <;> simp [Lib.bitLenAux]
        rw [this]; simp; omega
      · have := c h2; omega

theorem bitLen_spec {y : Nat} (h0 : 0 < y) (h1 : y < 18446744073709551616) : Lib.bitLen y ≤ 64 ∧ 1 ≤ Lib.bitLen y ∧ 9223372036854775808 ≤ y * 2 ^ (64 - Lib.bitLen y) ∧ y * 2 ^ (64 - Lib.bitLen y) < 18446744073709551616 := by
  obtain ⟨a, b, c⟩ := bitLenAux_spec 64 y (by simpa using h1)
  have c' := c (by omega)
  show Lib.bitLenAux 64 y ≤ 64 ∧ 1 ≤ Lib.bitLenAux 64 y ∧ 9223372036854775808 ≤ y * 2 ^ (64 - Lib.bitLenAux 64 y) ∧ y * 2 ^ (64 - Lib.bitLenAux 64 y) < 18446744073709551616
  generalize Lib.bitLenAux 64 y = k at *
  have hk : 1 ≤ k := by
    rcases Nat.eq_zero_or_pos k with h | h
    · subst h; simp at a; omega
    · exact h
  have e : 2 ^ k * 2 ^ (64 - k) = 18446744073709551616 := by rw [← Nat.pow_add, show k + (64 - k) = 64 by omega]
  refine ⟨b, hk, ?_, ?_⟩
  · have : 2 ^ k * 2 ^ (64 - k) ≤ 2 * y * 2 ^ (64 - k) := Nat.mul_le_mul_right _ c'
    rw [e, Nat.mul_assoc] at this
    omega
  · have : y * 2 ^ (64 - k) < 2 ^ k * 2 ^ (64 - k) := Nat.mul_lt_mul_of_pos_right a (Nat.two_pow_pos _)
    rwa [e] at this

theorem maskN (a : Nat) (ha : a < 18446744073709551616) : bits .and .u64 (a : Int) 4294967295 = ((a % 4294967296 : Nat) : Int) := by
  have h := bits_and_u64_nat a 4294967295 ha (by omega)
  rw [Nat.and_two_pow_sub_one_eq_mod a 32] at h
  exact h

/-- What is shifted in from the lower word. -/
theorem low_shift {lo s : Nat} (hs : s ≤ 64) (hlo : lo < 18446744073709551616) : lo / 2 ^ (64 - s) < 2 ^ s ∧ lo * 2 ^ s = lo / 2 ^ (64 - s) * 18446744073709551616 + lo * 2 ^ s % 18446744073709551616 := by
  have e : 2 ^ (64 - s) * 2 ^ s = 18446744073709551616 := by rw [← Nat.pow_add, show 64 - s + s = 64 by omega]
  constructor
  · rw [Nat.div_lt_iff_lt_mul (Nat.two_pow_pos _), Nat.mul_comm, e]; exact hlo
  · have h : lo * 2 ^ s / 18446744073709551616 = lo / 2 ^ (64 - s) := by rw [← e]; exact Nat.mul_div_mul_right _ _ (Nat.two_pow_pos s)
    rw [← h]
    exact (Nat.div_add_mod' _ _).symm

theorem join_calc {a b c : Nat} (h : c = b * 18446744073709551616 + c % 18446744073709551616) :
    ((a + b) * 4294967296 + c % 18446744073709551616 / 4294967296) * 4294967296 + c % 18446744073709551616 % 4294967296 = a * 18446744073709551616 + c := by omega

theorem castMulPow (a s : Nat) : (a : Int) * 2 ^ s = ((a * 2 ^ s : Nat) : Int) := by simp
theorem castDivPow (a s : Nat) : (a : Int) / 2 ^ s = ((a / 2 ^ s : Nat) : Int) := by simp

theorem div64_pos (hi lo y : Nat) (w : World) (h0 : 0 < hi) (h1 : hi < y) (hlo : lo < 18446744073709551616) (hy : y < 18446744073709551616) :
    Calls Tryz.prog 226 #[.int .u64 hi, .int .u64 lo, .int .u64 y] w fun e w' =>
      e = .returned (.tuple #[.int .u64 (((hi * 18446744073709551616 + lo) / y : Nat) : Int), .int .u64 (((hi * 18446744073709551616 + lo) % y : Nat) : Int)]) ∧ w' = w := by
  obtain ⟨b1, b2, b3, b4⟩ := bitLen_spec (show 0 < y by omega) hy
  obtain ⟨s, hs⟩ : ∃ s, s = 64 - Lib.bitLen y := ⟨_, rfl⟩
  rw [← hs] at b3 b4
  obtain ⟨l1, l2⟩ := low_shift (s := s) (by omega) hlo
  have hlz : ∀ w : World, Calls Tryz.prog 255 #[.int .u64 y] w fun e w' => e = .returned (.int .i64 s) ∧ w' = w := fun w => by
    refine (Tryz.bits_LeadingZeros64 (y : Int) w (by omega) (by omega)).mono ?_
    rintro e w' ⟨rfl, hw⟩
    refine ⟨?_, hw⟩
    rw [Int.toNat_natCast, show (64 - (Lib.bitLen y : Int)) = (s : Int) by omega]
  have hu : hi * 2 ^ s + lo / 2 ^ (64 - s) < y * 2 ^ s := by
    have : (hi + 1) * 2 ^ s ≤ y * 2 ^ s := Nat.mul_le_mul_right _ h1
    rw [Nat.add_mul, Nat.one_mul] at this
    omega
  have hor : hi * 2 ^ s ||| lo / 2 ^ (64 - s) = hi * 2 ^ s + lo / 2 ^ (64 - s) := by
    rw [Nat.mul_comm]; exact (Nat.two_pow_add_eq_or_of_lt l1 hi).symm
  have hlb : lo / 2 ^ (64 - s) ≤ lo := Nat.div_le_self _ _
  have rU : bits .or .u64 (IntKind.u64.wrap ((hi : Int) * 2 ^ s)) ((lo : Int) / 2 ^ (64 - s)) = ((hi * 2 ^ s + lo / 2 ^ (64 - s) : Nat) : Int) := by
    rw [castMulPow, castDivPow, ← hor]
    generalize hi * 2 ^ s = a at *
    generalize lo / 2 ^ (64 - s) = b at *
    rw [IntWalk.u64_in _ ⟨by omega, by omega⟩]
    exact bits_or_u64_nat a b (by omega) (by omega)
  have rY : IntKind.u64.wrap ((y : Int) * 2 ^ s) = ((y * 2 ^ s : Nat) : Int) := by
    rw [castMulPow]
    generalize y * 2 ^ s = Y at *
    exact IntWalk.u64_in _ ⟨by omega, by omega⟩
  have rL : IntKind.u64.wrap ((lo : Int) * 2 ^ s) = ((lo * 2 ^ s % 18446744073709551616 : Nat) : Int) := by rw [castMulPow]; exact wrapN _
  refine (div64_core hi lo y s (y * 2 ^ s) (y * 2 ^ s / 4294967296) (y * 2 ^ s % 4294967296) (hi * 2 ^ s + lo / 2 ^ (64 - s)) (lo * 2 ^ s % 18446744073709551616) (lo * 2 ^ s % 18446744073709551616 / 4294967296) (lo * 2 ^ s % 18446744073709551616 % 4294967296) w h1 h0 (by omega) hlz rY (maskN _ b4) (by omega) rU rL (maskN _ (by omega)) (by omega) (by omega) (by omega) (by omega) (by omega) hu (by omega) (by omega)).mono ?_
  rintro e w' ⟨Q1, R1, Q0, R0, q1, q0, e1, e0, hR, rfl, hw⟩
  have hj := kn_join e1 e0
  have hn : ((hi * 2 ^ s + lo / 2 ^ (64 - s)) * 4294967296 + lo * 2 ^ s % 18446744073709551616 / 4294967296) * 4294967296 + lo * 2 ^ s % 18446744073709551616 % 4294967296 = (hi * 18446744073709551616 + lo) * 2 ^ s := by
    have m1 : (hi * 18446744073709551616 + lo) * 2 ^ s = hi * 2 ^ s * 18446744073709551616 + lo * 2 ^ s := (Nat.add_mul _ _ _).trans (congrArg (· + lo * 2 ^ s) (Nat.mul_right_comm hi 18446744073709551616 (2 ^ s)))
    exact (join_calc l2).trans m1.symm
  rw [hn] at hj
  obtain ⟨k1, k2⟩ := kn_back hj hR
  refine ⟨?_, hw⟩
  rw [← k1, ← k2, castDivPow]
  simp

set_option maxHeartbeats 400000 in
theorem div64_zero (lo y : Nat) (w : World) (h1 : 0 < y) (hlo : lo < 18446744073709551616) (hy : y < 18446744073709551616) :
    Calls Tryz.prog 226 #[.int .u64 0, .int .u64 lo, .int .u64 y] w fun e w' =>
      e = .returned (.tuple #[.int .u64 ((lo / y : Nat) : Int), .int .u64 ((lo % y : Nat) : Int)]) ∧ ∃ n, w' = w.drewN n := by
  have e1 : ((y : Int) == 0) = false := by simp; omega
  have e3 : ¬ ((y : Int) ≤ (0 : Int)) := by omega
  have dq := Nat.div_le_self lo y
  obtain ⟨q, hq⟩ : ∃ q, q = lo / y := ⟨_, rfl⟩
  obtain ⟨r, hr⟩ : ∃ r, r = lo % y := ⟨_, rfl⟩
  have rq : (lo : Int) / (y : Int) = (q : Int) := by rw [hq]; exact (Int.natCast_ediv lo y).symm
  have rr : (lo : Int) % (y : Int) = (r : Int) := by rw [hr]; exact (Int.natCast_emod lo y).symm
  rw [← hq] at dq
  have rw1 : IntKind.u64.wrap (q : Int) = (q : Int) := IntWalk.u64_in _ ⟨by omega, by omega⟩
  rw [← hq, ← hr]
  clear hq hr
  go_enter Tryz.func226, Tryz.ntmps226
  go_wp2_with fail
  go_quiet (fail)
  go_wp2
  go_ret2
  exact ⟨by rw [← rr]; rfl, nq, rfl⟩

/-- Every two words, every divisor above the higher one. -/
theorem div64_any (hi lo y : Nat) (w : World) (h1 : hi < y) (hlo : lo < 18446744073709551616) (hy : y < 18446744073709551616) :
    Calls Tryz.prog 226 #[.int .u64 hi, .int .u64 lo, .int .u64 y] w fun e w' =>
      e = .returned (.tuple #[.int .u64 (((hi * 18446744073709551616 + lo) / y : Nat) : Int), .int .u64 (((hi * 18446744073709551616 + lo) % y : Nat) : Int)]) ∧ ∃ n, w' = w.drewN n := by
  rcases Nat.eq_zero_or_pos hi with h | h
  · subst h
    rw [Nat.zero_mul, Nat.zero_add]
    exact div64_zero lo y w h1 hlo hy
  · refine (div64_pos hi lo y w h h1 hlo hy).mono ?_
    rintro e w ⟨rfl, rfl⟩
    exact ⟨rfl, 0, rfl⟩
end Go.Proofs.YtddbiiejilcbbaaGreatDoor
namespace Go.Proofs.YtddbiiejilcbbaaGreatDoor
open Go.RowKit

set_option maxHeartbeats 400000 in
theorem size_any (a : Int) (w : World) (h0 : -1000000000000000 ≤ a) (h1 : a ≤ 1000000000000000) :
    Calls Tryz.prog 193 #[.int .i64 a] w fun e w' => e = .returned (.int .u64 (a.natAbs : Int)) ∧ w' = w := by
  by_cases hn : a < 0
  · have e : Hid ((a.natAbs : Int) = -a) := by show (a.natAbs : Int) = -a; omega
    go_enter Tryz.func193, Tryz.ntmps193
    go_wp2
    go_ret
    exact ⟨ret_int e.out.symm, rfl⟩
  · have e : Hid ((a.natAbs : Int) = a) := by show (a.natAbs : Int) = a; omega
    go_enter Tryz.func193, Tryz.ntmps193
    go_wp2
    go_ret
    exact ⟨ret_int e.out.symm, rfl⟩

set_option maxHeartbeats 400000 in
theorem roundsUp_any (n r c : Nat) (w : World) (hr : r < c) (hc : c < 18446744073709551616) (_hn : n < 18446744073709551616) :
    Calls Tryz.prog 227 #[.int .u64 n, .int .u64 r, .int .u64 c] w fun e w' => e = .returned (.bool (upB n r c)) ∧ w' = w := by
  obtain ⟨m, hm⟩ : ∃ m, m = c - r := ⟨_, rfl⟩
  have rm : (c : Int) - (r : Int) = (m : Int) := by omega
  have rw1 : IntKind.u64.wrap (m : Int) = (m : Int) := IntWalk.u64_in _ ⟨by omega, by omega⟩
  by_cases h1 : m < r
  · have d1 : decide ((m : Int) < (r : Int)) = true := by simp; omega
    have HE : Hid (upB n r c = true) := by show upB n r c = true; unfold upB; rw [← hm]; simp [h1]
    clear hm
    go_enter Tryz.func227, Tryz.ntmps227
    go_wp2
    go_ret
    exact ⟨by rw [HE.out]; rfl, rfl⟩
  · have d1 : decide ((m : Int) < (r : Int)) = false := by simp; omega
    by_cases h2 : r = m
    · have d2 : ((r : Int) == (m : Int)) = true := by simp; omega
      have HE : Hid (upB n r c = decide (n % 2 = 1)) := by show upB n r c = _; unfold upB; rw [← hm]; simp [h2]
      by_cases h3 : n % 2 = 1
      · have d3 : ((n : Int) % 2 == 1) = true := by simp; omega
        have HF : Hid (upB n r c = true) := by show upB n r c = true; rw [HE.out]; simp [h3]
        clear hm h2 h3
        go_enter Tryz.func227, Tryz.ntmps227
        go_wp2
        go_ret
        exact ⟨by rw [HF.out]; rfl, rfl⟩
      · have d3 : ((n : Int) % 2 == 1) = false := by simp; omega
        have HF : Hid (upB n r c = false) := by show upB n r c = false; rw [HE.out]; simp [h3]
        clear hm h2 h3
        go_enter Tryz.func227, Tryz.ntmps227
        go_wp2
        go_ret
        exact ⟨by rw [HF.out]; rfl, rfl⟩
    · have d2 : ((r : Int) == (m : Int)) = false := by simp; omega
      have HF : Hid (upB n r c = false) := by show upB n r c = false; unfold upB; rw [← hm]; simp [h1, h2]
      clear hm h2
      go_enter Tryz.func227, Tryz.ntmps227
      go_wp2
      go_ret
      exact ⟨by rw [HF.out]; rfl, rfl⟩

theorem big_quot {p c : Nat} (hc : 0 < c) (h : c ≤ p / 18446744073709551616) : 1000000000000000 ≤ p / c := by
  rw [Nat.le_div_iff_mul_le hc]
  have : c * 1000000000000000 ≤ p / 18446744073709551616 * 18446744073709551616 := Nat.mul_le_mul h (by omega)
  omega

set_option maxHeartbeats 800000 in
theorem ratioOf_any (a b c : Nat) (w : World) (ha : a ≤ 1000000000000000) (hb : b ≤ 1000000000000000) (hc0 : 0 < c) (hc : c ≤ 1000000000000000) :
    Calls Tryz.prog 192 #[.int .u64 a, .int .u64 b, .int .u64 c] w fun e w' => e = .returned (.int .u64 (ratN a b c : Int)) ∧ ∃ n, w' = w.drewN n := by
  have hp : a * b ≤ 1000000000000000 * 1000000000000000 := Nat.mul_le_mul ha hb
  have HM := Tryz.bits_Mul64 a b (by omega) (by omega)
  have HR : ratN a b c = if 1000000000000000 ≤ a * b / c then 1000000000000000 else if upB (a * b / c) (a * b % c) c then a * b / c + 1 else a * b / c := rfl
  have hm := Nat.mod_lt (a * b) (show c > 0 from hc0)
  generalize a * b = p at *
  obtain ⟨h, hh⟩ : ∃ h, h = p / 18446744073709551616 := ⟨_, rfl⟩
  obtain ⟨l, hl⟩ : ∃ l, l = p % 18446744073709551616 := ⟨_, rfl⟩
  rw [← hh, ← hl] at HM
  have HMh : Hid (∀ w : World, Calls Tryz.prog 225 #[.int .u64 a, .int .u64 b] w fun e w' => e = .returned (.tuple #[.int .u64 (h : Int), .int .u64 (l : Int)]) ∧ w' = w) := HM
  by_cases h1 : c ≤ h
  · have HE : Hid (ratN a b c = 1000000000000000) := by show ratN a b c = _; rw [HR, if_pos (big_quot hc0 (hh ▸ h1))]
    clear HM HR hh hl hm hp
    go_enter Tryz.func192, Tryz.ntmps192
    go_wp2_with (go_at_call 225; refine (HMh.out _).mono ?_; rintro e w ⟨rfl, rfl⟩)
    go_ret
    exact ⟨by rw [HE.out]; rfl, 0, rfl⟩
  · have HD := fun w => div64_any h l c w (by omega) (by omega) (by omega)
    rw [show h * 18446744073709551616 + l = p by omega] at HD
    have HRs : ratN a b c = if 1000000000000000 ≤ p / c then 1000000000000000 else if upB (p / c) (p % c) c then p / c + 1 else p / c := HR
    generalize p / c = q at *
    generalize p % c = r at *
    have HDh : Hid (∀ w : World, Calls Tryz.prog 226 #[.int .u64 h, .int .u64 l, .int .u64 c] w fun e w' => e = .returned (.tuple #[.int .u64 (q : Int), .int .u64 (r : Int)]) ∧ ∃ n, w' = w.drewN n) := HD
    by_cases h2 : 1000000000000000 ≤ q
    · have d2 : decide ((1000000000000000 : Int) ≤ (q : Int)) = true := by simp; omega
      have HE : Hid (ratN a b c = 1000000000000000) := by show ratN a b c = _; rw [HRs, if_pos h2]
      clear HM HR hh hl hm hp HD HRs h2 ha hb hc hc0
      go_enter Tryz.func192, Tryz.ntmps192
      go_wp2_with (first | (go_at_call 225; refine (HMh.out _).mono ?_; rintro e w ⟨rfl, rfl⟩) | (go_at_call 226; refine (HDh.out _).mono ?_; rintro e w2 ⟨rfl, n, rfl⟩))
      go_ret
      exact ⟨by rw [HE.out]; rfl, _, rfl⟩
    · have d2 : decide ((1000000000000000 : Int) ≤ (q : Int)) = false := by simp; omega
      have rq1 : IntKind.u64.wrap ((q : Int) + 1) = (q : Int) + 1 := IntWalk.u64_in _ ⟨by omega, by omega⟩
      have HU := fun w => roundsUp_any q r c w hm (by omega) (by omega)
      have HUh : Hid (∀ w : World, Calls Tryz.prog 227 #[.int .u64 q, .int .u64 r, .int .u64 c] w fun e w' => e = .returned (.bool (upB q r c)) ∧ w' = w) := HU
      cases h3 : upB q r c
      · have HE : Hid (ratN a b c = q) := by show ratN a b c = _; rw [HRs, if_neg h2, h3]; rfl
        rw [h3] at HUh
        clear HM HR hh hl hm hp HD HRs HU h3 h2 ha hb hc hc0
        go_enter Tryz.func192, Tryz.ntmps192
        go_wp2_with (first | (go_at_call 225; refine (HMh.out _).mono ?_; rintro e w ⟨rfl, rfl⟩) | (go_at_call 226; refine (HDh.out _).mono ?_; rintro e w2 ⟨rfl, n, rfl⟩) | (go_at_call 227; refine (HUh.out _).mono ?_; rintro e w3 ⟨rfl, rfl⟩))
        go_ret
        exact ⟨by rw [HE.out]; rfl, _, rfl⟩
      · have HE : Hid (ratN a b c = q + 1) := by show ratN a b c = _; rw [HRs, if_neg h2, h3]; rfl
        rw [h3] at HUh
        clear HM HR hh hl hm hp HD HRs HU h3 h2 ha hb hc hc0
        go_enter Tryz.func192, Tryz.ntmps192
        go_wp2_with (first | (go_at_call 225; refine (HMh.out _).mono ?_; rintro e w ⟨rfl, rfl⟩) | (go_at_call 226; refine (HDh.out _).mono ?_; rintro e w2 ⟨rfl, n, rfl⟩) | (go_at_call 227; refine (HUh.out _).mono ?_; rintro e w3 ⟨rfl, rfl⟩))
        go_ret
        exact ⟨by rw [HE.out]; rfl, _, rfl⟩
end Go.Proofs.YtddbiiejilcbbaaGreatDoor
namespace Go.Proofs.YtddbiiejilcbbaaGreatDoor
open Go.RowKit

set_option maxHeartbeats 1600000 in
theorem ratio_any (a b c : Int) (w : World) (a0 : -1000000000000000 ≤ a) (a1 : a ≤ 1000000000000000) (b0 : -1000000000000000 ≤ b) (b1 : b ≤ 1000000000000000)
    (c0 : -1000000000000000 ≤ c) (c1 : c ≤ 1000000000000000) (hc : c ≠ 0) :
    Calls Tryz.prog 148 #[.int .i64 a, .int .i64 b, .int .i64 c] w fun e w' => e = .returned (.int .i64 (ratI a b c)) ∧ ∃ n, w' = w.drewN n := by
  obtain ⟨N, hN⟩ : ∃ N, N = ratN a.natAbs b.natAbs c.natAbs := ⟨_, rfl⟩
  have hle : N ≤ 1000000000000000 := hN ▸ ratN_le _ _ _
  have HA : Hid (∀ w : World, Calls Tryz.prog 193 #[.int .i64 a] w fun e w' => e = .returned (.int .u64 (a.natAbs : Int)) ∧ w' = w) := fun w => size_any a w a0 a1
  have HB : Hid (∀ w : World, Calls Tryz.prog 193 #[.int .i64 b] w fun e w' => e = .returned (.int .u64 (b.natAbs : Int)) ∧ w' = w) := fun w => size_any b w b0 b1
  have HC : Hid (∀ w : World, Calls Tryz.prog 193 #[.int .i64 c] w fun e w' => e = .returned (.int .u64 (c.natAbs : Int)) ∧ w' = w) := fun w => size_any c w c0 c1
  have HR : Hid (∀ w : World, Calls Tryz.prog 192 #[.int .u64 (a.natAbs : Int), .int .u64 (b.natAbs : Int), .int .u64 (c.natAbs : Int)] w fun e w' => e = .returned (.int .u64 (N : Int)) ∧ ∃ n, w' = w.drewN n) := fun w => by
    rw [hN]; exact ratioOf_any _ _ _ w (by omega) (by omega) (by omega) (by omega)
  have rn : IntKind.i64.wrap (N : Int) = (N : Int) := IntWalk.i64_in _ ⟨by omega, by omega⟩
  have rm : IntKind.i64.wrap (-(N : Int)) = -(N : Int) := IntWalk.i64_in _ ⟨by omega, by omega⟩
  have HI : Hid (ratI a b c = if sgnB a b c then -(N : Int) else (N : Int)) := by show ratI a b c = _; rw [hN]; rfl
  clear hN hle a0 a1 b0 b1 c0 c1 hc
  obtain ⟨x, hx⟩ : ∃ x : Nat, x = a.natAbs := ⟨_, rfl⟩
  obtain ⟨y, hy⟩ : ∃ y : Nat, y = b.natAbs := ⟨_, rfl⟩
  obtain ⟨z, hz⟩ : ∃ z : Nat, z = c.natAbs := ⟨_, rfl⟩
  rw [← hx, ← hy, ← hz] at HR
  rw [← hx] at HA
  rw [← hy] at HB
  rw [← hz] at HC
  clear hx hy hz
  cases da : decide (a < 0) <;> cases db : decide (b < 0) <;> cases dc : decide (c < 0)
  all_goals cases hs : sgnB a b c
  all_goals rw [hs] at HI
  all_goals simp only [sgnB, da, db, dc] at hs
  all_goals first | exact absurd hs (by decide) | clear hs
  all_goals
    go_enter Tryz.func148, Tryz.ntmps148
    go_wp2_with fail
    refine (HA.out _).mono ?_
    rintro e w ⟨rfl, rfl⟩
    go_wp2_with fail
    refine (HB.out _).mono ?_
    rintro e w ⟨rfl, rfl⟩
    go_wp2_with fail
    refine (HC.out _).mono ?_
    rintro e w ⟨rfl, rfl⟩
    go_wp2_with fail
    refine (HR.out _).mono ?_
    rintro e w2 ⟨rfl, n, rfl⟩
    go_wp2
    go_ret
    exact ⟨by rw [HI.out]; rfl, n, rfl⟩

set_option maxHeartbeats 400000 in
theorem mul_any (a b : Int) (w : World) :
    Calls Tryz.prog 114 #[.int .i64 a, .int .i64 b] w fun e w' => e = .returned (.int .i64 (mulI a b)) ∧ ∃ n, w' = w.drewN n := by
  have HR : Hid (∀ w : World, Calls Tryz.prog 148 #[.int .i64 (clampI a), .int .i64 (clampI b), .int .i64 1000000] w fun e w' => e = .returned (.int .i64 (mulI a b)) ∧ ∃ n, w' = w.drewN n) :=
    fun w => ratio_any _ _ _ w (clampI_ge a) (clampI_le a) (clampI_ge b) (clampI_le b) (by omega) (by omega) (by omega)
  go_enter Tryz.func114, Tryz.ntmps114
  go_wp2_with (first | (go_at_call 116; refine (clamp_any _ _).mono ?_; rintro e w ⟨rfl, rfl⟩))
  refine (HR.out _).mono ?_
  rintro e w2 ⟨rfl, n, rfl⟩
  go_wp2
  go_ret
  exact ⟨rfl, n, rfl⟩

set_option maxHeartbeats 400000 in
theorem div_any (a b : Int) (w : World) :
    Calls Tryz.prog 152 #[.int .i64 a, .int .i64 b] w fun e w' => e = .returned (.int .i64 (divI a b)) ∧ ∃ n, w' = w.drewN n := by
  by_cases h : b = 0
  · subst h
    go_enter Tryz.func152, Tryz.ntmps152
    go_wp2
    go_ret
    exact ⟨rfl, 0, rfl⟩
  · have d0 : (b == 0) = false := by simpa using h
    have HE : Hid (divI a b = ratI (clampI a) 1000000 (clampI b)) := by show divI a b = _; unfold divI; rw [if_neg h]
    have HR : Hid (∀ w : World, Calls Tryz.prog 148 #[.int .i64 (clampI a), .int .i64 1000000, .int .i64 (clampI b)] w fun e w' => e = .returned (.int .i64 (divI a b)) ∧ ∃ n, w' = w.drewN n) :=
      fun w => by rw [HE.out]; exact ratio_any _ _ _ w (clampI_ge a) (clampI_le a) (by omega) (by omega) (clampI_ge b) (clampI_le b) (clampI_ne h)
    clear h
    go_enter Tryz.func152, Tryz.ntmps152
    go_wp2_with (first | (go_at_call 116; refine (clamp_any _ _).mono ?_; rintro e w ⟨rfl, rfl⟩))
    refine (HR.out _).mono ?_
    rintro e w2 ⟨rfl, n, rfl⟩
    go_wp2
    go_ret
    exact ⟨rfl, n, rfl⟩
end Go.Proofs.YtddbiiejilcbbaaGreatDoor
namespace Go.Proofs.YtddbiiejilcbbaaGreatDoor

theorem clampI_zero : clampI 0 = 0 := clampI_in (by omega) (by omega)
theorem divI_zero (a : Int) : divI a 0 = 0 := by unfold divI; simp

end Go.Proofs.YtddbiiejilcbbaaGreatDoor
namespace Go.Proofs.YtddbiiejilcbbaaGreatDoor
open Go.RowKit

def rndN (q r d : Nat) : Nat := if upB q r d then q + 1 else q
def sgR (a b : Int) : Bool := decide (a < 0) != decide (b < 0)
def signR (a b : Int) (n : Nat) : Int := if sgR a b then -(n : Int) else (n : Int)

theorem rndN_ge (q r d : Nat) : q ≤ rndN q r d := by unfold rndN; split <;> omega
theorem rndN_le (q r d : Nat) : rndN q r d ≤ q + 1 := by unfold rndN; split <;> omega

/-- What the reference's last step makes of a rounded quotient. -/
theorem clamp_rnd (a b : Int) (x y c : Nat) : clampI (signR a b (rndN (x * y / c) (x * y % c) c)) = if sgR a b then -(ratN x y c : Int) else (ratN x y c : Int) := by
  have h1 := rndN_ge (x * y / c) (x * y % c) c
  have h2 := rndN_le (x * y / c) (x * y % c) c
  have h3 : ratN x y c = if 1000000000000000 ≤ x * y / c then 1000000000000000 else rndN (x * y / c) (x * y % c) c := rfl
  rw [h3]
  generalize rndN (x * y / c) (x * y % c) c = k at *
  unfold signR
  by_cases hq : 1000000000000000 ≤ x * y / c
  · rw [if_pos hq]
    cases sgR a b
    · simp only [Bool.false_eq_true, if_false]
      rcases Nat.lt_or_ge 1000000000000000 k with hk | hk
      · exact clampI_hi (by omega)
      · rw [clampI_in (by omega) (by omega)]; omega
    · simp only [if_true]
      rcases Nat.lt_or_ge 1000000000000000 k with hk | hk
      · rw [clampI_lo (by omega)]; rfl
      · rw [clampI_in (by omega) (by omega)]; omega
  · rw [if_neg hq]
    cases sgR a b
    · simp only [Bool.false_eq_true, if_false]; exact clampI_in (by omega) (by omega)
    · simp only [if_true]; exact clampI_in (by omega) (by omega)

theorem clamp_max (a b : Int) (x y c : Nat) (h : 1000000000000000 ≤ x * y / c) : clampI (signR a b 1000000000000000) = if sgR a b then -(ratN x y c : Int) else (ratN x y c : Int) := by
  have h3 : ratN x y c = 1000000000000000 := by unfold ratN; rw [if_pos h]
  rw [h3]
  unfold signR
  cases sgR a b <;> exact clampI_in (by simp) (by simp)

theorem mulI_ref (a b : Int) : mulI a b = if sgR (clampI a) (clampI b) then -(ratN (clampI a).natAbs (clampI b).natAbs 1000000 : Int) else (ratN (clampI a).natAbs (clampI b).natAbs 1000000 : Int) := by
  unfold mulI ratI
  have : sgnB (clampI a) (clampI b) 1000000 = sgR (clampI a) (clampI b) := by unfold sgnB sgR; simp
  rw [this]; rfl
theorem divI_ref {a b : Int} (hb : b ≠ 0) : divI a b = if sgR (clampI a) (clampI b) then -(ratN (clampI a).natAbs 1000000 (clampI b).natAbs : Int) else (ratN (clampI a).natAbs 1000000 (clampI b).natAbs : Int) := by
  unfold divI ratI
  rw [if_neg hb]
  have : sgnB (clampI a) 1000000 (clampI b) = sgR (clampI a) (clampI b) := by unfold sgnB sgR; simp
  rw [this]; rfl

/-- A product by halves of six digits. -/
theorem halves (x y : Nat) : x * y / 1000000 = x / 1000000 * (y / 1000000) * 1000000 + x / 1000000 * (y % 1000000) + x % 1000000 * (y / 1000000) + x % 1000000 * (y % 1000000) / 1000000 ∧
    x * y % 1000000 = x % 1000000 * (y % 1000000) % 1000000 := by
  have e : x * y = (x / 1000000 * (y / 1000000) * 1000000 + x / 1000000 * (y % 1000000) + x % 1000000 * (y / 1000000)) * 1000000 + x % 1000000 * (y % 1000000) := by
    have h1 := Nat.div_add_mod' x 1000000
    have h2 := Nat.div_add_mod' y 1000000
    generalize x / 1000000 = x1 at *
    generalize x % 1000000 = x0 at *
    generalize y / 1000000 = y1 at *
    generalize y % 1000000 = y0 at *
    subst h1; subst h2
    rw [Nat.add_mul, Nat.mul_add, Nat.mul_add, Nat.mul_mul_mul_comm, Nat.mul_right_comm x1 1000000 y0, ← Nat.mul_assoc x0 y1]
    omega
  rw [e]
  constructor
  · omega
  · omega

set_option maxHeartbeats 400000 in
theorem rsize_any (a : Int) (w : World) (h0 : -1000000000000000 ≤ a) (h1 : a ≤ 1000000000000000) :
    Calls Tryz.prog 88 #[.int .i64 a] w fun e w' => e = .returned (.int .i64 (a.natAbs : Int)) ∧ w' = w := by
  by_cases hn : a < 0
  · have e : Hid ((a.natAbs : Int) = -a) := by show (a.natAbs : Int) = -a; omega
    go_enter Tryz.func88, Tryz.ntmps88
    go_wp2
    go_ret
    exact ⟨ret_int e.out.symm, rfl⟩
  · have e : Hid ((a.natAbs : Int) = a) := by show (a.natAbs : Int) = a; omega
    go_enter Tryz.func88, Tryz.ntmps88
    go_wp2
    go_ret
    exact ⟨ret_int e.out.symm, rfl⟩

set_option maxHeartbeats 800000 in
theorem rsigned_any (n : Nat) (a b : Int) (w : World) (hn : n ≤ 10000000000000000) :
    Calls Tryz.prog 89 #[.int .i64 n, .int .i64 a, .int .i64 b] w fun e w' => e = .returned (.int .i64 (clampI (signR a b n))) ∧ w' = w := by
  have rm : IntKind.i64.wrap (-(n : Int)) = -(n : Int) := IntWalk.i64_in _ ⟨by omega, by omega⟩
  clear hn
  cases da : decide (a < 0) <;> cases db : decide (b < 0)
  all_goals cases hs : sgR a b
  all_goals have HS : Hid (signR a b n = if sgR a b then -(n : Int) else (n : Int)) := rfl
  all_goals rw [hs] at HS
  all_goals simp only [sgR, da, db] at hs
  all_goals first | exact absurd hs (by decide) | clear hs
  all_goals
    go_enter Tryz.func89, Tryz.ntmps89
    go_wp2_with (go_at_call 51; refine (rclamp_any _ _).mono ?_; rintro e w ⟨rfl, rfl⟩)
    go_ret
    exact ⟨by rw [HS.out]; rfl, rfl⟩

set_option maxHeartbeats 800000 in
theorem rrounded_any (n r c : Nat) (w : World) (hr : r < c) (hc : c ≤ 1000000000000000) (hn : n ≤ 5000000000000000) :
    Calls Tryz.prog 90 #[.int .i64 n, .int .i64 r, .int .i64 c] w fun e w' => e = .returned (.int .i64 (rndN n r c : Int)) ∧ w' = w := by
  obtain ⟨m, hm⟩ : ∃ m, m = c - r := ⟨_, rfl⟩
  have rm : (c : Int) - (r : Int) = (m : Int) := by omega
  have rw1 : IntKind.i64.wrap (m : Int) = (m : Int) := IntWalk.i64_in _ ⟨by omega, by omega⟩
  have rw2 : IntKind.i64.wrap ((n : Int) + 1) = (n : Int) + 1 := IntWalk.i64_in _ ⟨by omega, by omega⟩
  clear hc hn
  by_cases h1 : m < r
  · have HE : Hid (rndN n r c = n + 1) := by show rndN n r c = _; unfold rndN upB; rw [← hm]; simp [h1]
    clear hm
    go_enter Tryz.func90, Tryz.ntmps90
    go_wp2
    go_ret
    exact ⟨by rw [HE.out]; rfl, rfl⟩
  · by_cases h2 : r = m
    · have d2 : ((r : Int) == (m : Int)) = true := by simp; omega
      by_cases h3 : n % 2 = 1
      · have d3 : ((n : Int) % 2 == 1) = true := by simp; omega
        have HF : Hid (rndN n r c = n + 1) := by show rndN n r c = _; unfold rndN upB; rw [← hm]; simp [h2, h3]
        clear hm h2 h3
        go_enter Tryz.func90, Tryz.ntmps90
        go_wp2
        go_ret
        exact ⟨by rw [HF.out]; rfl, rfl⟩
      · have d3 : ((n : Int) % 2 == 1) = false := by simp; omega
        have HF : Hid (rndN n r c = n) := by show rndN n r c = _; unfold rndN upB; rw [← hm]; simp [h2, h3]
        clear hm h2 h3
        go_enter Tryz.func90, Tryz.ntmps90
        go_wp2
        go_ret
        exact ⟨by rw [HF.out]; rfl, rfl⟩
    · have d2 : ((r : Int) == (m : Int)) = false := by simp; omega
      have HF : Hid (rndN n r c = n) := by show rndN n r c = _; unfold rndN upB; rw [← hm]; simp [h1, h2]
      clear hm h2
      go_enter Tryz.func90, Tryz.ntmps90
      go_wp2
      go_ret
      exact ⟨by rw [HF.out]; rfl, rfl⟩
end Go.Proofs.YtddbiiejilcbbaaGreatDoor
namespace Go.Proofs.YtddbiiejilcbbaaGreatDoor
open Go.RowKit

theorem wrapI (a b : Nat) (h : a * b ≤ 9223372036854775807) : wrap64 ((a : Int) * (b : Int)) = ((a * b : Nat) : Int) := by
  rw [← Int.natCast_mul]; exact IntWalk.wrap64_in _ ⟨by omega, by omega⟩

set_option maxHeartbeats 400000 in
theorem rmul_any (a b : Int) (w : World) :
    Calls Tryz.prog 49 #[.int .i64 a, .int .i64 b] w fun e w' => e = .returned (.int .i64 (mulI a b)) ∧ w' = w := by
  have HA : Hid (∀ w : World, Calls Tryz.prog 88 #[.int .i64 (clampI a)] w fun e w' => e = .returned (.int .i64 ((clampI a).natAbs : Int)) ∧ w' = w) := fun w => rsize_any _ w (clampI_ge a) (clampI_le a)
  have HB : Hid (∀ w : World, Calls Tryz.prog 88 #[.int .i64 (clampI b)] w fun e w' => e = .returned (.int .i64 ((clampI b).natAbs : Int)) ∧ w' = w) := fun w => rsize_any _ w (clampI_ge b) (clampI_le b)
  have hx : (clampI a).natAbs ≤ 1000000000000000 := by have := clampI_ge a; have := clampI_le a; omega
  have hy : (clampI b).natAbs ≤ 1000000000000000 := by have := clampI_ge b; have := clampI_le b; omega
  have HM : Hid (mulI a b = if sgR (clampI a) (clampI b) then -(ratN (clampI a).natAbs (clampI b).natAbs 1000000 : Int) else (ratN (clampI a).natAbs (clampI b).natAbs 1000000 : Int)) := mulI_ref a b
  have HM1 : Hid (∀ h : 1000000000000000 ≤ (clampI a).natAbs * (clampI b).natAbs / 1000000, clampI (signR (clampI a) (clampI b) 1000000000000000) = mulI a b) := fun h => by rw [HM.out]; exact clamp_max _ _ _ _ _ h
  have HM2 : Hid (clampI (signR (clampI a) (clampI b) (rndN ((clampI a).natAbs * (clampI b).natAbs / 1000000) ((clampI a).natAbs * (clampI b).natAbs % 1000000) 1000000)) = mulI a b) := by
    show clampI _ = mulI a b; rw [HM.out]; exact clamp_rnd _ _ _ _ _
  clear HM
  generalize (clampI a).natAbs = x at *
  generalize (clampI b).natAbs = y at *
  obtain ⟨q1, q2⟩ := halves x y
  rw [q1, q2] at HM2
  rw [q1] at HM1
  clear q1 q2
  have bx1 : x / 1000000 ≤ 1000000000 := by omega
  have by1 : y / 1000000 ≤ 1000000000 := by omega
  have bx0 : x % 1000000 ≤ 999999 := by omega
  have by0 : y % 1000000 ≤ 999999 := by omega
  have rx1 : (x : Int) / 1000000 = ((x / 1000000 : Nat) : Int) := by omega
  have rx0 : (x : Int) % 1000000 = ((x % 1000000 : Nat) : Int) := by omega
  have ry1 : (y : Int) / 1000000 = ((y / 1000000 : Nat) : Int) := by omega
  have ry0 : (y : Int) % 1000000 = ((y % 1000000 : Nat) : Int) := by omega
  generalize x / 1000000 = x1 at *
  generalize x % 1000000 = x0 at *
  generalize y / 1000000 = y1 at *
  generalize y % 1000000 = y0 at *
  have b11 : x1 * y1 ≤ 1000000000 * 1000000000 := Nat.mul_le_mul bx1 by1
  have b10 : x1 * y0 ≤ 1000000000 * 999999 := Nat.mul_le_mul bx1 by0
  have b01 : x0 * y1 ≤ 999999 * 1000000000 := Nat.mul_le_mul bx0 by1
  have b00 : x0 * y0 ≤ 999999 * 999999 := Nat.mul_le_mul bx0 by0
  have i1 : (x1 : Int) ≤ 1000000000 := by omega
  have i2 : (y1 : Int) ≤ 1000000000 := by omega
  have i3 : (x0 : Int) ≤ 999999 := by omega
  have i4 : (y0 : Int) ≤ 999999 := by omega
  have o11 : x1 * y1 ≤ 9223372036854775807 := by omega
  have o10 : x1 * y0 ≤ 9223372036854775807 := by omega
  have o01 : x0 * y1 ≤ 9223372036854775807 := by omega
  have o00 : x0 * y0 ≤ 9223372036854775807 := by omega
  have W : Hid (wrap64 ((x1 : Int) * (y1 : Int)) = ((x1 * y1 : Nat) : Int) ∧ wrap64 ((x1 : Int) * (y0 : Int)) = ((x1 * y0 : Nat) : Int) ∧ wrap64 ((x0 : Int) * (y1 : Int)) = ((x0 * y1 : Nat) : Int) ∧ wrap64 ((x0 : Int) * (y0 : Int)) = ((x0 * y0 : Nat) : Int)) :=
    ⟨wrapI _ _ o11, wrapI _ _ o10, wrapI _ _ o01, wrapI _ _ o00⟩
  clear o11 o10 o01 o00
  generalize x1 * y1 = H at *
  generalize x1 * y0 = P1 at *
  generalize x0 * y1 = P2 at *
  generalize x0 * y0 = Lw at *
  by_cases hH : 1000000000 < H
  · have HE : Hid (clampI (signR (clampI a) (clampI b) 1000000000000000) = mulI a b) := HM1.out (by omega)
    have d1 : decide ((1000000000 : Int) < (H : Int)) = true := by simp; omega
    have n1 : (0 : Int) ≤ (x1 : Int) := by omega
    have n2 : (0 : Int) ≤ (y1 : Int) := by omega
    have n3 : (0 : Int) ≤ (x0 : Int) := by omega
    have n4 : (0 : Int) ≤ (y0 : Int) := by omega
    have n5 : (0 : Int) ≤ (x : Int) := by omega
    have n6 : (0 : Int) ≤ (y : Int) := by omega
    have n7 : (0 : Int) ≤ (H : Int) := by omega
    have n8 : (0 : Int) ≤ (P1 : Int) := by omega
    have n9 : (0 : Int) ≤ (P2 : Int) := by omega
    have n10 : (0 : Int) ≤ (Lw : Int) := by omega
    have i5 : (x : Int) ≤ 1000000000000000 := by omega
    have i6 : (y : Int) ≤ 1000000000000000 := by omega
    clear HM1 HM2 hH b11 b10 b01 b00 bx1 by1 bx0 by0 hx hy
    generalize (x1 : Int) = X1 at *
    generalize (y1 : Int) = Y1 at *
    generalize (x0 : Int) = X0 at *
    generalize (y0 : Int) = Y0 at *
    generalize (x : Int) = X at *
    generalize (y : Int) = Y at *
    generalize (H : Int) = HI at *
    generalize (P1 : Int) = PA at *
    generalize (P2 : Int) = PB at *
    generalize (Lw : Int) = LI at *
    obtain ⟨r11, r10, r01, r00⟩ := W.out
    clear W
    go_enter Tryz.func49, Tryz.ntmps49
    go_wp2_with (first | (go_at_call 51; refine (rclamp_any _ _).mono ?_; rintro e w ⟨rfl, rfl⟩))
    refine (HA.out _).mono ?_
    rintro e w ⟨rfl, rfl⟩
    go_wp2_with fail
    refine (HB.out _).mono ?_
    rintro e w ⟨rfl, rfl⟩
    go_wp2_with fail
    refine (rsigned_any 1000000000000000 _ _ _ (by omega)).mono ?_
    rintro e w ⟨rfl, rfl⟩
    rw [HE.out]
    go_wp2
    go_ret
    exact ⟨rfl, rfl⟩
  · have d1 : decide ((1000000000 : Int) < (H : Int)) = false := by simp; omega
    obtain ⟨Q, hQ⟩ : ∃ Q, Q = H * 1000000 + P1 + P2 + Lw / 1000000 := ⟨_, rfl⟩
    obtain ⟨R, hR⟩ : ∃ R, R = Lw % 1000000 := ⟨_, rfl⟩
    rw [← hQ, ← hR] at HM2
    have rQ : (H : Int) * 1000000 + (P1 : Int) + (P2 : Int) + (Lw : Int) / 1000000 = (Q : Int) := by omega
    have rR : (Lw : Int) % 1000000 = (R : Int) := by omega
    have HS : Hid (∀ w : World, Calls Tryz.prog 90 #[.int .i64 Q, .int .i64 R, .int .i64 1000000] w fun e w' => e = .returned (.int .i64 (rndN Q R 1000000 : Int)) ∧ w' = w) := fun w => rrounded_any Q R 1000000 w (by omega) (by omega) (by omega)
    have bn : rndN Q R 1000000 ≤ 10000000000000000 := by have := rndN_le Q R 1000000; omega
    have HT : Hid (∀ w : World, Calls Tryz.prog 89 #[.int .i64 (rndN Q R 1000000 : Int), .int .i64 (clampI a), .int .i64 (clampI b)] w fun e w' => e = .returned (.int .i64 (mulI a b)) ∧ w' = w) := fun w => by
      have := rsigned_any (rndN Q R 1000000) (clampI a) (clampI b) w bn
      rw [HM2.out] at this; exact this
    have bH : (H : Int) ≤ 1000000000 := by omega
    have bP1 : (P1 : Int) ≤ 999999000000000 := by omega
    have bP2 : (P2 : Int) ≤ 999999000000000 := by omega
    have bL : (Lw : Int) ≤ 999998000001 := by omega
    generalize rndN Q R 1000000 = Z at *
    have n1 : (0 : Int) ≤ (x1 : Int) := by omega
    have n2 : (0 : Int) ≤ (y1 : Int) := by omega
    have n3 : (0 : Int) ≤ (x0 : Int) := by omega
    have n4 : (0 : Int) ≤ (y0 : Int) := by omega
    have n5 : (0 : Int) ≤ (x : Int) := by omega
    have n6 : (0 : Int) ≤ (y : Int) := by omega
    have n7 : (0 : Int) ≤ (H : Int) := by omega
    have n8 : (0 : Int) ≤ (P1 : Int) := by omega
    have n9 : (0 : Int) ≤ (P2 : Int) := by omega
    have n10 : (0 : Int) ≤ (Lw : Int) := by omega
    have i5 : (x : Int) ≤ 1000000000000000 := by omega
    have i6 : (y : Int) ≤ 1000000000000000 := by omega
    clear HM1 HM2 hH b11 b10 b01 b00 bx1 by1 bx0 by0 hx hy hQ hR bn
    generalize (x1 : Int) = X1 at *
    generalize (y1 : Int) = Y1 at *
    generalize (x0 : Int) = X0 at *
    generalize (y0 : Int) = Y0 at *
    generalize (x : Int) = X at *
    generalize (y : Int) = Y at *
    generalize (H : Int) = HI at *
    generalize (P1 : Int) = PA at *
    generalize (P2 : Int) = PB at *
    generalize (Lw : Int) = LI at *
    generalize (Q : Int) = QI at *
    generalize (R : Int) = RI at *
    obtain ⟨r11, r10, r01, r00⟩ := W.out
    clear W
    go_enter Tryz.func49, Tryz.ntmps49
    go_wp2_with (first | (go_at_call 51; refine (rclamp_any _ _).mono ?_; rintro e w ⟨rfl, rfl⟩))
    refine (HA.out _).mono ?_
    rintro e w ⟨rfl, rfl⟩
    go_wp2_with fail
    refine (HB.out _).mono ?_
    rintro e w ⟨rfl, rfl⟩
    go_wp2_with fail
    refine (HS.out _).mono ?_
    rintro e w ⟨rfl, rfl⟩
    go_wp2_with fail
    refine (HT.out _).mono ?_
    rintro e w ⟨rfl, rfl⟩
    go_wp2
    go_ret
    exact ⟨rfl, rfl⟩

theorem pow_step (x y k : Nat) (hy : 0 < y) : x * 10 ^ (k + 1) / y = 10 * (x * 10 ^ k / y) + 10 * (x * 10 ^ k % y) / y ∧ x * 10 ^ (k + 1) % y = 10 * (x * 10 ^ k % y) % y ∧ 10 * (x * 10 ^ k % y) / y ≤ 9 := by
  have e : x * 10 ^ (k + 1) = 10 * (x * 10 ^ k) := by rw [Nat.pow_succ, ← Nat.mul_assoc, Nat.mul_comm]
  rw [e]
  have d := Nat.div_add_mod (x * 10 ^ k) y
  have m := Nat.mod_lt (x * 10 ^ k) hy
  generalize x * 10 ^ k = p at *
  have e2 : 10 * p = y * (10 * (p / y)) + 10 * (p % y) := by
    rw [Nat.mul_left_comm, ← Nat.mul_add, d]
  refine ⟨?_, ?_, ?_⟩
  · rw [e2, Nat.mul_add_div hy]
  · rw [e2, Nat.mul_add_mod]
  · have : 10 * (p % y) / y < 10 := by rw [Nat.div_lt_iff_lt_mul hy]; omega
    omega

theorem pow_bound (x y k : Nat) (hy : 0 < y) (h : x / y ≤ 1000000000) (hk : k ≤ 6) : x * 10 ^ k / y ≤ 1000001000000 * 1000 := by
  have h1 : x < (1000000001) * y := Nat.lt_mul_of_div_lt (show x / y < 1000000001 by omega) hy
  have h2 : 10 ^ k ≤ 10 ^ 6 := Nat.pow_le_pow_right (by omega) hk
  have h3 : x * 10 ^ k ≤ (1000000001 * y) * 10 ^ 6 := Nat.mul_le_mul (by omega) h2
  have h4 : x * 10 ^ k / y ≤ ((1000000001 * y) * 10 ^ 6) / y := Nat.div_le_div_right h3
  rw [Nat.mul_right_comm, Nat.mul_div_cancel _ hy] at h4
  omega

theorem big_div {x y : Nat} (hy : 0 < y) (h : 1000000000 < x / y) : 1000000000000000 ≤ x * 1000000 / y := by
  rw [Nat.le_div_iff_mul_le hy]
  have h1 : (1000000001) * y ≤ x := (Nat.le_div_iff_mul_le hy).1 (by omega)
  omega

set_option maxHeartbeats 400000 in
theorem rdiv_any (a b : Int) (w : World) :
    Calls Tryz.prog 94 #[.int .i64 a, .int .i64 b] w fun e w' => e = .returned (.int .i64 (divI a b)) ∧ w' = w := by
  by_cases hb0 : b = 0
  · subst hb0
    have z := clampI_zero
    have z2 : Hid (divI a 0 = 0) := divI_zero a
    go_enter Tryz.func94, Tryz.ntmps94
    go_wp2_with (first | (go_at_call 51; refine (rclamp_any _ _).mono ?_; rintro e w ⟨rfl, rfl⟩))
    go_ret
    exact ⟨ret_int z2.out.symm, rfl⟩
  have hbne := clampI_ne hb0
  have d0 : (clampI b == 0) = false := by simpa using hbne
  have HA : Hid (∀ w : World, Calls Tryz.prog 88 #[.int .i64 (clampI a)] w fun e w' => e = .returned (.int .i64 ((clampI a).natAbs : Int)) ∧ w' = w) := fun w => rsize_any _ w (clampI_ge a) (clampI_le a)
  have HB : Hid (∀ w : World, Calls Tryz.prog 88 #[.int .i64 (clampI b)] w fun e w' => e = .returned (.int .i64 ((clampI b).natAbs : Int)) ∧ w' = w) := fun w => rsize_any _ w (clampI_ge b) (clampI_le b)
  have hx : (clampI a).natAbs ≤ 1000000000000000 := by have := clampI_ge a; have := clampI_le a; omega
  have hy : (clampI b).natAbs ≤ 1000000000000000 := by have := clampI_ge b; have := clampI_le b; omega
  have hy0 : 0 < (clampI b).natAbs := by omega
  have HM := divI_ref (a := a) hb0
  have HM1 : 1000000000000000 ≤ (clampI a).natAbs * 1000000 / (clampI b).natAbs → clampI (signR (clampI a) (clampI b) 1000000000000000) = divI a b := fun h => by rw [HM]; exact clamp_max _ _ _ _ _ h
  have HM2 : clampI (signR (clampI a) (clampI b) (rndN ((clampI a).natAbs * 1000000 / (clampI b).natAbs) ((clampI a).natAbs * 1000000 % (clampI b).natAbs) (clampI b).natAbs)) = divI a b := by
    rw [HM]; exact clamp_rnd _ _ _ _ _
  clear HM hb0
  generalize (clampI a).natAbs = x at *
  generalize (clampI b).natAbs = y at *
  have e1 : ((y : Int) == 0) = false := by simp; omega
  have y1 : (1 : Int) ≤ (y : Int) := by omega
  have y2 : (y : Int) ≤ 1000000000000000 := by omega
  have x2 : (x : Int) ≤ 1000000000000000 := by omega
  have m0 := Nat.mod_lt x hy0
  have s0 := Nat.div_le_self x y
  obtain ⟨q, hq⟩ : ∃ q, q = x / y := ⟨_, rfl⟩
  obtain ⟨r, hr⟩ : ∃ r, r = x % y := ⟨_, rfl⟩
  have rq : (x : Int) / (y : Int) = (q : Int) := by rw [hq]; exact (Int.natCast_ediv x y).symm
  have rr : (x : Int) % (y : Int) = (r : Int) := by rw [hr]; exact (Int.natCast_emod x y).symm
  rw [← hq] at s0
  have bq : (q : Int) ≤ 1000000000000000 := by omega
  by_cases hH : 1000000000 < q
  · have HE : Hid (clampI (signR (clampI a) (clampI b) 1000000000000000) = divI a b) := HM1 (big_div hy0 (hq ▸ hH))
    have d1 : decide ((1000000000 : Int) < (q : Int)) = true := by simp; omega
    clear HM1 HM2 hH hx hy hq hr m0 s0 hbne
    go_enter Tryz.func94, Tryz.ntmps94
    go_wp2_with (first | (go_at_call 51; refine (rclamp_any _ _).mono ?_; rintro e w ⟨rfl, rfl⟩))
    refine (HA.out _).mono ?_
    rintro e w ⟨rfl, rfl⟩
    go_wp2_with fail
    refine (HB.out _).mono ?_
    rintro e w ⟨rfl, rfl⟩
    go_wp2_with fail
    refine (rsigned_any 1000000000000000 _ _ _ (by omega)).mono ?_
    rintro e w ⟨rfl, rfl⟩
    rw [HE.out]
    go_wp2
    go_ret
    exact ⟨rfl, rfl⟩
  · have d1 : decide ((1000000000 : Int) < (q : Int)) = false := by simp; omega
    have HP : Hid (∀ k, k ≤ 6 → x * 10 ^ k / y ≤ 1000001000000 * 1000) := fun k hk => pow_bound x y k hy0 (by omega) hk
    have HQ : Hid (q = x * 10 ^ 0 / y ∧ r = x * 10 ^ 0 % y) := ⟨by rw [hq]; simp, by rw [hr]; simp⟩
    have HZ : Hid (clampI (signR (clampI a) (clampI b) (rndN (x * 10 ^ 6 / y) (x * 10 ^ 6 % y) y)) = divI a b) := HM2
    clear HM1 HM2 hH hx hq hr m0 s0 hbne
    go_enter Tryz.func94, Tryz.ntmps94
    go_wp2_with (first | (go_at_call 51; refine (rclamp_any _ _).mono ?_; rintro e w ⟨rfl, rfl⟩))
    refine (HA.out _).mono ?_
    rintro e w ⟨rfl, rfl⟩
    go_wp2_with fail
    refine (HB.out _).mono ?_
    rintro e w ⟨rfl, rfl⟩
    go_wp2_with fail
    go_loop [7, 8, 9] (fun a b i => ∃ k : Nat, k ≤ 6 ∧ i = .int .i64 k ∧ a = .int .i64 ((x * 10 ^ k / y : Nat) : Int) ∧ b = .int .i64 ((x * 10 ^ k % y : Nat) : Int)) (fun _ _ i => 6 - (intOf i).toNat)
    case atStart =>
      refine ⟨0, by omega, rfl, ?_, ?_⟩
      · rw [← HQ.out.1]
      · rw [← HQ.out.2, ← rr]
    case round =>
      obtain ⟨k, hk, rfl, rfl, rfl⟩ := hrel
      clear rq rr bq d1
      have p1 := HP.out k hk
      have p3 := Nat.mod_lt (x * 10 ^ k) hy0
      obtain ⟨s1, s2, s3⟩ := pow_step x y k hy0
      by_cases hlt : k < 6
      · have HS : Hid (x * 10 ^ (k + 1) / y = 10 * (x * 10 ^ k / y) + 10 * (x * 10 ^ k % y) / y ∧ x * 10 ^ (k + 1) % y = 10 * (x * 10 ^ k % y) % y) := ⟨s1, s2⟩
        clear s1 s2
        generalize x * 10 ^ k / y = Q at *
        generalize x * 10 ^ k % y = R at *
        obtain ⟨T, hT⟩ : ∃ T, T = 10 * R / y := ⟨_, rfl⟩
        obtain ⟨R', hR'⟩ : ∃ R', R' = 10 * R % y := ⟨_, rfl⟩
        rw [← hT] at s3
        have rT : 10 * (R : Int) / (y : Int) = (T : Int) := by rw [hT]; simp
        have rR : 10 * (R : Int) % (y : Int) = (R' : Int) := by rw [hR']; simp
        have HT : Hid (T = 10 * R / y) := hT
        have HR : Hid (R' = 10 * R % y) := hR'
        have bQ : (Q : Int) ≤ 1000001000000000 := by omega
        have bR : (R : Int) ≤ 1000000000000000 := by omega
        have bT : (T : Int) ≤ 9 := by omega
        clear hT hR' p1 p3 s3 hy
        go_wp2
        go_round
        case rel =>
          refine ⟨k + 1, by omega, by go_num, ?_, ?_⟩
          · rw [HS.out.1, ← HT.out]; go_num
          · rw [HS.out.2, ← HR.out, ← rR]
        case measure => simp [intOf]; omega
      · obtain rfl : k = 6 := by omega
        clear s1 s2 s3
        have HS := fun w => rrounded_any (x * 10 ^ 6 / y) (x * 10 ^ 6 % y) y w p3 hy (by omega)
        have bn : rndN (x * 10 ^ 6 / y) (x * 10 ^ 6 % y) y ≤ 10000000000000000 := by have := rndN_le (x * 10 ^ 6 / y) (x * 10 ^ 6 % y) y; omega
        have HT := fun w => rsigned_any (rndN (x * 10 ^ 6 / y) (x * 10 ^ 6 % y) y) (clampI a) (clampI b) w bn
        rw [HZ.out] at HT
        generalize rndN (x * 10 ^ 6 / y) (x * 10 ^ 6 % y) y = Z at *
        generalize x * 10 ^ 6 / y = Q at *
        generalize x * 10 ^ 6 % y = R at *
        have HSh : Hid (∀ w : World, Calls Tryz.prog 90 #[.int .i64 Q, .int .i64 R, .int .i64 y] w fun e w' => e = .returned (.int .i64 (Z : Int)) ∧ w' = w) := HS
        have HTh : Hid (∀ w : World, Calls Tryz.prog 89 #[.int .i64 (Z : Int), .int .i64 (clampI a), .int .i64 (clampI b)] w fun e w' => e = .returned (.int .i64 (divI a b)) ∧ w' = w) := HT
        clear HS HT bn p1 p3 hy
        go_wp2_with fail
        refine (HSh.out _).mono ?_
        rintro e w ⟨rfl, rfl⟩
        go_wp2_with fail
        refine (HTh.out _).mono ?_
        rintro e w ⟨rfl, rfl⟩
        go_wp2
        go_ret
        exact ⟨rfl, rfl⟩
end Go.Proofs.YtddbiiejilcbbaaGreatDoor
