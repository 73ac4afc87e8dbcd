/- texts put together: Plain Base DivPlain Div64 Div64W RatioPlain Ratio MulDiv RatioMath RefRatio RefMulDiv DApp DMath DBase DLoops DDate DFuncs DText DShow DRef DYears DRefB -/
import Derived.WalkKit
import Derived.Test.YthnojedlndblbaaGreatDoorChecked
import Derived.WalkSpells
import Derived.WalkLawsBesides
import Derived.Test.YthnojedlndblbaaGreatDoorShelf
import Derived.Laws.Bits64b
import Derived.Deep.QuietTactic
import Derived.BigQuiet
import Derived.Test.YthnojedlndblbaaGreatDoorNGa
import Derived.LoopTactic
import Derived.Below
import Derived.Handy
import Derived.Deep.RegionWith
namespace Go.Proofs.YthnojedlndblbaaGreatDoor
open Go Go.RowKit

/-- A number within its limits. -/
def clampI (a : Int) : Int := if 1000000000000000 < a then 1000000000000000 else if a < -1000000000000000 then -1000000000000000 else a

theorem clampI_le (a : Int) : clampI a ≤ 1000000000000000 := by unfold clampI; split <;> (try split) <;> omega
theorem clampI_ge (a : Int) : -1000000000000000 ≤ clampI a := by unfold clampI; split <;> (try split) <;> omega
theorem clampI_in {a : Int} (h1 : -1000000000000000 ≤ a) (h2 : a ≤ 1000000000000000) : clampI a = a := by unfold clampI; rw [if_neg (by omega), if_neg (by omega)]
theorem clampI_hi {a : Int} (h : 1000000000000000 < a) : clampI a = 1000000000000000 := by unfold clampI; rw [if_pos h]
theorem clampI_lo {a : Int} (h : a < -1000000000000000) : clampI a = -1000000000000000 := by unfold clampI; rw [if_neg (by omega), if_pos h]
end Go.Proofs.YthnojedlndblbaaGreatDoor
namespace Go.Proofs.YthnojedlndblbaaGreatDoor
open Go.RowKit

theorem ret_int {k : IntKind} {a b : Int} (h : a = b) : Ending.returned (.int k a) = .returned (.int k b) := by rw [h]

set_option maxHeartbeats 400000 in
theorem clamp_any (a : Int) (w : World) :
    Calls Tryz.prog 94 #[.int .i64 a] w fun e w' => e = .returned (.int .i64 (clampI a)) ∧ w' = w := by
  by_cases h1 : 1000000000000000 < a
  · go_enter Tryz.func94, Tryz.ntmps94
    go_wp2
    go_ret
    exact ⟨ret_int (clampI_hi h1).symm, rfl⟩
  · by_cases h2 : a < -1000000000000000
    · go_enter Tryz.func94, Tryz.ntmps94
      go_wp2
      go_ret
      exact ⟨ret_int (clampI_lo h2).symm, rfl⟩
    · go_enter Tryz.func94, Tryz.ntmps94
      go_wp2
      go_ret
      exact ⟨ret_int (clampI_in (by omega) (by omega)).symm, rfl⟩

set_option maxHeartbeats 400000 in
theorem rclamp_any (a : Int) (w : World) :
    Calls Tryz.prog 84 #[.int .i64 a] w fun e w' => e = .returned (.int .i64 (clampI a)) ∧ w' = w := by
  by_cases h1 : 1000000000000000 < a
  · go_enter Tryz.func84, Tryz.ntmps84
    go_wp2
    go_ret
    exact ⟨ret_int (clampI_hi h1).symm, rfl⟩
  · by_cases h2 : a < -1000000000000000
    · go_enter Tryz.func84, Tryz.ntmps84
      go_wp2
      go_ret
      exact ⟨ret_int (clampI_lo h2).symm, rfl⟩
    · go_enter Tryz.func84, Tryz.ntmps84
      go_wp2
      go_ret
      exact ⟨ret_int (clampI_in (by omega) (by omega)).symm, rfl⟩

set_option maxHeartbeats 400000 in
theorem add_any (a b : Int) (w : World) :
    Calls Tryz.prog 113 #[.int .i64 a, .int .i64 b] w fun e w' => e = .returned (.int .i64 (clampI (clampI a + clampI b))) ∧ w' = w := by
  have l0 := clampI_le a
  have g0 := clampI_ge a
  have l1 := clampI_le b
  have g1 := clampI_ge b
  go_enter Tryz.func113, Tryz.ntmps113
  go_wp2_with (go_at_call 94; refine (clamp_any _ _).mono ?_; rintro e w' ⟨rfl, rfl⟩)
  go_ret
  exact ⟨rfl, rfl⟩

set_option maxHeartbeats 400000 in
theorem sub_any (a b : Int) (w : World) :
    Calls Tryz.prog 114 #[.int .i64 a, .int .i64 b] w fun e w' => e = .returned (.int .i64 (clampI (clampI a - clampI b))) ∧ w' = w := by
  have l0 := clampI_le a
  have g0 := clampI_ge a
  have l1 := clampI_le b
  have g1 := clampI_ge b
  go_enter Tryz.func114, Tryz.ntmps114
  go_wp2_with (go_at_call 94; refine (clamp_any _ _).mono ?_; rintro e w' ⟨rfl, rfl⟩)
  go_ret
  exact ⟨rfl, rfl⟩

set_option maxHeartbeats 400000 in
theorem radd_any (a b : Int) (w : World) :
    Calls Tryz.prog 85 #[.int .i64 a, .int .i64 b] w fun e w' => e = .returned (.int .i64 (clampI (clampI a + clampI b))) ∧ w' = w := by
  have l0 := clampI_le a
  have g0 := clampI_ge a
  have l1 := clampI_le b
  have g1 := clampI_ge b
  go_enter Tryz.func85, Tryz.ntmps85
  go_wp2_with (go_at_call 84; refine (rclamp_any _ _).mono ?_; rintro e w' ⟨rfl, rfl⟩)
  go_ret
  exact ⟨rfl, rfl⟩

set_option maxHeartbeats 400000 in
theorem neg_any (a : Int) (w : World) :
    Calls Tryz.prog 57 #[.int .i64 a] w fun e w' => e = .returned (.int .i64 (- clampI a)) ∧ w' = w := by
  have l0 := clampI_le a
  have g0 := clampI_ge a
  go_enter Tryz.func57, Tryz.ntmps57
  go_wp2_with (go_at_call 94; refine (clamp_any _ _).mono ?_; rintro e w' ⟨rfl, rfl⟩)
  go_ret
  exact ⟨rfl, rfl⟩

set_option maxHeartbeats 400000 in
theorem rneg_any (a : Int) (w : World) :
    Calls Tryz.prog 50 #[.int .i64 a] w fun e w' => e = .returned (.int .i64 (- clampI a)) ∧ w' = w := by
  have l0 := clampI_le a
  have g0 := clampI_ge a
  go_enter Tryz.func50, Tryz.ntmps50
  go_wp2_with (go_at_call 84; refine (rclamp_any _ _).mono ?_; rintro e w' ⟨rfl, rfl⟩)
  go_ret
  exact ⟨rfl, rfl⟩

set_option maxHeartbeats 400000 in
theorem whole_any (a : Int) (w : World) :
    Calls Tryz.prog 118 #[.int .i64 a] w fun e w' => e = .returned (.int .i64 ((clampI a).tdiv 1000000)) ∧ w' = w := by
  have l0 := clampI_le a
  have g0 := clampI_ge a
  go_enter Tryz.func118, Tryz.ntmps118
  go_wp2_with (go_at_call 94; refine (clamp_any _ _).mono ?_; rintro e w' ⟨rfl, rfl⟩)
  go_ret
  exact ⟨rfl, rfl⟩

set_option maxHeartbeats 400000 in
theorem rwhole_any (a : Int) (w : World) :
    Calls Tryz.prog 90 #[.int .i64 a] w fun e w' => e = .returned (.int .i64 ((clampI a).tdiv 1000000)) ∧ w' = w := by
  have l0 := clampI_le a
  have g0 := clampI_ge a
  go_enter Tryz.func90, Tryz.ntmps90
  go_wp2_with (go_at_call 84; refine (rclamp_any _ _).mono ?_; rintro e w' ⟨rfl, rfl⟩)
  go_ret
  exact ⟨rfl, rfl⟩

set_option maxHeartbeats 400000 in
theorem rsub_any (a b : Int) (w : World) :
    Calls Tryz.prog 86 #[.int .i64 a, .int .i64 b] w fun e w' => e = .returned (.int .i64 (clampI (clampI a - clampI b))) ∧ w' = w := by
  have l0 := clampI_le a
  have g0 := clampI_ge a
  have l1 := clampI_le b
  have g1 := clampI_ge b
  go_enter Tryz.func86, Tryz.ntmps86
  go_wp2_with (first | (go_at_call 50; refine (rneg_any _ _).mono ?_; rintro e w' ⟨rfl, rfl⟩) | (go_at_call 85; refine (radd_any _ _ _).mono ?_; rintro e w' ⟨rfl, rfl⟩))
  go_ret
  exact ⟨ret_int (by rw [clampI_in (a := - clampI b) (by omega) (by omega)]; rfl), rfl⟩

end Go.Proofs.YthnojedlndblbaaGreatDoor
namespace Go.Proofs.YthnojedlndblbaaGreatDoor

section
variable {Y y1 y0 u v q r : Nat}

theorem kn_expand (hY : Y = y1 * 4294967296 + y0) (q : Nat) : q * Y = (q * y1) * 4294967296 + q * y0 := by
  rw [hY, Nat.mul_add, Nat.mul_assoc]

theorem kn_Q_lt (hu : u < Y) (hv : v < 4294967296) : (u * 4294967296 + v) / Y < 4294967296 := by
  rw [Nat.div_lt_iff_lt_mul (by omega)]
  have : (u + 1) * 4294967296 ≤ Y * 4294967296 := Nat.mul_le_mul_right _ hu
  omega

/-- The first guess is not too small. -/
theorem kn_start (hY : Y = y1 * 4294967296 + y0) (h1 : 0 < y1) : (u * 4294967296 + v) / Y ≤ u / y1 ∨ v ≥ 4294967296 := by
  by_cases hv : v < 4294967296
  · left
    have h2 : (u * 4294967296 + v) / Y ≤ (u * 4294967296 + v) / (y1 * 4294967296) := Nat.div_le_div_left (by omega) (by omega)
    have h3 : (u * 4294967296 + v) / (y1 * 4294967296) = u / y1 := by
      rw [Nat.mul_comm y1, ← Nat.div_div_eq_div_mul]
      congr 1
      omega
    omega
  · right; omega

theorem kn_big (hu : u < Y) (hv : v < 4294967296) (hq : 4294967296 ≤ q) : (u * 4294967296 + v) / Y ≤ q - 1 := by
  have := kn_Q_lt hu hv; omega

theorem kn_more (hY : Y = y1 * 4294967296 + y0) (hu : u < Y) (he : q * y1 + r = u) (hc : 4294967296 * r + v < q * y0) : (u * 4294967296 + v) / Y ≤ q - 1 ∧ 1 ≤ q := by
  have hq : 1 ≤ q := by
    rcases Nat.eq_zero_or_pos q with h | h
    · subst h; simp at hc
    · exact h
  refine ⟨?_, hq⟩
  have e := kn_expand hY q
  have : (u * 4294967296 + v) / Y < q := by
    rw [Nat.div_lt_iff_lt_mul (by omega), e]
    generalize q * y1 = P at *
    generalize q * y0 = S at *
    omega
  omega

theorem kn_done (hY : Y = y1 * 4294967296 + y0) (hu : u < Y) (he : q * y1 + r = u) (hQ : (u * 4294967296 + v) / Y ≤ q) (hc : q * y0 ≤ 4294967296 * r + v) : q = (u * 4294967296 + v) / Y := by
  refine Nat.le_antisymm ?_ hQ
  rw [Nat.le_div_iff_mul_le (by omega), kn_expand hY q]
  generalize q * y1 = P at *
  generalize q * y0 = S at *
  omega

theorem kn_break (hY : Y = y1 * 4294967296 + y0) (h0 : y0 < 4294967296) (hu : u < Y) (he : q * y1 + r = u) (hQ : (u * 4294967296 + v) / Y ≤ q) (hr : 4294967296 ≤ r) : q = (u * 4294967296 + v) / Y := by
  have hq : q < 4294967296 := by
    have : q * y1 < 4294967296 * y1 := by
      rw [Nat.mul_comm 4294967296]
      generalize q * y1 = P at *
      omega
    exact Nat.lt_of_mul_lt_mul_right this
  have hS : q * y0 ≤ 4294967295 * 4294967295 := Nat.mul_le_mul (by omega) (by omega)
  refine Nat.le_antisymm ?_ hQ
  rw [Nat.le_div_iff_mul_le (by omega), kn_expand hY q]
  generalize q * y1 = P at *
  generalize q * y0 = S at *
  omega

/-- The two digits together. -/
theorem kn_join {Y u u1 u0 Q1 R1 Q0 R0 : Nat} (e1 : Q1 * Y + R1 = u * 4294967296 + u1) (e0 : Q0 * Y + R0 = R1 * 4294967296 + u0) :
    (Q1 * 4294967296 + Q0) * Y + R0 = (u * 4294967296 + u1) * 4294967296 + u0 := by
  rw [Nat.add_mul, Nat.mul_right_comm]
  generalize Q1 * Y = A at *
  generalize Q0 * Y = B at *
  omega

/-- What was shifted is shifted back. -/
theorem kn_back {n y s Q R : Nat} (h : Q * (y * 2 ^ s) + R = n * 2 ^ s) (hR : R < y * 2 ^ s) : Q = n / y ∧ R / 2 ^ s = n % y := by
  have hp : 0 < 2 ^ s := Nat.two_pow_pos s
  have hd : 2 ^ s ∣ R := by
    have h1 : 2 ^ s ∣ n * 2 ^ s := Nat.dvd_mul_left _ _
    have h2 : 2 ^ s ∣ Q * (y * 2 ^ s) := Nat.dvd_trans (Nat.dvd_mul_left _ y) (Nat.dvd_mul_left _ Q)
    rw [← h] at h1
    exact (Nat.dvd_add_right h2).1 h1
  obtain ⟨k, hk⟩ := hd
  subst hk
  have h3 : Q * y + k = n := by
    have : (Q * y + k) * 2 ^ s = n * 2 ^ s := by rw [← h, Nat.add_mul, Nat.mul_assoc, Nat.mul_comm k]
    exact Nat.eq_of_mul_eq_mul_right hp this
  have h4 : k < y := by
    rw [Nat.mul_comm] at hR
    exact Nat.lt_of_mul_lt_mul_right hR
  rw [Nat.mul_div_cancel_left _ hp]
  subst h3
  constructor
  · rw [Nat.mul_comm, Nat.mul_add_div (by omega), Nat.div_eq_of_lt h4]; rfl
  · rw [Nat.mul_comm, Nat.mul_add_mod, Nat.mod_eq_of_lt h4]
end
end Go.Proofs.YthnojedlndblbaaGreatDoor
namespace Go.Proofs.YthnojedlndblbaaGreatDoor
open Go.RowKit

theorem wrapN (a : Nat) : IntKind.u64.wrap (a : Int) = ((a % 18446744073709551616 : Nat) : Int) := by rw [IntKind.wrap_u64]; omega
theorem wrapMul (a b : Nat) : IntKind.u64.wrap ((a : Int) * (b : Int)) = ((a * b % 18446744073709551616 : Nat) : Int) := by rw [← Int.natCast_mul]; exact wrapN _
theorem wrapMulK (a : Nat) : IntKind.u64.wrap ((a : Int) * 4294967296) = ((a * 4294967296 % 18446744073709551616 : Nat) : Int) := wrapMul a 4294967296

theorem mod_calc {T R u v : Nat} (h : T + R = u * 4294967296 + v) (hR : R < 18446744073709551616) :
    IntKind.u64.wrap ((((u * 4294967296 % 18446744073709551616 + v) % 18446744073709551616 : Nat) : Int) - ((T % 18446744073709551616 : Nat) : Int)) = (R : Int) := by
  rw [IntKind.wrap_u64]
  omega

/-- The rest behind a digit, as the walk reckons it: modulo 2^64. -/
theorem rest_rules {Y u v Q : Nat} (hYb : Y ≤ 18446744073709551616) (hY0 : 0 < Y) (hQ : Q = (u * 4294967296 + v) / Y) :
    ∃ A B C R : Nat, IntKind.u64.wrap ((u : Int) * 4294967296) = (A : Int) ∧ IntKind.u64.wrap ((A : Int) + (v : Int)) = (B : Int) ∧ IntKind.u64.wrap ((Q : Int) * (Y : Int)) = (C : Int) ∧
      IntKind.u64.wrap ((B : Int) - (C : Int)) = (R : Int) ∧ R < Y ∧ Q * Y + R = u * 4294967296 + v := by
  have h1 : Q * Y + (u * 4294967296 + v) % Y = u * 4294967296 + v := hQ ▸ Nat.div_add_mod' (u * 4294967296 + v) Y
  have h2 := Nat.mod_lt (u * 4294967296 + v) (show Y > 0 from hY0)
  refine ⟨_, ((u * 4294967296 % 18446744073709551616 + v) % 18446744073709551616), _, (u * 4294967296 + v) % Y, wrapMulK u, ?_, wrapMul Q Y, mod_calc h1 (Nat.lt_of_lt_of_le h2 hYb), h2, h1⟩
  rw [← Int.natCast_add]; exact wrapN _

/-- The first guess of a digit. -/
theorem guess_rules {Y y1 y0 u : Nat} (hY : Y = y1 * 4294967296 + y0) (h1 : 0 < y1) (hy1 : y1 < 4294967296) (hub : u < 18446744073709551616) :
    ∃ q p r : Nat, (u : Int) / (y1 : Int) = (q : Int) ∧ IntKind.u64.wrap (q : Int) = (q : Int) ∧ IntKind.u64.wrap ((q : Int) * (y1 : Int)) = (p : Int) ∧ (u : Int) - (p : Int) = (r : Int) ∧ p ≤ u ∧ r < 4294967296 ∧
      (q * y1 + r = u) ∧ ∀ v, v < 4294967296 → (u * 4294967296 + v) / Y ≤ q := by
  have dm := Nat.div_add_mod' u y1
  have dl := Nat.mod_lt u (show y1 > 0 by omega)
  have dq := Nat.div_le_self u y1
  have ds : ∀ v, v < 4294967296 → (u * 4294967296 + v) / Y ≤ u / y1 := fun v hv => (kn_start hY h1).resolve_right (by omega)
  have de := (Int.natCast_ediv u y1).symm
  generalize u / y1 = q at *
  generalize u % y1 = r at *
  refine ⟨q, q * y1, r, de, IntWalk.u64_in _ ⟨by omega, by omega⟩, ?_, by omega, by omega, by omega, dm, ds⟩
  rw [← Int.natCast_mul]
  generalize q * y1 = p at *
  exact IntWalk.u64_in _ ⟨by omega, by omega⟩

/-- What the division leaves: two digits, and the rest, shifted back. -/
def DivOk (Y u u1 u0 s : Nat) (w : World) (e : Ending) (w' : World) : Prop :=
  ∃ Q1 R1 Q0 R0 : Nat, Q1 < 4294967296 ∧ Q0 < 4294967296 ∧ Q1 * Y + R1 = u * 4294967296 + u1 ∧ Q0 * Y + R0 = R1 * 4294967296 + u0 ∧ R0 < Y ∧
      e = .returned (.tuple #[.int .u64 ((Q1 : Int) * 4294967296 + (Q0 : Int)), .int .u64 ((R0 : Int) / 2 ^ s)]) ∧ w' = w

set_option maxRecDepth 100000 in
set_option maxHeartbeats 3200000 in
theorem div64_core (hi lo y s Y y1 y0 u L u1 u0 : Nat) (w : World) (h1 : hi < y) (h0 : 0 < hi) (hs : s ≤ 63)
    (hlz : ∀ w : World, Calls Tryz.prog 159 #[.int .u64 y] w fun e w' => e = .returned (.int .i64 s) ∧ w' = w)
    (rY : IntKind.u64.wrap ((y : Int) * 2 ^ s) = (Y : Int)) (rY0 : bits .and .u64 (Y : Int) 4294967295 = (y0 : Int)) (rY1 : (Y : Int) / 4294967296 = (y1 : Int))
    (rU : bits .or .u64 (IntKind.u64.wrap ((hi : Int) * 2 ^ s)) ((lo : Int) / 2 ^ (64 - s)) = (u : Int))
    (rL : IntKind.u64.wrap ((lo : Int) * 2 ^ s) = (L : Int)) (rL0 : bits .and .u64 (L : Int) 4294967295 = (u0 : Int)) (rL1 : (L : Int) / 4294967296 = (u1 : Int))
    (hY : Y = y1 * 4294967296 + y0) (hy1 : 2147483648 ≤ y1) (hy1' : y1 < 4294967296) (hy0 : y0 < 4294967296) (hu : u < Y) (hu1 : u1 < 4294967296) (hu0 : u0 < 4294967296) :
    Calls Tryz.prog 157 #[.int .u64 hi, .int .u64 lo, .int .u64 y] w fun e w' => DivOk Y u u1 u0 s w e w' := by
  have e1 : ((y : Int) == 0) = false := by simp; omega
  have e2 : ((hi : Int) == 0) = false := by simp; omega
  have e4 : ((y1 : Int) == 0) = false := by simp; omega
  have e3 : ¬ ((y : Int) ≤ (hi : Int)) := by omega
  have HL : Hid (∀ w : World, Calls Tryz.prog 159 #[.int .u64 y] w fun e w' => e = .returned (.int .i64 s) ∧ w' = w) := hlz
  have HY : Hid (Y = y1 * 4294967296 + y0) := hY
  have bY : Y ≤ 18446744073709551615 := by omega
  obtain ⟨q, p, r, rq, rwq, rp, rr, rpu, rrl, heq, hQs⟩ := guess_rules (u := u) hY (by omega) hy1' (by omega)
  have HS : Hid (q * y1 + r = u ∧ (u * 4294967296 + u1) / Y ≤ q) := ⟨heq, hQs u1 hu1⟩
  clear hlz hY heq hQs
  go_enter Tryz.func157, Tryz.ntmps157
  go_wp2_with (go_at_call 159; refine (HL.out _).mono ?_; rintro e w ⟨rfl, rfl⟩)
  go_loop [15, 16] (fun a b => ∃ q r : Nat, a = .int .u64 q ∧ b = .int .u64 r ∧ q * y1 + r = u ∧ (u * 4294967296 + u1) / Y ≤ q ∧ r < 4294967296) (fun a _ => (intOf a).toNat)
  case atStart => exact ⟨q, r, rfl, rfl, HS.out.1, HS.out.2, rrl⟩
  case round =>
    obtain ⟨q1, r1, rfl, rfl, he, hQ, hr⟩ := hrel
    clear rq rwq rp rr rpu rrl HS
    by_cases c1 : 4294967296 ≤ q1
    · have hqq := kn_big (u := u) (v := u1) hu hu1 c1
      have d1 : decide ((4294967296 : Int) ≤ (q1 : Int)) = true := by simp; omega
      obtain ⟨Q1, rz, hz⟩ : ∃ Q : Nat, (q1 : Int) - 1 = (Q : Int) ∧ q1 = Q + 1 := ⟨q1 - 1, by omega, by omega⟩
      obtain ⟨R1x, rn, hn⟩ : ∃ R : Nat, (r1 : Int) + (y1 : Int) = (R : Int) ∧ R = r1 + y1 := ⟨r1 + y1, by omega, rfl⟩
      have hee : Q1 * y1 + R1x = u := by rw [hz, Nat.add_mul] at he; omega
      have hQQ : (u * 4294967296 + u1) / Y ≤ Q1 := by omega
      have bqu : q1 ≤ q1 * y1 := Nat.le_mul_of_pos_right _ (by omega)
      have rzw : IntKind.u64.wrap (Q1 : Int) = (Q1 : Int) := IntWalk.u64_in _ ⟨by omega, by omega⟩
      have rnw : IntKind.u64.wrap (R1x : Int) = (R1x : Int) := IntWalk.u64_in _ ⟨by omega, by omega⟩
      have bR : (r1 : Int) < 4294967296 := by omega
      have bq : (1 : Int) ≤ (q1 : Int) := by omega
      have ML : Hid (Q1 < q1) := by show Q1 < q1; omega
      clear hz hn he hQ hr bqu hqq c1
      by_cases c3 : 4294967296 ≤ R1x
      · have d3 : decide ((4294967296 : Int) ≤ (R1x : Int)) = true := by simp; omega
        have hQe := kn_break HY.out hy0 hu hee hQQ c3
        clear hee hQQ c3
        have bq1 : Q1 < 4294967296 := by rw [hQe]; exact kn_Q_lt hu hu1
        obtain ⟨A, B, C, R1, rA, rB, rC, rD, hR1, hR1e⟩ := rest_rules (v := u1) (u := u) (Q := Q1) (by omega) (by omega) hQe
        obtain ⟨q', p', r', rq, rwq, rp, rr, rpu, rrl, heq', hQs⟩ := guess_rules (u := R1) HY.out (by omega) hy1' (by omega)
        have HS : Hid (q' * y1 + r' = R1 ∧ (R1 * 4294967296 + u0) / Y ≤ q') := ⟨heq', hQs u0 hu0⟩
        have HE : Hid (Q1 * Y + R1 = u * 4294967296 + u1) := hR1e
        clear heq' hQs hR1e hQe
        go_wp2
        go_loop [18, 16] (fun a b => ∃ q r : Nat, a = .int .u64 q ∧ b = .int .u64 r ∧ q * y1 + r = R1 ∧ (R1 * 4294967296 + u0) / Y ≤ q ∧ r < 4294967296) (fun a _ => (intOf a).toNat)
        case atStart => exact ⟨q', r', rfl, rfl, HS.out.1, HS.out.2, rrl⟩
        case round =>
          obtain ⟨q2, r2, rfl, rfl, he, hQ, hr⟩ := hrel
          clear rq rwq rp rr rpu rrl HS rA rB rC rD
          by_cases c1 : 4294967296 ≤ q2
          · have hqq := kn_big (u := R1) (v := u0) hR1 hu0 c1
            have d1 : decide ((4294967296 : Int) ≤ (q2 : Int)) = true := by simp; omega
            obtain ⟨Q2, rz, hz⟩ : ∃ Q : Nat, (q2 : Int) - 1 = (Q : Int) ∧ q2 = Q + 1 := ⟨q2 - 1, by omega, by omega⟩
            obtain ⟨R2x, rn, hn⟩ : ∃ R : Nat, (r2 : Int) + (y1 : Int) = (R : Int) ∧ R = r2 + y1 := ⟨r2 + y1, by omega, rfl⟩
            have hee : Q2 * y1 + R2x = R1 := by rw [hz, Nat.add_mul] at he; omega
            have hQQ : (R1 * 4294967296 + u0) / Y ≤ Q2 := by omega
            have bqu : q2 ≤ q2 * y1 := Nat.le_mul_of_pos_right _ (by omega)
            have rzw : IntKind.u64.wrap (Q2 : Int) = (Q2 : Int) := IntWalk.u64_in _ ⟨by omega, by omega⟩
            have rnw : IntKind.u64.wrap (R2x : Int) = (R2x : Int) := IntWalk.u64_in _ ⟨by omega, by omega⟩
            have bR : (r2 : Int) < 4294967296 := by omega
            have bq : (1 : Int) ≤ (q2 : Int) := by omega
            have ML : Hid (Q2 < q2) := by show Q2 < q2; omega
            clear hz hn he hQ hr bqu hqq c1
            by_cases c3 : 4294967296 ≤ R2x
            · have d3 : decide ((4294967296 : Int) ≤ (R2x : Int)) = true := by simp; omega
              have hQe := kn_break HY.out hy0 hR1 hee hQQ c3
              clear hee hQQ c3
              have bq2 : Q2 < 4294967296 := by rw [hQe]; exact kn_Q_lt hR1 hu0
              obtain ⟨A2, B2, C2, R0, rA2, rB2, rC2, rD2, hR0, hR0e⟩ := rest_rules (v := u0) (u := R1) (Q := Q2) (by omega) (by omega) hQe
              have HF : Hid (Q2 * Y + R0 = R1 * 4294967296 + u0) := hR0e
              clear hR0e hQe
              go_wp2
              go_ret2
              exact ⟨Q1, R1, Q2, R0, bq1, bq2, HE.out, HF.out, hR0, rfl, rfl⟩
            · have d3 : decide ((4294967296 : Int) ≤ (R2x : Int)) = false := by simp; omega
              have HR : Hid (Q2 * y1 + R2x = R1 ∧ (R1 * 4294967296 + u0) / Y ≤ Q2 ∧ R2x < 4294967296) := ⟨hee, hQQ, by omega⟩
              clear hee hQQ c3
              go_wp2
              go_round
              case rel => exact ⟨Q2, R2x, rfl, rfl, HR.out.1, HR.out.2.1, HR.out.2.2⟩
              case measure => have := ML.out; simp [intOf]; omega
          · have bS : q2 * y0 ≤ 4294967295 * 4294967295 := Nat.mul_le_mul (by omega) (by omega)
            obtain ⟨S, hS⟩ : ∃ S, S = q2 * y0 := ⟨_, rfl⟩
            have rS : IntKind.u64.wrap ((q2 : Int) * (y0 : Int)) = (S : Int) := by rw [← Int.natCast_mul, ← hS]; exact IntWalk.u64_in _ ⟨by omega, by omega⟩
            obtain ⟨KR, rK⟩ : ∃ KR : Nat, (4294967296 : Int) * (r2 : Int) = (KR : Int) := ⟨4294967296 * r2, by simp⟩
            have bK : (KR : Int) ≤ 18446744069414584320 := by omega
            have d1 : decide ((4294967296 : Int) ≤ (q2 : Int)) = false := by simp; omega
            by_cases c2 : 4294967296 * r2 + u0 < q2 * y0
            · obtain ⟨hqq, hq1⟩ := kn_more HY.out hR1 he c2
              have d2 : decide ((KR : Int) + (u0 : Int) < (S : Int)) = true := by simp; omega
              obtain ⟨Q2, rz, hz⟩ : ∃ Q : Nat, (q2 : Int) - 1 = (Q : Int) ∧ q2 = Q + 1 := ⟨q2 - 1, by omega, by omega⟩
              obtain ⟨R2x, rn, hn⟩ : ∃ R : Nat, (r2 : Int) + (y1 : Int) = (R : Int) ∧ R = r2 + y1 := ⟨r2 + y1, by omega, rfl⟩
              have hee : Q2 * y1 + R2x = R1 := by rw [hz, Nat.add_mul] at he; omega
              have hQQ : (R1 * 4294967296 + u0) / Y ≤ Q2 := by omega
              have bqu : q2 ≤ q2 * y1 := Nat.le_mul_of_pos_right _ (by omega)
              have rzw : IntKind.u64.wrap (Q2 : Int) = (Q2 : Int) := IntWalk.u64_in _ ⟨by omega, by omega⟩
              have rnw : IntKind.u64.wrap (R2x : Int) = (R2x : Int) := IntWalk.u64_in _ ⟨by omega, by omega⟩
              have bR : (r2 : Int) < 4294967296 := by omega
              have bq : (1 : Int) ≤ (q2 : Int) := by omega
              have ML : Hid (Q2 < q2) := by show Q2 < q2; omega
              clear hz hn he hQ hr bqu hqq hq1 c1 c2 hS bS
              by_cases c3 : 4294967296 ≤ R2x
              · have d3 : decide ((4294967296 : Int) ≤ (R2x : Int)) = true := by simp; omega
                have hQe := kn_break HY.out hy0 hR1 hee hQQ c3
                clear hee hQQ c3
                have bq2 : Q2 < 4294967296 := by rw [hQe]; exact kn_Q_lt hR1 hu0
                obtain ⟨A2, B2, C2, R0, rA2, rB2, rC2, rD2, hR0, hR0e⟩ := rest_rules (v := u0) (u := R1) (Q := Q2) (by omega) (by omega) hQe
                have HF : Hid (Q2 * Y + R0 = R1 * 4294967296 + u0) := hR0e
                clear hR0e hQe
                go_wp2
                go_ret2
                exact ⟨Q1, R1, Q2, R0, bq1, bq2, HE.out, HF.out, hR0, rfl, rfl⟩
              · have d3 : decide ((4294967296 : Int) ≤ (R2x : Int)) = false := by simp; omega
                have HR : Hid (Q2 * y1 + R2x = R1 ∧ (R1 * 4294967296 + u0) / Y ≤ Q2 ∧ R2x < 4294967296) := ⟨hee, hQQ, by omega⟩
                clear hee hQQ c3
                go_wp2
                go_round
                case rel => exact ⟨Q2, R2x, rfl, rfl, HR.out.1, HR.out.2.1, HR.out.2.2⟩
                case measure => have := ML.out; simp [intOf]; omega
            · have d2 : decide ((KR : Int) + (u0 : Int) < (S : Int)) = false := by simp; omega
              have hQe := kn_done HY.out hR1 he hQ (by omega)
              have bR : (r2 : Int) < 4294967296 := by omega
              clear he hQ hr c1 c2 hS bS
              have bq2 : q2 < 4294967296 := by rw [hQe]; exact kn_Q_lt hR1 hu0
              obtain ⟨A2, B2, C2, R0, rA2, rB2, rC2, rD2, hR0, hR0e⟩ := rest_rules (v := u0) (u := R1) (Q := q2) (by omega) (by omega) hQe
              have HF : Hid (q2 * Y + R0 = R1 * 4294967296 + u0) := hR0e
              clear hR0e hQe
              go_wp2
              go_ret2
              exact ⟨Q1, R1, q2, R0, bq1, bq2, HE.out, HF.out, hR0, rfl, rfl⟩
      · have d3 : decide ((4294967296 : Int) ≤ (R1x : Int)) = false := by simp; omega
        have HR : Hid (Q1 * y1 + R1x = u ∧ (u * 4294967296 + u1) / Y ≤ Q1 ∧ R1x < 4294967296) := ⟨hee, hQQ, by omega⟩
        clear hee hQQ c3
        go_wp2
        go_round
        case rel => exact ⟨Q1, R1x, rfl, rfl, HR.out.1, HR.out.2.1, HR.out.2.2⟩
        case measure => have := ML.out; simp [intOf]; omega
    · have bS : q1 * y0 ≤ 4294967295 * 4294967295 := Nat.mul_le_mul (by omega) (by omega)
      obtain ⟨S, hS⟩ : ∃ S, S = q1 * y0 := ⟨_, rfl⟩
      have rS : IntKind.u64.wrap ((q1 : Int) * (y0 : Int)) = (S : Int) := by rw [← Int.natCast_mul, ← hS]; exact IntWalk.u64_in _ ⟨by omega, by omega⟩
      obtain ⟨KR, rK⟩ : ∃ KR : Nat, (4294967296 : Int) * (r1 : Int) = (KR : Int) := ⟨4294967296 * r1, by simp⟩
      have bK : (KR : Int) ≤ 18446744069414584320 := by omega
      have d1 : decide ((4294967296 : Int) ≤ (q1 : Int)) = false := by simp; omega
      by_cases c2 : 4294967296 * r1 + u1 < q1 * y0
      · obtain ⟨hqq, hq1⟩ := kn_more HY.out hu he c2
        have d2 : decide ((KR : Int) + (u1 : Int) < (S : Int)) = true := by simp; omega
        obtain ⟨Q1, rz, hz⟩ : ∃ Q : Nat, (q1 : Int) - 1 = (Q : Int) ∧ q1 = Q + 1 := ⟨q1 - 1, by omega, by omega⟩
        obtain ⟨R1x, rn, hn⟩ : ∃ R : Nat, (r1 : Int) + (y1 : Int) = (R : Int) ∧ R = r1 + y1 := ⟨r1 + y1, by omega, rfl⟩
        have hee : Q1 * y1 + R1x = u := by rw [hz, Nat.add_mul] at he; omega
        have hQQ : (u * 4294967296 + u1) / Y ≤ Q1 := by omega
        have bqu : q1 ≤ q1 * y1 := Nat.le_mul_of_pos_right _ (by omega)
        have rzw : IntKind.u64.wrap (Q1 : Int) = (Q1 : Int) := IntWalk.u64_in _ ⟨by omega, by omega⟩
        have rnw : IntKind.u64.wrap (R1x : Int) = (R1x : Int) := IntWalk.u64_in _ ⟨by omega, by omega⟩
        have bR : (r1 : Int) < 4294967296 := by omega
        have bq : (1 : Int) ≤ (q1 : Int) := by omega
        have ML : Hid (Q1 < q1) := by show Q1 < q1; omega
        clear hz hn he hQ hr bqu hqq hq1 c1 c2 hS bS
        by_cases c3 : 4294967296 ≤ R1x
        · have d3 : decide ((4294967296 : Int) ≤ (R1x : Int)) = true := by simp; omega
          have hQe := kn_break HY.out hy0 hu hee hQQ c3
          clear hee hQQ c3
          have bq1 : Q1 < 4294967296 := by rw [hQe]; exact kn_Q_lt hu hu1
          obtain ⟨A, B, C, R1, rA, rB, rC, rD, hR1, hR1e⟩ := rest_rules (v := u1) (u := u) (Q := Q1) (by omega) (by omega) hQe
          obtain ⟨q', p', r', rq, rwq, rp, rr, rpu, rrl, heq', hQs⟩ := guess_rules (u := R1) HY.out (by omega) hy1' (by omega)
          have HS : Hid (q' * y1 + r' = R1 ∧ (R1 * 4294967296 + u0) / Y ≤ q') := ⟨heq', hQs u0 hu0⟩
          have HE : Hid (Q1 * Y + R1 = u * 4294967296 + u1) := hR1e
          clear heq' hQs hR1e hQe
          go_wp2
          go_loop [18, 16] (fun a b => ∃ q r : Nat, a = .int .u64 q ∧ b = .int .u64 r ∧ q * y1 + r = R1 ∧ (R1 * 4294967296 + u0) / Y ≤ q ∧ r < 4294967296) (fun a _ => (intOf a).toNat)
          case atStart => exact ⟨q', r', rfl, rfl, HS.out.1, HS.out.2, rrl⟩
          case round =>
            obtain ⟨q2, r2, rfl, rfl, he, hQ, hr⟩ := hrel
            clear rq rwq rp rr rpu rrl HS rA rB rC rD
            by_cases c1 : 4294967296 ≤ q2
            · have hqq := kn_big (u := R1) (v := u0) hR1 hu0 c1
              have d1 : decide ((4294967296 : Int) ≤ (q2 : Int)) = true := by simp; omega
              obtain ⟨Q2, rz, hz⟩ : ∃ Q : Nat, (q2 : Int) - 1 = (Q : Int) ∧ q2 = Q + 1 := ⟨q2 - 1, by omega, by omega⟩
              obtain ⟨R2x, rn, hn⟩ : ∃ R : Nat, (r2 : Int) + (y1 : Int) = (R : Int) ∧ R = r2 + y1 := ⟨r2 + y1, by omega, rfl⟩
              have hee : Q2 * y1 + R2x = R1 := by rw [hz, Nat.add_mul] at he; omega
              have hQQ : (R1 * 4294967296 + u0) / Y ≤ Q2 := by omega
              have bqu : q2 ≤ q2 * y1 := Nat.le_mul_of_pos_right _ (by omega)
              have rzw : IntKind.u64.wrap (Q2 : Int) = (Q2 : Int) := IntWalk.u64_in _ ⟨by omega, by omega⟩
              have rnw : IntKind.u64.wrap (R2x : Int) = (R2x : Int) := IntWalk.u64_in _ ⟨by omega, by omega⟩
              have bR : (r2 : Int) < 4294967296 := by omega
              have bq : (1 : Int) ≤ (q2 : Int) := by omega
              have ML : Hid (Q2 < q2) := by show Q2 < q2; omega
              clear hz hn he hQ hr bqu hqq c1
              by_cases c3 : 4294967296 ≤ R2x
              · have d3 : decide ((4294967296 : Int) ≤ (R2x : Int)) = true := by simp; omega
                have hQe := kn_break HY.out hy0 hR1 hee hQQ c3
                clear hee hQQ c3
                have bq2 : Q2 < 4294967296 := by rw [hQe]; exact kn_Q_lt hR1 hu0
                obtain ⟨A2, B2, C2, R0, rA2, rB2, rC2, rD2, hR0, hR0e⟩ := rest_rules (v := u0) (u := R1) (Q := Q2) (by omega) (by omega) hQe
                have HF : Hid (Q2 * Y + R0 = R1 * 4294967296 + u0) := hR0e
                clear hR0e hQe
                go_wp2
                go_ret2
                exact ⟨Q1, R1, Q2, R0, bq1, bq2, HE.out, HF.out, hR0, rfl, rfl⟩
              · have d3 : decide ((4294967296 : Int) ≤ (R2x : Int)) = false := by simp; omega
                have HR : Hid (Q2 * y1 + R2x = R1 ∧ (R1 * 4294967296 + u0) / Y ≤ Q2 ∧ R2x < 4294967296) := ⟨hee, hQQ, by omega⟩
                clear hee hQQ c3
                go_wp2
                go_round
                case rel => exact ⟨Q2, R2x, rfl, rfl, HR.out.1, HR.out.2.1, HR.out.2.2⟩
                case measure => have := ML.out; simp [intOf]; omega
            · have bS : q2 * y0 ≤ 4294967295 * 4294967295 := Nat.mul_le_mul (by omega) (by omega)
              obtain ⟨S, hS⟩ : ∃ S, S = q2 * y0 := ⟨_, rfl⟩
              have rS : IntKind.u64.wrap ((q2 : Int) * (y0 : Int)) = (S : Int) := by rw [← Int.natCast_mul, ← hS]; exact IntWalk.u64_in _ ⟨by omega, by omega⟩
              obtain ⟨KR, rK⟩ : ∃ KR : Nat, (4294967296 : Int) * (r2 : Int) = (KR : Int) := ⟨4294967296 * r2, by simp⟩
              have bK : (KR : Int) ≤ 18446744069414584320 := by omega
              have d1 : decide ((4294967296 : Int) ≤ (q2 : Int)) = false := by simp; omega
              by_cases c2 : 4294967296 * r2 + u0 < q2 * y0
              · obtain ⟨hqq, hq1⟩ := kn_more HY.out hR1 he c2
                have d2 : decide ((KR : Int) + (u0 : Int) < (S : Int)) = true := by simp; omega
                obtain ⟨Q2, rz, hz⟩ : ∃ Q : Nat, (q2 : Int) - 1 = (Q : Int) ∧ q2 = Q + 1 := ⟨q2 - 1, by omega, by omega⟩
                obtain ⟨R2x, rn, hn⟩ : ∃ R : Nat, (r2 : Int) + (y1 : Int) = (R : Int) ∧ R = r2 + y1 := ⟨r2 + y1, by omega, rfl⟩
                have hee : Q2 * y1 + R2x = R1 := by rw [hz, Nat.add_mul] at he; omega
                have hQQ : (R1 * 4294967296 + u0) / Y ≤ Q2 := by omega
                have bqu : q2 ≤ q2 * y1 := Nat.le_mul_of_pos_right _ (by omega)
                have rzw : IntKind.u64.wrap (Q2 : Int) = (Q2 : Int) := IntWalk.u64_in _ ⟨by omega, by omega⟩
                have rnw : IntKind.u64.wrap (R2x : Int) = (R2x : Int) := IntWalk.u64_in _ ⟨by omega, by omega⟩
                have bR : (r2 : Int) < 4294967296 := by omega
                have bq : (1 : Int) ≤ (q2 : Int) := by omega
                have ML : Hid (Q2 < q2) := by show Q2 < q2; omega
                clear hz hn he hQ hr bqu hqq hq1 c1 c2 hS bS
                by_cases c3 : 4294967296 ≤ R2x
                · have d3 : decide ((4294967296 : Int) ≤ (R2x : Int)) = true := by simp; omega
                  have hQe := kn_break HY.out hy0 hR1 hee hQQ c3
                  clear hee hQQ c3
                  have bq2 : Q2 < 4294967296 := by rw [hQe]; exact kn_Q_lt hR1 hu0
                  obtain ⟨A2, B2, C2, R0, rA2, rB2, rC2, rD2, hR0, hR0e⟩ := rest_rules (v := u0) (u := R1) (Q := Q2) (by omega) (by omega) hQe
                  have HF : Hid (Q2 * Y + R0 = R1 * 4294967296 + u0) := hR0e
                  clear hR0e hQe
                  go_wp2
                  go_ret2
                  exact ⟨Q1, R1, Q2, R0, bq1, bq2, HE.out, HF.out, hR0, rfl, rfl⟩
                · have d3 : decide ((4294967296 : Int) ≤ (R2x : Int)) = false := by simp; omega
                  have HR : Hid (Q2 * y1 + R2x = R1 ∧ (R1 * 4294967296 + u0) / Y ≤ Q2 ∧ R2x < 4294967296) := ⟨hee, hQQ, by omega⟩
                  clear hee hQQ c3
                  go_wp2
                  go_round
                  case rel => exact ⟨Q2, R2x, rfl, rfl, HR.out.1, HR.out.2.1, HR.out.2.2⟩
                  case measure => have := ML.out; simp [intOf]; omega
              · have d2 : decide ((KR : Int) + (u0 : Int) < (S : Int)) = false := by simp; omega
                have hQe := kn_done HY.out hR1 he hQ (by omega)
                have bR : (r2 : Int) < 4294967296 := by omega
                clear he hQ hr c1 c2 hS bS
                have bq2 : q2 < 4294967296 := by rw [hQe]; exact kn_Q_lt hR1 hu0
                obtain ⟨A2, B2, C2, R0, rA2, rB2, rC2, rD2, hR0, hR0e⟩ := rest_rules (v := u0) (u := R1) (Q := q2) (by omega) (by omega) hQe
                have HF : Hid (q2 * Y + R0 = R1 * 4294967296 + u0) := hR0e
                clear hR0e hQe
                go_wp2
                go_ret2
                exact ⟨Q1, R1, q2, R0, bq1, bq2, HE.out, HF.out, hR0, rfl, rfl⟩
        · have d3 : decide ((4294967296 : Int) ≤ (R1x : Int)) = false := by simp; omega
          have HR : Hid (Q1 * y1 + R1x = u ∧ (u * 4294967296 + u1) / Y ≤ Q1 ∧ R1x < 4294967296) := ⟨hee, hQQ, by omega⟩
          clear hee hQQ c3
          go_wp2
          go_round
          case rel => exact ⟨Q1, R1x, rfl, rfl, HR.out.1, HR.out.2.1, HR.out.2.2⟩
          case measure => have := ML.out; simp [intOf]; omega
      · have d2 : decide ((KR : Int) + (u1 : Int) < (S : Int)) = false := by simp; omega
        have hQe := kn_done HY.out hu he hQ (by omega)
        have bR : (r1 : Int) < 4294967296 := by omega
        clear he hQ hr c1 c2 hS bS
        have bq1 : q1 < 4294967296 := by rw [hQe]; exact kn_Q_lt hu hu1
        obtain ⟨A, B, C, R1, rA, rB, rC, rD, hR1, hR1e⟩ := rest_rules (v := u1) (u := u) (Q := q1) (by omega) (by omega) hQe
        obtain ⟨q', p', r', rq, rwq, rp, rr, rpu, rrl, heq', hQs⟩ := guess_rules (u := R1) HY.out (by omega) hy1' (by omega)
        have HS : Hid (q' * y1 + r' = R1 ∧ (R1 * 4294967296 + u0) / Y ≤ q') := ⟨heq', hQs u0 hu0⟩
        have HE : Hid (q1 * Y + R1 = u * 4294967296 + u1) := hR1e
        clear heq' hQs hR1e hQe
        go_wp2
        go_loop [18, 16] (fun a b => ∃ q r : Nat, a = .int .u64 q ∧ b = .int .u64 r ∧ q * y1 + r = R1 ∧ (R1 * 4294967296 + u0) / Y ≤ q ∧ r < 4294967296) (fun a _ => (intOf a).toNat)
        case atStart => exact ⟨q', r', rfl, rfl, HS.out.1, HS.out.2, rrl⟩
        case round =>
          obtain ⟨q2, r2, rfl, rfl, he, hQ, hr⟩ := hrel
          clear rq rwq rp rr rpu rrl HS rA rB rC rD
          by_cases c1 : 4294967296 ≤ q2
          · have hqq := kn_big (u := R1) (v := u0) hR1 hu0 c1
            have d1 : decide ((4294967296 : Int) ≤ (q2 : Int)) = true := by simp; omega
            obtain ⟨Q2, rz, hz⟩ : ∃ Q : Nat, (q2 : Int) - 1 = (Q : Int) ∧ q2 = Q + 1 := ⟨q2 - 1, by omega, by omega⟩
            obtain ⟨R2x, rn, hn⟩ : ∃ R : Nat, (r2 : Int) + (y1 : Int) = (R : Int) ∧ R = r2 + y1 := ⟨r2 + y1, by omega, rfl⟩
            have hee : Q2 * y1 + R2x = R1 := by rw [hz, Nat.add_mul] at he; omega
            have hQQ : (R1 * 4294967296 + u0) / Y ≤ Q2 := by omega
            have bqu : q2 ≤ q2 * y1 := Nat.le_mul_of_pos_right _ (by omega)
            have rzw : IntKind.u64.wrap (Q2 : Int) = (Q2 : Int) := IntWalk.u64_in _ ⟨by omega, by omega⟩
            have rnw : IntKind.u64.wrap (R2x : Int) = (R2x : Int) := IntWalk.u64_in _ ⟨by omega, by omega⟩
            have bR : (r2 : Int) < 4294967296 := by omega
            have bq : (1 : Int) ≤ (q2 : Int) := by omega
            have ML : Hid (Q2 < q2) := by show Q2 < q2; omega
            clear hz hn he hQ hr bqu hqq c1
            by_cases c3 : 4294967296 ≤ R2x
            · have d3 : decide ((4294967296 : Int) ≤ (R2x : Int)) = true := by simp; omega
              have hQe := kn_break HY.out hy0 hR1 hee hQQ c3
              clear hee hQQ c3
              have bq2 : Q2 < 4294967296 := by rw [hQe]; exact kn_Q_lt hR1 hu0
              obtain ⟨A2, B2, C2, R0, rA2, rB2, rC2, rD2, hR0, hR0e⟩ := rest_rules (v := u0) (u := R1) (Q := Q2) (by omega) (by omega) hQe
              have HF : Hid (Q2 * Y + R0 = R1 * 4294967296 + u0) := hR0e
              clear hR0e hQe
              go_wp2
              go_ret2
              exact ⟨q1, R1, Q2, R0, bq1, bq2, HE.out, HF.out, hR0, rfl, rfl⟩
            · have d3 : decide ((4294967296 : Int) ≤ (R2x : Int)) = false := by simp; omega
              have HR : Hid (Q2 * y1 + R2x = R1 ∧ (R1 * 4294967296 + u0) / Y ≤ Q2 ∧ R2x < 4294967296) := ⟨hee, hQQ, by omega⟩
              clear hee hQQ c3
              go_wp2
              go_round
              case rel => exact ⟨Q2, R2x, rfl, rfl, HR.out.1, HR.out.2.1, HR.out.2.2⟩
              case measure => have := ML.out; simp [intOf]; omega
          · have bS : q2 * y0 ≤ 4294967295 * 4294967295 := Nat.mul_le_mul (by omega) (by omega)
            obtain ⟨S, hS⟩ : ∃ S, S = q2 * y0 := ⟨_, rfl⟩
            have rS : IntKind.u64.wrap ((q2 : Int) * (y0 : Int)) = (S : Int) := by rw [← Int.natCast_mul, ← hS]; exact IntWalk.u64_in _ ⟨by omega, by omega⟩
            obtain ⟨KR, rK⟩ : ∃ KR : Nat, (4294967296 : Int) * (r2 : Int) = (KR : Int) := ⟨4294967296 * r2, by simp⟩
            have bK : (KR : Int) ≤ 18446744069414584320 := by omega
            have d1 : decide ((4294967296 : Int) ≤ (q2 : Int)) = false := by simp; omega
            by_cases c2 : 4294967296 * r2 + u0 < q2 * y0
            · obtain ⟨hqq, hq1⟩ := kn_more HY.out hR1 he c2
              have d2 : decide ((KR : Int) + (u0 : Int) < (S : Int)) = true := by simp; omega
              obtain ⟨Q2, rz, hz⟩ : ∃ Q : Nat, (q2 : Int) - 1 = (Q : Int) ∧ q2 = Q + 1 := ⟨q2 - 1, by omega, by omega⟩
              obtain ⟨R2x, rn, hn⟩ : ∃ R : Nat, (r2 : Int) + (y1 : Int) = (R : Int) ∧ R = r2 + y1 := ⟨r2 + y1, by omega, rfl⟩
              have hee : Q2 * y1 + R2x = R1 := by rw [hz, Nat.add_mul] at he; omega
              have hQQ : (R1 * 4294967296 + u0) / Y ≤ Q2 := by omega
              have bqu : q2 ≤ q2 * y1 := Nat.le_mul_of_pos_right _ (by omega)
              have rzw : IntKind.u64.wrap (Q2 : Int) = (Q2 : Int) := IntWalk.u64_in _ ⟨by omega, by omega⟩
              have rnw : IntKind.u64.wrap (R2x : Int) = (R2x : Int) := IntWalk.u64_in _ ⟨by omega, by omega⟩
              have bR : (r2 : Int) < 4294967296 := by omega
              have bq : (1 : Int) ≤ (q2 : Int) := by omega
              have ML : Hid (Q2 < q2) := by show Q2 < q2; omega
              clear hz hn he hQ hr bqu hqq hq1 c1 c2 hS bS
              by_cases c3 : 4294967296 ≤ R2x
              · have d3 : decide ((4294967296 : Int) ≤ (R2x : Int)) = true := by simp; omega
                have hQe := kn_break HY.out hy0 hR1 hee hQQ c3
                clear hee hQQ c3
                have bq2 : Q2 < 4294967296 := by rw [hQe]; exact kn_Q_lt hR1 hu0
                obtain ⟨A2, B2, C2, R0, rA2, rB2, rC2, rD2, hR0, hR0e⟩ := rest_rules (v := u0) (u := R1) (Q := Q2) (by omega) (by omega) hQe
                have HF : Hid (Q2 * Y + R0 = R1 * 4294967296 + u0) := hR0e
                clear hR0e hQe
                go_wp2
                go_ret2
                exact ⟨q1, R1, Q2, R0, bq1, bq2, HE.out, HF.out, hR0, rfl, rfl⟩
              · have d3 : decide ((4294967296 : Int) ≤ (R2x : Int)) = false := by simp; omega
                have HR : Hid (Q2 * y1 + R2x = R1 ∧ (R1 * 4294967296 + u0) / Y ≤ Q2 ∧ R2x < 4294967296) := ⟨hee, hQQ, by omega⟩
                clear hee hQQ c3
                go_wp2
                go_round
                case rel => exact ⟨Q2, R2x, rfl, rfl, HR.out.1, HR.out.2.1, HR.out.2.2⟩
                case measure => have := ML.out; simp [intOf]; omega
            · have d2 : decide ((KR : Int) + (u0 : Int) < (S : Int)) = false := by simp; omega
              have hQe := kn_done HY.out hR1 he hQ (by omega)
              have bR : (r2 : Int) < 4294967296 := by omega
              clear he hQ hr c1 c2 hS bS
              have bq2 : q2 < 4294967296 := by rw [hQe]; exact kn_Q_lt hR1 hu0
              obtain ⟨A2, B2, C2, R0, rA2, rB2, rC2, rD2, hR0, hR0e⟩ := rest_rules (v := u0) (u := R1) (Q := q2) (by omega) (by omega) hQe
              have HF : Hid (q2 * Y + R0 = R1 * 4294967296 + u0) := hR0e
              clear hR0e hQe
              go_wp2
              go_ret2
              exact ⟨q1, R1, q2, R0, bq1, bq2, HE.out, HF.out, hR0, rfl, rfl⟩

end Go.Proofs.YthnojedlndblbaaGreatDoor
namespace Go.Proofs.YthnojedlndblbaaGreatDoor
open Go.RowKit

theorem bitLenAux_spec : ∀ (f x : Nat), x < 2 ^ f → x < 2 ^ Lib.bitLenAux f x ∧ Lib.bitLenAux f x ≤ f ∧ (x ≠ 0 → 2 ^ Lib.bitLenAux f x ≤ 2 * x)
  | 0, x, h => by simp [Lib.bitLenAux]; have : x = 0 := by simpa using h
                  omega
  | f + 1, x, h => by
    unfold Lib.bitLenAux
    by_cases hx : x = 0
    · simp [hx]
    · rw [if_neg hx]
      obtain ⟨a, b, c⟩ := bitLenAux_spec f (x / 2) (by rw [Nat.pow_succ] at h; omega)
      rw [Nat.add_comm 1, Nat.pow_succ]
      refine ⟨by omega, by omega, fun _ => ?_⟩
      by_cases h2 : x / 2 = 0
      · have : Lib.bitLenAux f (x / 2) = 0 := by rw [h2]; cases f <;> simp [Lib.bitLenAux]
        rw [this]; simp; omega
      · have := c h2; omega

theorem bitLen_spec {y : Nat} (h0 : 0 < y) (h1 : y < 18446744073709551616) : Lib.bitLen y ≤ 64 ∧ 1 ≤ Lib.bitLen y ∧ 9223372036854775808 ≤ y * 2 ^ (64 - Lib.bitLen y) ∧ y * 2 ^ (64 - Lib.bitLen y) < 18446744073709551616 := by
  obtain ⟨a, b, c⟩ := bitLenAux_spec 64 y (by simpa using h1)
  have c' := c (by omega)
  show Lib.bitLenAux 64 y ≤ 64 ∧ 1 ≤ Lib.bitLenAux 64 y ∧ 9223372036854775808 ≤ y * 2 ^ (64 - Lib.bitLenAux 64 y) ∧ y * 2 ^ (64 - Lib.bitLenAux 64 y) < 18446744073709551616
  generalize Lib.bitLenAux 64 y = k at *
  have hk : 1 ≤ k := by
    rcases Nat.eq_zero_or_pos k with h | h
    · subst h; simp at a; omega
    · exact h
  have e : 2 ^ k * 2 ^ (64 - k) = 18446744073709551616 := by rw [← Nat.pow_add, show k + (64 - k) = 64 by omega]
  refine ⟨b, hk, ?_, ?_⟩
  · have : 2 ^ k * 2 ^ (64 - k) ≤ 2 * y * 2 ^ (64 - k) := Nat.mul_le_mul_right _ c'
    rw [e, Nat.mul_assoc] at this
    omega
  · have : y * 2 ^ (64 - k) < 2 ^ k * 2 ^ (64 - k) := Nat.mul_lt_mul_of_pos_right a (Nat.two_pow_pos _)
    rwa [e] at this

theorem maskN (a : Nat) (ha : a < 18446744073709551616) : bits .and .u64 (a : Int) 4294967295 = ((a % 4294967296 : Nat) : Int) := by
  have h := bits_and_u64_nat a 4294967295 ha (by omega)
  rw [Nat.and_two_pow_sub_one_eq_mod a 32] at h
  exact h

/-- What is shifted in from the lower word. -/
theorem low_shift {lo s : Nat} (hs : s ≤ 64) (hlo : lo < 18446744073709551616) : lo / 2 ^ (64 - s) < 2 ^ s ∧ lo * 2 ^ s = lo / 2 ^ (64 - s) * 18446744073709551616 + lo * 2 ^ s % 18446744073709551616 := by
  have e : 2 ^ (64 - s) * 2 ^ s = 18446744073709551616 := by rw [← Nat.pow_add, show 64 - s + s = 64 by omega]
  constructor
  · rw [Nat.div_lt_iff_lt_mul (Nat.two_pow_pos _), Nat.mul_comm, e]; exact hlo
  · have h : lo * 2 ^ s / 18446744073709551616 = lo / 2 ^ (64 - s) := by rw [← e]; exact Nat.mul_div_mul_right _ _ (Nat.two_pow_pos s)
    rw [← h]
    exact (Nat.div_add_mod' _ _).symm

theorem join_calc {a b c : Nat} (h : c = b * 18446744073709551616 + c % 18446744073709551616) :
    ((a + b) * 4294967296 + c % 18446744073709551616 / 4294967296) * 4294967296 + c % 18446744073709551616 % 4294967296 = a * 18446744073709551616 + c := by omega

theorem castMulPow (a s : Nat) : (a : Int) * 2 ^ s = ((a * 2 ^ s : Nat) : Int) := by simp
theorem castDivPow (a s : Nat) : (a : Int) / 2 ^ s = ((a / 2 ^ s : Nat) : Int) := by simp

theorem div64_pos (hi lo y : Nat) (w : World) (h0 : 0 < hi) (h1 : hi < y) (hlo : lo < 18446744073709551616) (hy : y < 18446744073709551616) :
    Calls Tryz.prog 157 #[.int .u64 hi, .int .u64 lo, .int .u64 y] w fun e w' =>
      e = .returned (.tuple #[.int .u64 (((hi * 18446744073709551616 + lo) / y : Nat) : Int), .int .u64 (((hi * 18446744073709551616 + lo) % y : Nat) : Int)]) ∧ w' = w := by
  obtain ⟨b1, b2, b3, b4⟩ := bitLen_spec (show 0 < y by omega) hy
  obtain ⟨s, hs⟩ : ∃ s, s = 64 - Lib.bitLen y := ⟨_, rfl⟩
  rw [← hs] at b3 b4
  obtain ⟨l1, l2⟩ := low_shift (s := s) (by omega) hlo
  have hlz : ∀ w : World, Calls Tryz.prog 159 #[.int .u64 y] w fun e w' => e = .returned (.int .i64 s) ∧ w' = w := fun w => by
    refine (Tryz.bits_LeadingZeros64 (y : Int) w (by omega) (by omega)).mono ?_
    rintro e w' ⟨rfl, hw⟩
    refine ⟨?_, hw⟩
    rw [Int.toNat_natCast, show (64 - (Lib.bitLen y : Int)) = (s : Int) by omega]
  have hu : hi * 2 ^ s + lo / 2 ^ (64 - s) < y * 2 ^ s := by
    have : (hi + 1) * 2 ^ s ≤ y * 2 ^ s := Nat.mul_le_mul_right _ h1
    rw [Nat.add_mul, Nat.one_mul] at this
    omega
  have hor : hi * 2 ^ s ||| lo / 2 ^ (64 - s) = hi * 2 ^ s + lo / 2 ^ (64 - s) := by
    rw [Nat.mul_comm]; exact (Nat.two_pow_add_eq_or_of_lt l1 hi).symm
  have hlb : lo / 2 ^ (64 - s) ≤ lo := Nat.div_le_self _ _
  have rU : bits .or .u64 (IntKind.u64.wrap ((hi : Int) * 2 ^ s)) ((lo : Int) / 2 ^ (64 - s)) = ((hi * 2 ^ s + lo / 2 ^ (64 - s) : Nat) : Int) := by
    rw [castMulPow, castDivPow, ← hor]
    generalize hi * 2 ^ s = a at *
    generalize lo / 2 ^ (64 - s) = b at *
    rw [IntWalk.u64_in _ ⟨by omega, by omega⟩]
    exact bits_or_u64_nat a b (by omega) (by omega)
  have rY : IntKind.u64.wrap ((y : Int) * 2 ^ s) = ((y * 2 ^ s : Nat) : Int) := by
    rw [castMulPow]
    generalize y * 2 ^ s = Y at *
    exact IntWalk.u64_in _ ⟨by omega, by omega⟩
  have rL : IntKind.u64.wrap ((lo : Int) * 2 ^ s) = ((lo * 2 ^ s % 18446744073709551616 : Nat) : Int) := by rw [castMulPow]; exact wrapN _
  refine (div64_core hi lo y s (y * 2 ^ s) (y * 2 ^ s / 4294967296) (y * 2 ^ s % 4294967296) (hi * 2 ^ s + lo / 2 ^ (64 - s)) (lo * 2 ^ s % 18446744073709551616) (lo * 2 ^ s % 18446744073709551616 / 4294967296) (lo * 2 ^ s % 18446744073709551616 % 4294967296) w h1 h0 (by omega) hlz rY (maskN _ b4) (by omega) rU rL (maskN _ (by omega)) (by omega) (by omega) (by omega) (by omega) (by omega) hu (by omega) (by omega)).mono ?_
  rintro e w' ⟨Q1, R1, Q0, R0, q1, q0, e1, e0, hR, rfl, hw⟩
  have hj := kn_join e1 e0
  have hn : ((hi * 2 ^ s + lo / 2 ^ (64 - s)) * 4294967296 + lo * 2 ^ s % 18446744073709551616 / 4294967296) * 4294967296 + lo * 2 ^ s % 18446744073709551616 % 4294967296 = (hi * 18446744073709551616 + lo) * 2 ^ s := by
    have m1 : (hi * 18446744073709551616 + lo) * 2 ^ s = hi * 2 ^ s * 18446744073709551616 + lo * 2 ^ s := (Nat.add_mul _ _ _).trans (congrArg (· + lo * 2 ^ s) (Nat.mul_right_comm hi 18446744073709551616 (2 ^ s)))
    exact (join_calc l2).trans m1.symm
  rw [hn] at hj
  obtain ⟨k1, k2⟩ := kn_back hj hR
  refine ⟨?_, hw⟩
  rw [← k1, ← k2, castDivPow]
  simp

set_option maxHeartbeats 400000 in
theorem div64_zero (lo y : Nat) (w : World) (h1 : 0 < y) (hlo : lo < 18446744073709551616) (hy : y < 18446744073709551616) :
    Calls Tryz.prog 157 #[.int .u64 0, .int .u64 lo, .int .u64 y] w fun e w' =>
      e = .returned (.tuple #[.int .u64 ((lo / y : Nat) : Int), .int .u64 ((lo % y : Nat) : Int)]) ∧ ∃ n, w' = w.drewN n := by
  have e1 : ((y : Int) == 0) = false := by simp; omega
  have e3 : ¬ ((y : Int) ≤ (0 : Int)) := by omega
  have dq := Nat.div_le_self lo y
  obtain ⟨q, hq⟩ : ∃ q, q = lo / y := ⟨_, rfl⟩
  obtain ⟨r, hr⟩ : ∃ r, r = lo % y := ⟨_, rfl⟩
  have rq : (lo : Int) / (y : Int) = (q : Int) := by rw [hq]; exact (Int.natCast_ediv lo y).symm
  have rr : (lo : Int) % (y : Int) = (r : Int) := by rw [hr]; exact (Int.natCast_emod lo y).symm
  rw [← hq] at dq
  have rw1 : IntKind.u64.wrap (q : Int) = (q : Int) := IntWalk.u64_in _ ⟨by omega, by omega⟩
  rw [← hq, ← hr]
  clear hq hr
  go_enter Tryz.func157, Tryz.ntmps157
  go_wp2_with fail
  go_quiet (fail)
  go_wp2
  go_ret2
  exact ⟨by rw [← rr]; rfl, nq, rfl⟩

/-- Every two words, every divisor above the higher one. -/
theorem div64_any (hi lo y : Nat) (w : World) (h1 : hi < y) (hlo : lo < 18446744073709551616) (hy : y < 18446744073709551616) :
    Calls Tryz.prog 157 #[.int .u64 hi, .int .u64 lo, .int .u64 y] w fun e w' =>
      e = .returned (.tuple #[.int .u64 (((hi * 18446744073709551616 + lo) / y : Nat) : Int), .int .u64 (((hi * 18446744073709551616 + lo) % y : Nat) : Int)]) ∧ ∃ n, w' = w.drewN n := by
  rcases Nat.eq_zero_or_pos hi with h | h
  · subst h
    rw [Nat.zero_mul, Nat.zero_add]
    exact div64_zero lo y w h1 hlo hy
  · refine (div64_pos hi lo y w h h1 hlo hy).mono ?_
    rintro e w ⟨rfl, rfl⟩
    exact ⟨rfl, 0, rfl⟩
end Go.Proofs.YthnojedlndblbaaGreatDoor
namespace Go.Proofs.YthnojedlndblbaaGreatDoor

/-- Is a rest nearer to the next number, or halfway with an odd one? -/
def upB (n r c : Nat) : Bool := decide (c - r < r) || (decide (r = c - r) && decide (n % 2 = 1))
/-- a b / c, rounded, at most 10^15. -/
def ratN (a b c : Nat) : Nat := if 1000000000000000 ≤ a * b / c then 1000000000000000 else if upB (a * b / c) (a * b % c) c then a * b / c + 1 else a * b / c
/-- Has the quotient another sign? -/
def sgnB (a b c : Int) : Bool := (decide (a < 0) != decide (b < 0)) != decide (c < 0)
def ratI (a b c : Int) : Int := if sgnB a b c then -(ratN a.natAbs b.natAbs c.natAbs : Int) else (ratN a.natAbs b.natAbs c.natAbs : Int)

theorem ratN_le (a b c : Nat) : ratN a b c ≤ 1000000000000000 := by unfold ratN; split <;> (try split) <;> omega
theorem ratI_le (a b c : Int) : ratI a b c ≤ 1000000000000000 := by have := ratN_le a.natAbs b.natAbs c.natAbs; unfold ratI; split <;> omega
theorem ratI_ge (a b c : Int) : -1000000000000000 ≤ ratI a b c := by have := ratN_le a.natAbs b.natAbs c.natAbs; unfold ratI; split <;> omega

def mulI (a b : Int) : Int := ratI (clampI a) (clampI b) 1000000
def divI (a b : Int) : Int := if b = 0 then 0 else ratI (clampI a) 1000000 (clampI b)
theorem clampI_ne {b : Int} (h : b ≠ 0) : clampI b ≠ 0 := by unfold clampI; split <;> (try split) <;> omega
end Go.Proofs.YthnojedlndblbaaGreatDoor
namespace Go.Proofs.YthnojedlndblbaaGreatDoor
open Go.RowKit

set_option maxHeartbeats 400000 in
theorem size_any (a : Int) (w : World) (h0 : -1000000000000000 ≤ a) (h1 : a ≤ 1000000000000000) :
    Calls Tryz.prog 147 #[.int .i64 a] w fun e w' => e = .returned (.int .u64 (a.natAbs : Int)) ∧ w' = w := by
  by_cases hn : a < 0
  · have e : Hid ((a.natAbs : Int) = -a) := by show (a.natAbs : Int) = -a; omega
    go_enter Tryz.func147, Tryz.ntmps147
    go_wp2
    go_ret
    exact ⟨ret_int e.out.symm, rfl⟩
  · have e : Hid ((a.natAbs : Int) = a) := by show (a.natAbs : Int) = a; omega
    go_enter Tryz.func147, Tryz.ntmps147
    go_wp2
    go_ret
    exact ⟨ret_int e.out.symm, rfl⟩

set_option maxHeartbeats 400000 in
theorem roundsUp_any (n r c : Nat) (w : World) (hr : r < c) (hc : c < 18446744073709551616) (_hn : n < 18446744073709551616) :
    Calls Tryz.prog 158 #[.int .u64 n, .int .u64 r, .int .u64 c] w fun e w' => e = .returned (.bool (upB n r c)) ∧ w' = w := by
  obtain ⟨m, hm⟩ : ∃ m, m = c - r := ⟨_, rfl⟩
  have rm : (c : Int) - (r : Int) = (m : Int) := by omega
  have rw1 : IntKind.u64.wrap (m : Int) = (m : Int) := IntWalk.u64_in _ ⟨by omega, by omega⟩
  by_cases h1 : m < r
  · have d1 : decide ((m : Int) < (r : Int)) = true := by simp; omega
    have HE : Hid (upB n r c = true) := by show upB n r c = true; unfold upB; rw [← hm]; simp [h1]
    clear hm
    go_enter Tryz.func158, Tryz.ntmps158
    go_wp2
    go_ret
    exact ⟨by rw [HE.out]; rfl, rfl⟩
  · have d1 : decide ((m : Int) < (r : Int)) = false := by simp; omega
    by_cases h2 : r = m
    · have d2 : ((r : Int) == (m : Int)) = true := by simp; omega
      have HE : Hid (upB n r c = decide (n % 2 = 1)) := by show upB n r c = _; unfold upB; rw [← hm]; simp [h2]
      by_cases h3 : n % 2 = 1
      · have d3 : ((n : Int) % 2 == 1) = true := by simp; omega
        have HF : Hid (upB n r c = true) := by show upB n r c = true; rw [HE.out]; simp [h3]
        clear hm h2 h3
        go_enter Tryz.func158, Tryz.ntmps158
        go_wp2
        go_ret
        exact ⟨by rw [HF.out]; rfl, rfl⟩
      · have d3 : ((n : Int) % 2 == 1) = false := by simp; omega
        have HF : Hid (upB n r c = false) := by show upB n r c = false; rw [HE.out]; simp [h3]
        clear hm h2 h3
        go_enter Tryz.func158, Tryz.ntmps158
        go_wp2
        go_ret
        exact ⟨by rw [HF.out]; rfl, rfl⟩
    · have d2 : ((r : Int) == (m : Int)) = false := by simp; omega
      have HF : Hid (upB n r c = false) := by show upB n r c = false; unfold upB; rw [← hm]; simp [h1, h2]
      clear hm h2
      go_enter Tryz.func158, Tryz.ntmps158
      go_wp2
      go_ret
      exact ⟨by rw [HF.out]; rfl, rfl⟩

theorem big_quot {p c : Nat} (hc : 0 < c) (h : c ≤ p / 18446744073709551616) : 1000000000000000 ≤ p / c := by
  rw [Nat.le_div_iff_mul_le hc]
  have : c * 1000000000000000 ≤ p / 18446744073709551616 * 18446744073709551616 := Nat.mul_le_mul h (by omega)
  omega

set_option maxHeartbeats 800000 in
theorem ratioOf_any (a b c : Nat) (w : World) (ha : a ≤ 1000000000000000) (hb : b ≤ 1000000000000000) (hc0 : 0 < c) (hc : c ≤ 1000000000000000) :
    Calls Tryz.prog 146 #[.int .u64 a, .int .u64 b, .int .u64 c] w fun e w' => e = .returned (.int .u64 (ratN a b c : Int)) ∧ ∃ n, w' = w.drewN n := by
  have hp : a * b ≤ 1000000000000000 * 1000000000000000 := Nat.mul_le_mul ha hb
  have HM := Tryz.bits_Mul64 a b (by omega) (by omega)
  have HR : ratN a b c = if 1000000000000000 ≤ a * b / c then 1000000000000000 else if upB (a * b / c) (a * b % c) c then a * b / c + 1 else a * b / c := rfl
  have hm := Nat.mod_lt (a * b) (show c > 0 from hc0)
  generalize a * b = p at *
  obtain ⟨h, hh⟩ : ∃ h, h = p / 18446744073709551616 := ⟨_, rfl⟩
  obtain ⟨l, hl⟩ : ∃ l, l = p % 18446744073709551616 := ⟨_, rfl⟩
  rw [← hh, ← hl] at HM
  have HMh : Hid (∀ w : World, Calls Tryz.prog 156 #[.int .u64 a, .int .u64 b] w fun e w' => e = .returned (.tuple #[.int .u64 (h : Int), .int .u64 (l : Int)]) ∧ w' = w) := HM
  by_cases h1 : c ≤ h
  · have HE : Hid (ratN a b c = 1000000000000000) := by show ratN a b c = _; rw [HR, if_pos (big_quot hc0 (hh ▸ h1))]
    clear HM HR hh hl hm hp
    go_enter Tryz.func146, Tryz.ntmps146
    go_wp2_with (go_at_call 156; refine (HMh.out _).mono ?_; rintro e w ⟨rfl, rfl⟩)
    go_ret
    exact ⟨by rw [HE.out]; rfl, 0, rfl⟩
  · have HD := fun w => div64_any h l c w (by omega) (by omega) (by omega)
    rw [show h * 18446744073709551616 + l = p by omega] at HD
    have HRs : ratN a b c = if 1000000000000000 ≤ p / c then 1000000000000000 else if upB (p / c) (p % c) c then p / c + 1 else p / c := HR
    generalize p / c = q at *
    generalize p % c = r at *
    have HDh : Hid (∀ w : World, Calls Tryz.prog 157 #[.int .u64 h, .int .u64 l, .int .u64 c] w fun e w' => e = .returned (.tuple #[.int .u64 (q : Int), .int .u64 (r : Int)]) ∧ ∃ n, w' = w.drewN n) := HD
    by_cases h2 : 1000000000000000 ≤ q
    · have d2 : decide ((1000000000000000 : Int) ≤ (q : Int)) = true := by simp; omega
      have HE : Hid (ratN a b c = 1000000000000000) := by show ratN a b c = _; rw [HRs, if_pos h2]
      clear HM HR hh hl hm hp HD HRs h2 ha hb hc hc0
      go_enter Tryz.func146, Tryz.ntmps146
      go_wp2_with (first | (go_at_call 156; refine (HMh.out _).mono ?_; rintro e w ⟨rfl, rfl⟩) | (go_at_call 157; refine (HDh.out _).mono ?_; rintro e w2 ⟨rfl, n, rfl⟩))
      go_ret
      exact ⟨by rw [HE.out]; rfl, _, rfl⟩
    · have d2 : decide ((1000000000000000 : Int) ≤ (q : Int)) = false := by simp; omega
      have rq1 : IntKind.u64.wrap ((q : Int) + 1) = (q : Int) + 1 := IntWalk.u64_in _ ⟨by omega, by omega⟩
      have HU := fun w => roundsUp_any q r c w hm (by omega) (by omega)
      have HUh : Hid (∀ w : World, Calls Tryz.prog 158 #[.int .u64 q, .int .u64 r, .int .u64 c] w fun e w' => e = .returned (.bool (upB q r c)) ∧ w' = w) := HU
      cases h3 : upB q r c
      · have HE : Hid (ratN a b c = q) := by show ratN a b c = _; rw [HRs, if_neg h2, h3]; rfl
        rw [h3] at HUh
        clear HM HR hh hl hm hp HD HRs HU h3 h2 ha hb hc hc0
        go_enter Tryz.func146, Tryz.ntmps146
        go_wp2_with (first | (go_at_call 156; refine (HMh.out _).mono ?_; rintro e w ⟨rfl, rfl⟩) | (go_at_call 157; refine (HDh.out _).mono ?_; rintro e w2 ⟨rfl, n, rfl⟩) | (go_at_call 158; refine (HUh.out _).mono ?_; rintro e w3 ⟨rfl, rfl⟩))
        go_ret
        exact ⟨by rw [HE.out]; rfl, _, rfl⟩
      · have HE : Hid (ratN a b c = q + 1) := by show ratN a b c = _; rw [HRs, if_neg h2, h3]; rfl
        rw [h3] at HUh
        clear HM HR hh hl hm hp HD HRs HU h3 h2 ha hb hc hc0
        go_enter Tryz.func146, Tryz.ntmps146
        go_wp2_with (first | (go_at_call 156; refine (HMh.out _).mono ?_; rintro e w ⟨rfl, rfl⟩) | (go_at_call 157; refine (HDh.out _).mono ?_; rintro e w2 ⟨rfl, n, rfl⟩) | (go_at_call 158; refine (HUh.out _).mono ?_; rintro e w3 ⟨rfl, rfl⟩))
        go_ret
        exact ⟨by rw [HE.out]; rfl, _, rfl⟩
end Go.Proofs.YthnojedlndblbaaGreatDoor
namespace Go.Proofs.YthnojedlndblbaaGreatDoor
open Go.RowKit

set_option maxHeartbeats 1600000 in
theorem ratio_any (a b c : Int) (w : World) (a0 : -1000000000000000 ≤ a) (a1 : a ≤ 1000000000000000) (b0 : -1000000000000000 ≤ b) (b1 : b ≤ 1000000000000000)
    (c0 : -1000000000000000 ≤ c) (c1 : c ≤ 1000000000000000) (hc : c ≠ 0) :
    Calls Tryz.prog 135 #[.int .i64 a, .int .i64 b, .int .i64 c] w fun e w' => e = .returned (.int .i64 (ratI a b c)) ∧ ∃ n, w' = w.drewN n := by
  obtain ⟨N, hN⟩ : ∃ N, N = ratN a.natAbs b.natAbs c.natAbs := ⟨_, rfl⟩
  have hle : N ≤ 1000000000000000 := hN ▸ ratN_le _ _ _
  have HA : Hid (∀ w : World, Calls Tryz.prog 147 #[.int .i64 a] w fun e w' => e = .returned (.int .u64 (a.natAbs : Int)) ∧ w' = w) := fun w => size_any a w a0 a1
  have HB : Hid (∀ w : World, Calls Tryz.prog 147 #[.int .i64 b] w fun e w' => e = .returned (.int .u64 (b.natAbs : Int)) ∧ w' = w) := fun w => size_any b w b0 b1
  have HC : Hid (∀ w : World, Calls Tryz.prog 147 #[.int .i64 c] w fun e w' => e = .returned (.int .u64 (c.natAbs : Int)) ∧ w' = w) := fun w => size_any c w c0 c1
  have HR : Hid (∀ w : World, Calls Tryz.prog 146 #[.int .u64 (a.natAbs : Int), .int .u64 (b.natAbs : Int), .int .u64 (c.natAbs : Int)] w fun e w' => e = .returned (.int .u64 (N : Int)) ∧ ∃ n, w' = w.drewN n) := fun w => by
    rw [hN]; exact ratioOf_any _ _ _ w (by omega) (by omega) (by omega) (by omega)
  have rn : IntKind.i64.wrap (N : Int) = (N : Int) := IntWalk.i64_in _ ⟨by omega, by omega⟩
  have rm : IntKind.i64.wrap (-(N : Int)) = -(N : Int) := IntWalk.i64_in _ ⟨by omega, by omega⟩
  have HI : Hid (ratI a b c = if sgnB a b c then -(N : Int) else (N : Int)) := by show ratI a b c = _; rw [hN]; rfl
  clear hN hle a0 a1 b0 b1 c0 c1 hc
  obtain ⟨x, hx⟩ : ∃ x : Nat, x = a.natAbs := ⟨_, rfl⟩
  obtain ⟨y, hy⟩ : ∃ y : Nat, y = b.natAbs := ⟨_, rfl⟩
  obtain ⟨z, hz⟩ : ∃ z : Nat, z = c.natAbs := ⟨_, rfl⟩
  rw [← hx, ← hy, ← hz] at HR
  rw [← hx] at HA
  rw [← hy] at HB
  rw [← hz] at HC
  clear hx hy hz
  cases da : decide (a < 0) <;> cases db : decide (b < 0) <;> cases dc : decide (c < 0)
  all_goals cases hs : sgnB a b c
  all_goals rw [hs] at HI
  all_goals simp only [sgnB, da, db, dc] at hs
  all_goals first | exact absurd hs (by decide) | clear hs
  all_goals
    go_enter Tryz.func135, Tryz.ntmps135
    go_wp2_with fail
    refine (HA.out _).mono ?_
    rintro e w ⟨rfl, rfl⟩
    go_wp2_with fail
    refine (HB.out _).mono ?_
    rintro e w ⟨rfl, rfl⟩
    go_wp2_with fail
    refine (HC.out _).mono ?_
    rintro e w ⟨rfl, rfl⟩
    go_wp2_with fail
    refine (HR.out _).mono ?_
    rintro e w2 ⟨rfl, n, rfl⟩
    go_wp2
    go_ret
    exact ⟨by rw [HI.out]; rfl, n, rfl⟩

set_option maxHeartbeats 400000 in
theorem mul_any (a b : Int) (w : World) :
    Calls Tryz.prog 115 #[.int .i64 a, .int .i64 b] w fun e w' => e = .returned (.int .i64 (mulI a b)) ∧ ∃ n, w' = w.drewN n := by
  have HR : Hid (∀ w : World, Calls Tryz.prog 135 #[.int .i64 (clampI a), .int .i64 (clampI b), .int .i64 1000000] w fun e w' => e = .returned (.int .i64 (mulI a b)) ∧ ∃ n, w' = w.drewN n) :=
    fun w => ratio_any _ _ _ w (clampI_ge a) (clampI_le a) (clampI_ge b) (clampI_le b) (by omega) (by omega) (by omega)
  go_enter Tryz.func115, Tryz.ntmps115
  go_wp2_with (first | (go_at_call 94; refine (clamp_any _ _).mono ?_; rintro e w ⟨rfl, rfl⟩))
  refine (HR.out _).mono ?_
  rintro e w2 ⟨rfl, n, rfl⟩
  go_wp2
  go_ret
  exact ⟨rfl, n, rfl⟩

set_option maxHeartbeats 400000 in
theorem div_any (a b : Int) (w : World) :
    Calls Tryz.prog 116 #[.int .i64 a, .int .i64 b] w fun e w' => e = .returned (.int .i64 (divI a b)) ∧ ∃ n, w' = w.drewN n := by
  by_cases h : b = 0
  · subst h
    go_enter Tryz.func116, Tryz.ntmps116
    go_wp2
    go_ret
    exact ⟨rfl, 0, rfl⟩
  · have d0 : (b == 0) = false := by simpa using h
    have HE : Hid (divI a b = ratI (clampI a) 1000000 (clampI b)) := by show divI a b = _; unfold divI; rw [if_neg h]
    have HR : Hid (∀ w : World, Calls Tryz.prog 135 #[.int .i64 (clampI a), .int .i64 1000000, .int .i64 (clampI b)] w fun e w' => e = .returned (.int .i64 (divI a b)) ∧ ∃ n, w' = w.drewN n) :=
      fun w => by rw [HE.out]; exact ratio_any _ _ _ w (clampI_ge a) (clampI_le a) (by omega) (by omega) (clampI_ge b) (clampI_le b) (clampI_ne h)
    clear h
    go_enter Tryz.func116, Tryz.ntmps116
    go_wp2_with (first | (go_at_call 94; refine (clamp_any _ _).mono ?_; rintro e w ⟨rfl, rfl⟩))
    refine (HR.out _).mono ?_
    rintro e w2 ⟨rfl, n, rfl⟩
    go_wp2
    go_ret
    exact ⟨rfl, n, rfl⟩
end Go.Proofs.YthnojedlndblbaaGreatDoor
namespace Go.Proofs.YthnojedlndblbaaGreatDoor

theorem clampI_zero : clampI 0 = 0 := clampI_in (by omega) (by omega)
theorem divI_zero (a : Int) : divI a 0 = 0 := by unfold divI; simp

end Go.Proofs.YthnojedlndblbaaGreatDoor
namespace Go.Proofs.YthnojedlndblbaaGreatDoor
open Go.RowKit

def rndN (q r d : Nat) : Nat := if upB q r d then q + 1 else q
def sgR (a b : Int) : Bool := decide (a < 0) != decide (b < 0)
def signR (a b : Int) (n : Nat) : Int := if sgR a b then -(n : Int) else (n : Int)

theorem rndN_ge (q r d : Nat) : q ≤ rndN q r d := by unfold rndN; split <;> omega
theorem rndN_le (q r d : Nat) : rndN q r d ≤ q + 1 := by unfold rndN; split <;> omega

/-- What the reference's last step makes of a rounded quotient. -/
theorem clamp_rnd (a b : Int) (x y c : Nat) : clampI (signR a b (rndN (x * y / c) (x * y % c) c)) = if sgR a b then -(ratN x y c : Int) else (ratN x y c : Int) := by
  have h1 := rndN_ge (x * y / c) (x * y % c) c
  have h2 := rndN_le (x * y / c) (x * y % c) c
  have h3 : ratN x y c = if 1000000000000000 ≤ x * y / c then 1000000000000000 else rndN (x * y / c) (x * y % c) c := rfl
  rw [h3]
  generalize rndN (x * y / c) (x * y % c) c = k at *
  unfold signR
  by_cases hq : 1000000000000000 ≤ x * y / c
  · rw [if_pos hq]
    cases sgR a b
    · simp only [Bool.false_eq_true, if_false]
      rcases Nat.lt_or_ge 1000000000000000 k with hk | hk
      · exact clampI_hi (by omega)
      · rw [clampI_in (by omega) (by omega)]; omega
    · simp only [if_true]
      rcases Nat.lt_or_ge 1000000000000000 k with hk | hk
      · rw [clampI_lo (by omega)]; rfl
      · rw [clampI_in (by omega) (by omega)]; omega
  · rw [if_neg hq]
    cases sgR a b
    · simp only [Bool.false_eq_true, if_false]; exact clampI_in (by omega) (by omega)
    · simp only [if_true]; exact clampI_in (by omega) (by omega)

theorem clamp_max (a b : Int) (x y c : Nat) (h : 1000000000000000 ≤ x * y / c) : clampI (signR a b 1000000000000000) = if sgR a b then -(ratN x y c : Int) else (ratN x y c : Int) := by
  have h3 : ratN x y c = 1000000000000000 := by unfold ratN; rw [if_pos h]
  rw [h3]
  unfold signR
  cases sgR a b <;> exact clampI_in (by simp) (by simp)

theorem mulI_ref (a b : Int) : mulI a b = if sgR (clampI a) (clampI b) then -(ratN (clampI a).natAbs (clampI b).natAbs 1000000 : Int) else (ratN (clampI a).natAbs (clampI b).natAbs 1000000 : Int) := by
  unfold mulI ratI
  have : sgnB (clampI a) (clampI b) 1000000 = sgR (clampI a) (clampI b) := by unfold sgnB sgR; simp
  rw [this]; rfl
theorem divI_ref {a b : Int} (hb : b ≠ 0) : divI a b = if sgR (clampI a) (clampI b) then -(ratN (clampI a).natAbs 1000000 (clampI b).natAbs : Int) else (ratN (clampI a).natAbs 1000000 (clampI b).natAbs : Int) := by
  unfold divI ratI
  rw [if_neg hb]
  have : sgnB (clampI a) 1000000 (clampI b) = sgR (clampI a) (clampI b) := by unfold sgnB sgR; simp
  rw [this]; rfl

/-- A product by halves of six digits. -/
theorem halves (x y : Nat) : x * y / 1000000 = x / 1000000 * (y / 1000000) * 1000000 + x / 1000000 * (y % 1000000) + x % 1000000 * (y / 1000000) + x % 1000000 * (y % 1000000) / 1000000 ∧
    x * y % 1000000 = x % 1000000 * (y % 1000000) % 1000000 := by
  have e : x * y = (x / 1000000 * (y / 1000000) * 1000000 + x / 1000000 * (y % 1000000) + x % 1000000 * (y / 1000000)) * 1000000 + x % 1000000 * (y % 1000000) := by
    have h1 := Nat.div_add_mod' x 1000000
    have h2 := Nat.div_add_mod' y 1000000
    generalize x / 1000000 = x1 at *
    generalize x % 1000000 = x0 at *
    generalize y / 1000000 = y1 at *
    generalize y % 1000000 = y0 at *
    subst h1; subst h2
    rw [Nat.add_mul, Nat.mul_add, Nat.mul_add, Nat.mul_mul_mul_comm, Nat.mul_right_comm x1 1000000 y0, ← Nat.mul_assoc x0 y1]
    omega
  rw [e]
  constructor
  · omega
  · omega

set_option maxHeartbeats 400000 in
theorem rsize_any (a : Int) (w : World) (h0 : -1000000000000000 ≤ a) (h1 : a ≤ 1000000000000000) :
    Calls Tryz.prog 100 #[.int .i64 a] w fun e w' => e = .returned (.int .i64 (a.natAbs : Int)) ∧ w' = w := by
  by_cases hn : a < 0
  · have e : Hid ((a.natAbs : Int) = -a) := by show (a.natAbs : Int) = -a; omega
    go_enter Tryz.func100, Tryz.ntmps100
    go_wp2
    go_ret
    exact ⟨ret_int e.out.symm, rfl⟩
  · have e : Hid ((a.natAbs : Int) = a) := by show (a.natAbs : Int) = a; omega
    go_enter Tryz.func100, Tryz.ntmps100
    go_wp2
    go_ret
    exact ⟨ret_int e.out.symm, rfl⟩

set_option maxHeartbeats 800000 in
theorem rsigned_any (n : Nat) (a b : Int) (w : World) (hn : n ≤ 10000000000000000) :
    Calls Tryz.prog 101 #[.int .i64 n, .int .i64 a, .int .i64 b] w fun e w' => e = .returned (.int .i64 (clampI (signR a b n))) ∧ w' = w := by
  have rm : IntKind.i64.wrap (-(n : Int)) = -(n : Int) := IntWalk.i64_in _ ⟨by omega, by omega⟩
  clear hn
  cases da : decide (a < 0) <;> cases db : decide (b < 0)
  all_goals cases hs : sgR a b
  all_goals have HS : Hid (signR a b n = if sgR a b then -(n : Int) else (n : Int)) := rfl
  all_goals rw [hs] at HS
  all_goals simp only [sgR, da, db] at hs
  all_goals first | exact absurd hs (by decide) | clear hs
  all_goals
    go_enter Tryz.func101, Tryz.ntmps101
    go_wp2_with (go_at_call 84; refine (rclamp_any _ _).mono ?_; rintro e w ⟨rfl, rfl⟩)
    go_ret
    exact ⟨by rw [HS.out]; rfl, rfl⟩

set_option maxHeartbeats 800000 in
theorem rrounded_any (n r c : Nat) (w : World) (hr : r < c) (hc : c ≤ 1000000000000000) (hn : n ≤ 5000000000000000) :
    Calls Tryz.prog 102 #[.int .i64 n, .int .i64 r, .int .i64 c] w fun e w' => e = .returned (.int .i64 (rndN n r c : Int)) ∧ w' = w := by
  obtain ⟨m, hm⟩ : ∃ m, m = c - r := ⟨_, rfl⟩
  have rm : (c : Int) - (r : Int) = (m : Int) := by omega
  have rw1 : IntKind.i64.wrap (m : Int) = (m : Int) := IntWalk.i64_in _ ⟨by omega, by omega⟩
  have rw2 : IntKind.i64.wrap ((n : Int) + 1) = (n : Int) + 1 := IntWalk.i64_in _ ⟨by omega, by omega⟩
  clear hc hn
  by_cases h1 : m < r
  · have HE : Hid (rndN n r c = n + 1) := by show rndN n r c = _; unfold rndN upB; rw [← hm]; simp [h1]
    clear hm
    go_enter Tryz.func102, Tryz.ntmps102
    go_wp2
    go_ret
    exact ⟨by rw [HE.out]; rfl, rfl⟩
  · by_cases h2 : r = m
    · have d2 : ((r : Int) == (m : Int)) = true := by simp; omega
      by_cases h3 : n % 2 = 1
      · have d3 : ((n : Int) % 2 == 1) = true := by simp; omega
        have HF : Hid (rndN n r c = n + 1) := by show rndN n r c = _; unfold rndN upB; rw [← hm]; simp [h2, h3]
        clear hm h2 h3
        go_enter Tryz.func102, Tryz.ntmps102
        go_wp2
        go_ret
        exact ⟨by rw [HF.out]; rfl, rfl⟩
      · have d3 : ((n : Int) % 2 == 1) = false := by simp; omega
        have HF : Hid (rndN n r c = n) := by show rndN n r c = _; unfold rndN upB; rw [← hm]; simp [h2, h3]
        clear hm h2 h3
        go_enter Tryz.func102, Tryz.ntmps102
        go_wp2
        go_ret
        exact ⟨by rw [HF.out]; rfl, rfl⟩
    · have d2 : ((r : Int) == (m : Int)) = false := by simp; omega
      have HF : Hid (rndN n r c = n) := by show rndN n r c = _; unfold rndN upB; rw [← hm]; simp [h1, h2]
      clear hm h2
      go_enter Tryz.func102, Tryz.ntmps102
      go_wp2
      go_ret
      exact ⟨by rw [HF.out]; rfl, rfl⟩
end Go.Proofs.YthnojedlndblbaaGreatDoor
namespace Go.Proofs.YthnojedlndblbaaGreatDoor
open Go.RowKit

theorem wrapI (a b : Nat) (h : a * b ≤ 9223372036854775807) : wrap64 ((a : Int) * (b : Int)) = ((a * b : Nat) : Int) := by
  rw [← Int.natCast_mul]; exact IntWalk.wrap64_in _ ⟨by omega, by omega⟩

set_option maxHeartbeats 400000 in
theorem rmul_any (a b : Int) (w : World) :
    Calls Tryz.prog 61 #[.int .i64 a, .int .i64 b] w fun e w' => e = .returned (.int .i64 (mulI a b)) ∧ w' = w := by
  have HA : Hid (∀ w : World, Calls Tryz.prog 100 #[.int .i64 (clampI a)] w fun e w' => e = .returned (.int .i64 ((clampI a).natAbs : Int)) ∧ w' = w) := fun w => rsize_any _ w (clampI_ge a) (clampI_le a)
  have HB : Hid (∀ w : World, Calls Tryz.prog 100 #[.int .i64 (clampI b)] w fun e w' => e = .returned (.int .i64 ((clampI b).natAbs : Int)) ∧ w' = w) := fun w => rsize_any _ w (clampI_ge b) (clampI_le b)
  have hx : (clampI a).natAbs ≤ 1000000000000000 := by have := clampI_ge a; have := clampI_le a; omega
  have hy : (clampI b).natAbs ≤ 1000000000000000 := by have := clampI_ge b; have := clampI_le b; omega
  have HM : Hid (mulI a b = if sgR (clampI a) (clampI b) then -(ratN (clampI a).natAbs (clampI b).natAbs 1000000 : Int) else (ratN (clampI a).natAbs (clampI b).natAbs 1000000 : Int)) := mulI_ref a b
  have HM1 : Hid (∀ h : 1000000000000000 ≤ (clampI a).natAbs * (clampI b).natAbs / 1000000, clampI (signR (clampI a) (clampI b) 1000000000000000) = mulI a b) := fun h => by rw [HM.out]; exact clamp_max _ _ _ _ _ h
  have HM2 : Hid (clampI (signR (clampI a) (clampI b) (rndN ((clampI a).natAbs * (clampI b).natAbs / 1000000) ((clampI a).natAbs * (clampI b).natAbs % 1000000) 1000000)) = mulI a b) := by
    show clampI _ = mulI a b; rw [HM.out]; exact clamp_rnd _ _ _ _ _
  clear HM
  generalize (clampI a).natAbs = x at *
  generalize (clampI b).natAbs = y at *
  obtain ⟨q1, q2⟩ := halves x y
  rw [q1, q2] at HM2
  rw [q1] at HM1
  clear q1 q2
  have bx1 : x / 1000000 ≤ 1000000000 := by omega
  have by1 : y / 1000000 ≤ 1000000000 := by omega
  have bx0 : x % 1000000 ≤ 999999 := by omega
  have by0 : y % 1000000 ≤ 999999 := by omega
  have rx1 : (x : Int) / 1000000 = ((x / 1000000 : Nat) : Int) := by omega
  have rx0 : (x : Int) % 1000000 = ((x % 1000000 : Nat) : Int) := by omega
  have ry1 : (y : Int) / 1000000 = ((y / 1000000 : Nat) : Int) := by omega
  have ry0 : (y : Int) % 1000000 = ((y % 1000000 : Nat) : Int) := by omega
  generalize x / 1000000 = x1 at *
  generalize x % 1000000 = x0 at *
  generalize y / 1000000 = y1 at *
  generalize y % 1000000 = y0 at *
  have b11 : x1 * y1 ≤ 1000000000 * 1000000000 := Nat.mul_le_mul bx1 by1
  have b10 : x1 * y0 ≤ 1000000000 * 999999 := Nat.mul_le_mul bx1 by0
  have b01 : x0 * y1 ≤ 999999 * 1000000000 := Nat.mul_le_mul bx0 by1
  have b00 : x0 * y0 ≤ 999999 * 999999 := Nat.mul_le_mul bx0 by0
  have i1 : (x1 : Int) ≤ 1000000000 := by omega
  have i2 : (y1 : Int) ≤ 1000000000 := by omega
  have i3 : (x0 : Int) ≤ 999999 := by omega
  have i4 : (y0 : Int) ≤ 999999 := by omega
  have o11 : x1 * y1 ≤ 9223372036854775807 := by omega
  have o10 : x1 * y0 ≤ 9223372036854775807 := by omega
  have o01 : x0 * y1 ≤ 9223372036854775807 := by omega
  have o00 : x0 * y0 ≤ 9223372036854775807 := by omega
  have W : Hid (wrap64 ((x1 : Int) * (y1 : Int)) = ((x1 * y1 : Nat) : Int) ∧ wrap64 ((x1 : Int) * (y0 : Int)) = ((x1 * y0 : Nat) : Int) ∧ wrap64 ((x0 : Int) * (y1 : Int)) = ((x0 * y1 : Nat) : Int) ∧ wrap64 ((x0 : Int) * (y0 : Int)) = ((x0 * y0 : Nat) : Int)) :=
    ⟨wrapI _ _ o11, wrapI _ _ o10, wrapI _ _ o01, wrapI _ _ o00⟩
  clear o11 o10 o01 o00
  generalize x1 * y1 = H at *
  generalize x1 * y0 = P1 at *
  generalize x0 * y1 = P2 at *
  generalize x0 * y0 = Lw at *
  by_cases hH : 1000000000 < H
  · have HE : Hid (clampI (signR (clampI a) (clampI b) 1000000000000000) = mulI a b) := HM1.out (by omega)
    have d1 : decide ((1000000000 : Int) < (H : Int)) = true := by simp; omega
    have n1 : (0 : Int) ≤ (x1 : Int) := by omega
    have n2 : (0 : Int) ≤ (y1 : Int) := by omega
    have n3 : (0 : Int) ≤ (x0 : Int) := by omega
    have n4 : (0 : Int) ≤ (y0 : Int) := by omega
    have n5 : (0 : Int) ≤ (x : Int) := by omega
    have n6 : (0 : Int) ≤ (y : Int) := by omega
    have n7 : (0 : Int) ≤ (H : Int) := by omega
    have n8 : (0 : Int) ≤ (P1 : Int) := by omega
    have n9 : (0 : Int) ≤ (P2 : Int) := by omega
    have n10 : (0 : Int) ≤ (Lw : Int) := by omega
    have i5 : (x : Int) ≤ 1000000000000000 := by omega
    have i6 : (y : Int) ≤ 1000000000000000 := by omega
    clear HM1 HM2 hH b11 b10 b01 b00 bx1 by1 bx0 by0 hx hy
    generalize (x1 : Int) = X1 at *
    generalize (y1 : Int) = Y1 at *
    generalize (x0 : Int) = X0 at *
    generalize (y0 : Int) = Y0 at *
    generalize (x : Int) = X at *
    generalize (y : Int) = Y at *
    generalize (H : Int) = HI at *
    generalize (P1 : Int) = PA at *
    generalize (P2 : Int) = PB at *
    generalize (Lw : Int) = LI at *
    obtain ⟨r11, r10, r01, r00⟩ := W.out
    clear W
    go_enter Tryz.func61, Tryz.ntmps61
    go_wp2_with (first | (go_at_call 84; refine (rclamp_any _ _).mono ?_; rintro e w ⟨rfl, rfl⟩))
    refine (HA.out _).mono ?_
    rintro e w ⟨rfl, rfl⟩
    go_wp2_with fail
    refine (HB.out _).mono ?_
    rintro e w ⟨rfl, rfl⟩
    go_wp2_with fail
    refine (rsigned_any 1000000000000000 _ _ _ (by omega)).mono ?_
    rintro e w ⟨rfl, rfl⟩
    rw [HE.out]
    go_wp2
    go_ret
    exact ⟨rfl, rfl⟩
  · have d1 : decide ((1000000000 : Int) < (H : Int)) = false := by simp; omega
    obtain ⟨Q, hQ⟩ : ∃ Q, Q = H * 1000000 + P1 + P2 + Lw / 1000000 := ⟨_, rfl⟩
    obtain ⟨R, hR⟩ : ∃ R, R = Lw % 1000000 := ⟨_, rfl⟩
    rw [← hQ, ← hR] at HM2
    have rQ : (H : Int) * 1000000 + (P1 : Int) + (P2 : Int) + (Lw : Int) / 1000000 = (Q : Int) := by omega
    have rR : (Lw : Int) % 1000000 = (R : Int) := by omega
    have HS : Hid (∀ w : World, Calls Tryz.prog 102 #[.int .i64 Q, .int .i64 R, .int .i64 1000000] w fun e w' => e = .returned (.int .i64 (rndN Q R 1000000 : Int)) ∧ w' = w) := fun w => rrounded_any Q R 1000000 w (by omega) (by omega) (by omega)
    have bn : rndN Q R 1000000 ≤ 10000000000000000 := by have := rndN_le Q R 1000000; omega
    have HT : Hid (∀ w : World, Calls Tryz.prog 101 #[.int .i64 (rndN Q R 1000000 : Int), .int .i64 (clampI a), .int .i64 (clampI b)] w fun e w' => e = .returned (.int .i64 (mulI a b)) ∧ w' = w) := fun w => by
      have := rsigned_any (rndN Q R 1000000) (clampI a) (clampI b) w bn
      rw [HM2.out] at this; exact this
    have bH : (H : Int) ≤ 1000000000 := by omega
    have bP1 : (P1 : Int) ≤ 999999000000000 := by omega
    have bP2 : (P2 : Int) ≤ 999999000000000 := by omega
    have bL : (Lw : Int) ≤ 999998000001 := by omega
    generalize rndN Q R 1000000 = Z at *
    have n1 : (0 : Int) ≤ (x1 : Int) := by omega
    have n2 : (0 : Int) ≤ (y1 : Int) := by omega
    have n3 : (0 : Int) ≤ (x0 : Int) := by omega
    have n4 : (0 : Int) ≤ (y0 : Int) := by omega
    have n5 : (0 : Int) ≤ (x : Int) := by omega
    have n6 : (0 : Int) ≤ (y : Int) := by omega
    have n7 : (0 : Int) ≤ (H : Int) := by omega
    have n8 : (0 : Int) ≤ (P1 : Int) := by omega
    have n9 : (0 : Int) ≤ (P2 : Int) := by omega
    have n10 : (0 : Int) ≤ (Lw : Int) := by omega
    have i5 : (x : Int) ≤ 1000000000000000 := by omega
    have i6 : (y : Int) ≤ 1000000000000000 := by omega
    clear HM1 HM2 hH b11 b10 b01 b00 bx1 by1 bx0 by0 hx hy hQ hR bn
    generalize (x1 : Int) = X1 at *
    generalize (y1 : Int) = Y1 at *
    generalize (x0 : Int) = X0 at *
    generalize (y0 : Int) = Y0 at *
    generalize (x : Int) = X at *
    generalize (y : Int) = Y at *
    generalize (H : Int) = HI at *
    generalize (P1 : Int) = PA at *
    generalize (P2 : Int) = PB at *
    generalize (Lw : Int) = LI at *
    generalize (Q : Int) = QI at *
    generalize (R : Int) = RI at *
    obtain ⟨r11, r10, r01, r00⟩ := W.out
    clear W
    go_enter Tryz.func61, Tryz.ntmps61
    go_wp2_with (first | (go_at_call 84; refine (rclamp_any _ _).mono ?_; rintro e w ⟨rfl, rfl⟩))
    refine (HA.out _).mono ?_
    rintro e w ⟨rfl, rfl⟩
    go_wp2_with fail
    refine (HB.out _).mono ?_
    rintro e w ⟨rfl, rfl⟩
    go_wp2_with fail
    refine (HS.out _).mono ?_
    rintro e w ⟨rfl, rfl⟩
    go_wp2_with fail
    refine (HT.out _).mono ?_
    rintro e w ⟨rfl, rfl⟩
    go_wp2
    go_ret
    exact ⟨rfl, rfl⟩

theorem pow_step (x y k : Nat) (hy : 0 < y) : x * 10 ^ (k + 1) / y = 10 * (x * 10 ^ k / y) + 10 * (x * 10 ^ k % y) / y ∧ x * 10 ^ (k + 1) % y = 10 * (x * 10 ^ k % y) % y ∧ 10 * (x * 10 ^ k % y) / y ≤ 9 := by
  have e : x * 10 ^ (k + 1) = 10 * (x * 10 ^ k) := by rw [Nat.pow_succ, ← Nat.mul_assoc, Nat.mul_comm]
  rw [e]
  have d := Nat.div_add_mod (x * 10 ^ k) y
  have m := Nat.mod_lt (x * 10 ^ k) hy
  generalize x * 10 ^ k = p at *
  have e2 : 10 * p = y * (10 * (p / y)) + 10 * (p % y) := by
    rw [Nat.mul_left_comm, ← Nat.mul_add, d]
  refine ⟨?_, ?_, ?_⟩
  · rw [e2, Nat.mul_add_div hy]
  · rw [e2, Nat.mul_add_mod]
  · have : 10 * (p % y) / y < 10 := by rw [Nat.div_lt_iff_lt_mul hy]; omega
    omega

theorem pow_bound (x y k : Nat) (hy : 0 < y) (h : x / y ≤ 1000000000) (hk : k ≤ 6) : x * 10 ^ k / y ≤ 1000001000000 * 1000 := by
  have h1 : x < (1000000001) * y := Nat.lt_mul_of_div_lt (show x / y < 1000000001 by omega) hy
  have h2 : 10 ^ k ≤ 10 ^ 6 := Nat.pow_le_pow_right (by omega) hk
  have h3 : x * 10 ^ k ≤ (1000000001 * y) * 10 ^ 6 := Nat.mul_le_mul (by omega) h2
  have h4 : x * 10 ^ k / y ≤ ((1000000001 * y) * 10 ^ 6) / y := Nat.div_le_div_right h3
  rw [Nat.mul_right_comm, Nat.mul_div_cancel _ hy] at h4
  omega

theorem big_div {x y : Nat} (hy : 0 < y) (h : 1000000000 < x / y) : 1000000000000000 ≤ x * 1000000 / y := by
  rw [Nat.le_div_iff_mul_le hy]
  have h1 : (1000000001) * y ≤ x := (Nat.le_div_iff_mul_le hy).1 (by omega)
  omega

set_option maxHeartbeats 400000 in
theorem rdiv_any (a b : Int) (w : World) :
    Calls Tryz.prog 87 #[.int .i64 a, .int .i64 b] w fun e w' => e = .returned (.int .i64 (divI a b)) ∧ w' = w := by
  by_cases hb0 : b = 0
  · subst hb0
    have z := clampI_zero
    have z2 : Hid (divI a 0 = 0) := divI_zero a
    go_enter Tryz.func87, Tryz.ntmps87
    go_wp2_with (first | (go_at_call 84; refine (rclamp_any _ _).mono ?_; rintro e w ⟨rfl, rfl⟩))
    go_ret
    exact ⟨ret_int z2.out.symm, rfl⟩
  have hbne := clampI_ne hb0
  have d0 : (clampI b == 0) = false := by simpa using hbne
  have HA : Hid (∀ w : World, Calls Tryz.prog 100 #[.int .i64 (clampI a)] w fun e w' => e = .returned (.int .i64 ((clampI a).natAbs : Int)) ∧ w' = w) := fun w => rsize_any _ w (clampI_ge a) (clampI_le a)
  have HB : Hid (∀ w : World, Calls Tryz.prog 100 #[.int .i64 (clampI b)] w fun e w' => e = .returned (.int .i64 ((clampI b).natAbs : Int)) ∧ w' = w) := fun w => rsize_any _ w (clampI_ge b) (clampI_le b)
  have hx : (clampI a).natAbs ≤ 1000000000000000 := by have := clampI_ge a; have := clampI_le a; omega
  have hy : (clampI b).natAbs ≤ 1000000000000000 := by have := clampI_ge b; have := clampI_le b; omega
  have hy0 : 0 < (clampI b).natAbs := by omega
  have HM := divI_ref (a := a) hb0
  have HM1 : 1000000000000000 ≤ (clampI a).natAbs * 1000000 / (clampI b).natAbs → clampI (signR (clampI a) (clampI b) 1000000000000000) = divI a b := fun h => by rw [HM]; exact clamp_max _ _ _ _ _ h
  have HM2 : clampI (signR (clampI a) (clampI b) (rndN ((clampI a).natAbs * 1000000 / (clampI b).natAbs) ((clampI a).natAbs * 1000000 % (clampI b).natAbs) (clampI b).natAbs)) = divI a b := by
    rw [HM]; exact clamp_rnd _ _ _ _ _
  clear HM hb0
  generalize (clampI a).natAbs = x at *
  generalize (clampI b).natAbs = y at *
  have e1 : ((y : Int) == 0) = false := by simp; omega
  have y1 : (1 : Int) ≤ (y : Int) := by omega
  have y2 : (y : Int) ≤ 1000000000000000 := by omega
  have x2 : (x : Int) ≤ 1000000000000000 := by omega
  have m0 := Nat.mod_lt x hy0
  have s0 := Nat.div_le_self x y
  obtain ⟨q, hq⟩ : ∃ q, q = x / y := ⟨_, rfl⟩
  obtain ⟨r, hr⟩ : ∃ r, r = x % y := ⟨_, rfl⟩
  have rq : (x : Int) / (y : Int) = (q : Int) := by rw [hq]; exact (Int.natCast_ediv x y).symm
  have rr : (x : Int) % (y : Int) = (r : Int) := by rw [hr]; exact (Int.natCast_emod x y).symm
  rw [← hq] at s0
  have bq : (q : Int) ≤ 1000000000000000 := by omega
  by_cases hH : 1000000000 < q
  · have HE : Hid (clampI (signR (clampI a) (clampI b) 1000000000000000) = divI a b) := HM1 (big_div hy0 (hq ▸ hH))
    have d1 : decide ((1000000000 : Int) < (q : Int)) = true := by simp; omega
    clear HM1 HM2 hH hx hy hq hr m0 s0 hbne
    go_enter Tryz.func87, Tryz.ntmps87
    go_wp2_with (first | (go_at_call 84; refine (rclamp_any _ _).mono ?_; rintro e w ⟨rfl, rfl⟩))
    refine (HA.out _).mono ?_
    rintro e w ⟨rfl, rfl⟩
    go_wp2_with fail
    refine (HB.out _).mono ?_
    rintro e w ⟨rfl, rfl⟩
    go_wp2_with fail
    refine (rsigned_any 1000000000000000 _ _ _ (by omega)).mono ?_
    rintro e w ⟨rfl, rfl⟩
    rw [HE.out]
    go_wp2
    go_ret
    exact ⟨rfl, rfl⟩
  · have d1 : decide ((1000000000 : Int) < (q : Int)) = false := by simp; omega
    have HP : Hid (∀ k, k ≤ 6 → x * 10 ^ k / y ≤ 1000001000000 * 1000) := fun k hk => pow_bound x y k hy0 (by omega) hk
    have HQ : Hid (q = x * 10 ^ 0 / y ∧ r = x * 10 ^ 0 % y) := ⟨by rw [hq]; simp, by rw [hr]; simp⟩
    have HZ : Hid (clampI (signR (clampI a) (clampI b) (rndN (x * 10 ^ 6 / y) (x * 10 ^ 6 % y) y)) = divI a b) := HM2
    clear HM1 HM2 hH hx hq hr m0 s0 hbne
    go_enter Tryz.func87, Tryz.ntmps87
    go_wp2_with (first | (go_at_call 84; refine (rclamp_any _ _).mono ?_; rintro e w ⟨rfl, rfl⟩))
    refine (HA.out _).mono ?_
    rintro e w ⟨rfl, rfl⟩
    go_wp2_with fail
    refine (HB.out _).mono ?_
    rintro e w ⟨rfl, rfl⟩
    go_wp2_with fail
    go_loop [7, 8, 9] (fun a b i => ∃ k : Nat, k ≤ 6 ∧ i = .int .i64 k ∧ a = .int .i64 ((x * 10 ^ k / y : Nat) : Int) ∧ b = .int .i64 ((x * 10 ^ k % y : Nat) : Int)) (fun _ _ i => 6 - (intOf i).toNat)
    case atStart =>
      refine ⟨0, by omega, rfl, ?_, ?_⟩
      · rw [← HQ.out.1]
      · rw [← HQ.out.2, ← rr]
    case round =>
      obtain ⟨k, hk, rfl, rfl, rfl⟩ := hrel
      clear rq rr bq d1
      have p1 := HP.out k hk
      have p3 := Nat.mod_lt (x * 10 ^ k) hy0
      obtain ⟨s1, s2, s3⟩ := pow_step x y k hy0
      by_cases hlt : k < 6
      · have HS : Hid (x * 10 ^ (k + 1) / y = 10 * (x * 10 ^ k / y) + 10 * (x * 10 ^ k % y) / y ∧ x * 10 ^ (k + 1) % y = 10 * (x * 10 ^ k % y) % y) := ⟨s1, s2⟩
        clear s1 s2
        generalize x * 10 ^ k / y = Q at *
        generalize x * 10 ^ k % y = R at *
        obtain ⟨T, hT⟩ : ∃ T, T = 10 * R / y := ⟨_, rfl⟩
        obtain ⟨R', hR'⟩ : ∃ R', R' = 10 * R % y := ⟨_, rfl⟩
        rw [← hT] at s3
        have rT : 10 * (R : Int) / (y : Int) = (T : Int) := by rw [hT]; simp
        have rR : 10 * (R : Int) % (y : Int) = (R' : Int) := by rw [hR']; simp
        have HT : Hid (T = 10 * R / y) := hT
        have HR : Hid (R' = 10 * R % y) := hR'
        have bQ : (Q : Int) ≤ 1000001000000000 := by omega
        have bR : (R : Int) ≤ 1000000000000000 := by omega
        have bT : (T : Int) ≤ 9 := by omega
        clear hT hR' p1 p3 s3 hy
        go_wp2
        go_round
        case rel =>
          refine ⟨k + 1, by omega, by go_num, ?_, ?_⟩
          · rw [HS.out.1, ← HT.out]; go_num
          · rw [HS.out.2, ← HR.out, ← rR]
        case measure => simp [intOf]; omega
      · obtain rfl : k = 6 := by omega
        clear s1 s2 s3
        have HS := fun w => rrounded_any (x * 10 ^ 6 / y) (x * 10 ^ 6 % y) y w p3 hy (by omega)
        have bn : rndN (x * 10 ^ 6 / y) (x * 10 ^ 6 % y) y ≤ 10000000000000000 := by have := rndN_le (x * 10 ^ 6 / y) (x * 10 ^ 6 % y) y; omega
        have HT := fun w => rsigned_any (rndN (x * 10 ^ 6 / y) (x * 10 ^ 6 % y) y) (clampI a) (clampI b) w bn
        rw [HZ.out] at HT
        generalize rndN (x * 10 ^ 6 / y) (x * 10 ^ 6 % y) y = Z at *
        generalize x * 10 ^ 6 / y = Q at *
        generalize x * 10 ^ 6 % y = R at *
        have HSh : Hid (∀ w : World, Calls Tryz.prog 102 #[.int .i64 Q, .int .i64 R, .int .i64 y] w fun e w' => e = .returned (.int .i64 (Z : Int)) ∧ w' = w) := HS
        have HTh : Hid (∀ w : World, Calls Tryz.prog 101 #[.int .i64 (Z : Int), .int .i64 (clampI a), .int .i64 (clampI b)] w fun e w' => e = .returned (.int .i64 (divI a b)) ∧ w' = w) := HT
        clear HS HT bn p1 p3 hy
        go_wp2_with fail
        refine (HSh.out _).mono ?_
        rintro e w ⟨rfl, rfl⟩
        go_wp2_with fail
        refine (HTh.out _).mono ?_
        rintro e w ⟨rfl, rfl⟩
        go_wp2
        go_ret
        exact ⟨rfl, rfl⟩
end Go.Proofs.YthnojedlndblbaaGreatDoor
namespace Go.Proofs.YthnojedlndblbaaGreatDoor
open Go Go.RowKit


end Go.Proofs.YthnojedlndblbaaGreatDoor
namespace Go.Proofs.YthnojedlndblbaaGreatDoor
open Go

def lpN (y : Nat) : Nat := if y % 4 = 0 ∧ (y % 100 ≠ 0 ∨ y % 400 = 0) then 1 else 0
theorem lpN_le (y : Nat) : lpN y ≤ 1 := by unfold lpN; split <;> omega
/-- How many days a year has. -/
def yl (y : Nat) : Nat := 365 + lpN y
def mt (m : Nat) : Nat := [31, 28, 31, 30, 31, 30, 31, 31, 30, 31, 30, 31].getD m 0
/-- How many days a month has. -/
def ml (y m : Nat) : Nat := if m = 1 then 28 + lpN y else mt m
/-- The days ahead of the year 1900 + n. -/
def yd : Nat → Nat
  | 0 => 0
  | n + 1 => yd n + yl (1900 + n)
/-- The days ahead of a month. -/
def md (y : Nat) : Nat → Nat
  | 0 => 0
  | m + 1 => md y m + ml y m
theorem yl_ge (y : Nat) : 365 ≤ yl y := by unfold yl; omega
theorem yl_le (y : Nat) : yl y ≤ 366 := by have := lpN_le y; unfold yl; omega
theorem mt_bounds {m : Nat} (h : m < 12) : 28 ≤ mt m ∧ mt m ≤ 31 := by
  match m, h with
  | 0, _ | 1, _ | 2, _ | 3, _ | 4, _ | 5, _ | 6, _ | 7, _ | 8, _ | 9, _ | 10, _ | 11, _ => exact ⟨by decide, by decide⟩
theorem ml_ge (y : Nat) {m : Nat} (h : m < 12) : 28 ≤ ml y m := by have := mt_bounds h; unfold ml; split <;> omega
theorem ml_le (y : Nat) {m : Nat} (h : m < 12) : ml y m ≤ 31 := by have := mt_bounds h; have := lpN_le y; unfold ml; split <;> omega
theorem md_twelve (y : Nat) : md y 12 = yl y := by
  have e : ∀ m, md y (m + 1) = md y m + ml y m := fun _ => rfl
  simp only [e]
  have e0 : md y 0 = 0 := rfl
  rw [e0]
  simp [ml, mt, yl]; omega
theorem yd_step (n : Nat) : yd (n + 1) = yd n + yl (1900 + n) := rfl
theorem md_step (y m : Nat) : md y (m + 1) = md y m + ml y m := rfl
theorem yd_mono {a b : Nat} (h : a ≤ b) : yd a ≤ yd b := by
  induction h with
  | refl => exact Nat.le_refl _
  | step _ ih => rw [yd_step]; omega
theorem md_mono (y : Nat) {a b : Nat} (h : a ≤ b) : md y a ≤ md y b := by
  induction h with
  | refl => exact Nat.le_refl _
  | step _ ih => rw [md_step]; omega
theorem yd_all : yd 200 = 73049 := by decide +kernel
theorem yd_le {n : Nat} (h : n ≤ 200) : yd n ≤ 73049 := by have := yd_mono h; rw [yd_all] at this; exact this
theorem md_le (y : Nat) {m : Nat} (h : m ≤ 12) : md y m ≤ yl y := by have := md_mono y h; rw [md_twelve] at this; exact this

/-- A date of the calendar: the year from 1900 on, the month from 0 on, the day from 1 on. -/
def Dt (y m d : Nat) : Prop := y < 200 ∧ m < 12 ∧ 1 ≤ d ∧ d ≤ ml (1900 + y) m
instance (y m d : Nat) : Decidable (Dt y m d) := by unfold Dt; infer_instance
/-- Its day. -/
def dn (y m d : Nat) : Nat := yd y + md (1900 + y) m + d - 1
theorem Dt.dle {y m d : Nat} (h : Dt y m d) : d ≤ 31 := Nat.le_trans h.2.2.2 (ml_le _ h.2.1)
theorem dn_year {y m d : Nat} (h : Dt y m d) : yd y ≤ dn y m d ∧ dn y m d < yd (y + 1) := by
  obtain ⟨_, h2, h3, h4⟩ := h
  have h5 := md_le (1900 + y) (m := m + 1) (by omega)
  rw [md_step] at h5
  rw [yd_step]; unfold dn; omega
theorem dn_le {y m d : Nat} (h : Dt y m d) : dn y m d ≤ 73048 := by
  have h1 := (dn_year h).2
  have h2 := yd_le (n := y + 1) (by have := h.1; omega)
  omega
theorem dn_lt {y m d y' m' d' : Nat} (h : Dt y m d) (h' : Dt y' m' d') (hl : y < y' ∨ y = y' ∧ (m < m' ∨ m = m' ∧ d < d')) : dn y m d < dn y' m' d' := by
  rcases hl with hl | ⟨rfl, hl | ⟨rfl, hl⟩⟩
  · have h1 := (dn_year h).2
    have h2 := (dn_year h').1
    have h3 := yd_mono (a := y + 1) (b := y') hl
    omega
  · have h3 := md_mono (1900 + y) (a := m + 1) (b := m') hl
    rw [md_step] at h3
    obtain ⟨_, _, h4, h5⟩ := h
    obtain ⟨_, _, h6, _⟩ := h'
    unfold dn; omega
  · obtain ⟨_, _, h4, h5⟩ := h
    unfold dn; omega
theorem dn_inj {y m d y' m' d' : Nat} (h : Dt y m d) (h' : Dt y' m' d') (he : dn y m d = dn y' m' d') : y = y' ∧ m = m' ∧ d = d' := by
  by_cases hc : y = y' ∧ m = m' ∧ d = d'
  · exact hc
  · exfalso
    rcases Nat.lt_trichotomy y y' with h1 | h1 | h1
    · have := dn_lt h h' (.inl h1); omega
    · subst h1
      rcases Nat.lt_trichotomy m m' with h2 | h2 | h2
      · have := dn_lt h h' (.inr ⟨rfl, .inl h2⟩); omega
      · subst h2
        rcases Nat.lt_trichotomy d d' with h3 | h3 | h3
        · have := dn_lt h h' (.inr ⟨rfl, .inr ⟨rfl, h3⟩⟩); omega
        · exact hc ⟨rfl, rfl, h3⟩
        · have := dn_lt h' h (.inr ⟨rfl, .inr ⟨rfl, h3⟩⟩); omega
      · have := dn_lt h' h (.inr ⟨rfl, .inl h2⟩); omega
    · have := dn_lt h' h (.inl h1); omega
def clampD (n : Int) : Nat := if n < 0 then 0 else if 73048 < n then 73048 else n.toNat
theorem clampD_le (n : Int) : clampD n ≤ 73048 := by unfold clampD; split <;> (try split) <;> omega
end Go.Proofs.YthnojedlndblbaaGreatDoor
namespace Go.Proofs.YthnojedlndblbaaGreatDoor
open Go Go.RowKit

theorem ret_intD {k : IntKind} {a b : Int} (h : a = b) : Ending.returned (.int k a) = .returned (.int k b) := by rw [h]
theorem ret_bool {a b : Bool} (h : a = b) : Ending.returned (.bool a) = .returned (.bool b) := by rw [h]

/-- The months' days lie where the program lays them. -/
def Tab (w : World) : Prop := ∀ k, k < 12 → w.cell? ⟨1, k, none⟩ = some (.int .i64 (mt k : Nat))

set_option maxHeartbeats 400000 in
theorem leapDays_any (y : Nat) (h : y ≤ 10000) (w : World) :
    Calls Tryz.prog 150 #[.int .i64 y] w fun e w' => e = .returned (.int .i64 (lpN y : Nat)) ∧ w' = w := by
  by_cases h4 : y % 4 = 0
  · by_cases h100 : y % 100 = 0
    · by_cases h400 : y % 400 = 0
      · go_enter Tryz.func150, Tryz.ntmps150
        go_wp2
        go_ret
        refine ⟨ret_intD ?_, rfl⟩
        unfold lpN; rw [if_pos (by omega)]; rfl
      · go_enter Tryz.func150, Tryz.ntmps150
        go_wp2
        go_ret
        refine ⟨ret_intD ?_, rfl⟩
        unfold lpN; rw [if_neg (by omega)]; rfl
    · go_enter Tryz.func150, Tryz.ntmps150
      go_wp2
      go_ret
      refine ⟨ret_intD ?_, rfl⟩
      unfold lpN; rw [if_pos (by omega)]; rfl
  · go_enter Tryz.func150, Tryz.ntmps150
    go_wp2
    go_ret
    refine ⟨ret_intD ?_, rfl⟩
    unfold lpN; rw [if_neg (by omega)]; rfl

set_option maxHeartbeats 400000 in
theorem yearLater_any (y n : Nat) (h : y ≤ 5000) (hn : n ≤ 5000) (w : World) :
    Calls Tryz.prog 149 #[.int .i64 y, .int .i64 n] w fun e w' => e = .returned (.int .i64 (yl (y + n) : Nat)) ∧ w' = w := by
  have H := hid (fun w => leapDays_any (y + n) (by omega) w)
  have hl := lpN_le (y + n)
  go_enter Tryz.func149, Tryz.ntmps149
  go_wp2_with fail
  refine (H.out _).mono ?_
  rintro e w ⟨rfl, rfl⟩
  go_wp2
  go_ret
  refine ⟨ret_intD ?_, rfl⟩
  unfold yl; omega

theorem Tab.drewN {w : World} (h : Tab w) (n : Nat) : Tab (w.drewN n) := h

set_option maxHeartbeats 400000 in
theorem month_any (y m : Nat) (h : y ≤ 5000) (hm : m < 12) (w : World) (ht : Tab w) :
    Calls Tryz.prog 137 #[.int .i64 y, .int .i64 m] w fun e w' => e = .returned (.int .i64 (ml y m : Nat)) ∧ ∃ n, w' = w.drewN n := by
  have H := hid (fun w => leapDays_any y (by omega) w)
  have hl := lpN_le y
  have hc := ht m hm
  have hb := mt_bounds hm
  have hm' : (m : Int) < 12 := by omega
  clear ht
  by_cases h1 : m = 1
  · subst h1
    go_enter Tryz.func137, Tryz.ntmps137
    go_wp2_with fail
    go_quiet ((go_at_call 150; refine Calls.quiet_of_same (H.out _)))
    go_wp2
    go_ret
    refine ⟨ret_intD ?_, _, rfl⟩
    unfold ml mt; simp
  · go_enter Tryz.func137, Tryz.ntmps137
    go_wp2_with fail
    go_ret
    refine ⟨ret_intD ?_, 0, rfl⟩
    unfold ml; simp [h1]
end Go.Proofs.YthnojedlndblbaaGreatDoor
namespace Go.Proofs.YthnojedlndblbaaGreatDoor
open Go Go.RowKit

set_option maxHeartbeats 400000 in
theorem daysOfY_any (n : Nat) (hn : n ≤ 200) (w : World) :
    Calls Tryz.prog 151 #[.int .i64 1900, .int .i64 n, .func (.func 149) #[] #[]] w fun e w' => e = .returned (.int .i64 (yd n : Nat)) ∧ w' = w := by
  have H := hid (fun (k : Nat) (hk : k ≤ 5000) w => yearLater_any 1900 k (by omega) hk w)
  go_enter Tryz.func151, Tryz.ntmps151
  go_wp2_with fail
  go_loop [7, 10] (fun s i => ∃ k : Nat, k ≤ n ∧ i = .int .i64 k ∧ s = .int .i64 (yd k : Nat)) (fun _ i => n - (intOf i).toNat)
  case atStart => exact ⟨0, by omega, rfl, rfl⟩
  case round =>
    obtain ⟨k, hk, rfl, rfl⟩ := hrel
    have hy := yd_le (n := k) (by omega)
    have hyl := yl_le (1900 + k)
    by_cases hlt : k < n
    · go_wp2_with fail
      refine (H.out k (by omega) _).mono ?_
      rintro e w ⟨rfl, rfl⟩
      go_wp2
      refine ⟨⟨k + 1, by omega, rfl, ?_⟩, by simp [intOf]; omega⟩
      rw [yd_step]; simp
    · have : k = n := by omega
      subst this
      go_wp2
      go_ret
      exact ⟨rfl, rfl⟩

set_option maxHeartbeats 400000 in
theorem daysOfM_any (y n : Nat) (hy : y ≤ 5000) (hn : n ≤ 12) (w : World) (ht : Tab w) :
    Calls Tryz.prog 151 #[.int .i64 y, .int .i64 n, .func (.func 137) #[] #[]] w fun e w' => e = .returned (.int .i64 (md y n : Nat)) ∧ ∃ j, w' = w.drewN j := by
  have H := hid (fun (k : Nat) (hk : k < 12) (j : Nat) => month_any y k (by omega) hk (w.drewN j) (ht.drewN j))
  clear ht
  go_enter Tryz.func151, Tryz.ntmps151
  go_wp2_with fail
  go_loopw [7, 10] (fun s i wr => ∃ k j : Nat, k ≤ n ∧ i = .int .i64 k ∧ s = .int .i64 (md y k : Nat) ∧ wr = w.drewN j) (fun _ i _ => n - (intOf i).toNat)
  case atStart => exact ⟨0, 0, by omega, rfl, rfl, rfl⟩
  case round =>
    obtain ⟨k, j, hk, rfl, rfl, rfl⟩ := hrel
    have hy := md_le y (m := k) (by omega)
    have hyl := yl_le y
    by_cases hlt : k < n
    · have hm := ml_le y (m := k) (by omega)
      go_wp2_with fail
      refine (H.out k (by omega) j).mono ?_
      rintro e w1 ⟨rfl, i, rfl⟩
      go_wp2
      refine ⟨⟨k + 1, j + i, by omega, rfl, ?_, rfl⟩, by simp [intOf]; omega⟩
      rw [md_step]; simp
    · have : k = n := by omega
      subst this
      go_wp2
      go_ret
      exact ⟨rfl, _, rfl⟩

set_option maxHeartbeats 400000 in
theorem piecesInY_any (n : Nat) (hn : n ≤ 73048) (w : World) :
    Calls Tryz.prog 148 #[.int .i64 1900, .int .i64 n, .func (.func 149) #[] #[]] w fun e w' => ∃ y l : Nat, e = .returned (.tuple #[.int .i64 y, .int .i64 l]) ∧ y < 200 ∧ l < yl (1900 + y) ∧ yd y + l = n ∧ w' = w := by
  have H := hid (fun (k : Nat) (hk : k ≤ 5000) w => yearLater_any 1900 k (by omega) hk w)
  go_enter Tryz.func148, Tryz.ntmps148
  go_wp2_with fail
  go_loop [1, 8] (fun s i => ∃ k l : Nat, k ≤ 200 ∧ i = .int .i64 k ∧ s = .int .i64 l ∧ yd k + l = n) (fun s _ => (intOf s).toNat)
  case atStart => exact ⟨0, n, by omega, rfl, rfl, by simp [yd]⟩
  case round =>
    obtain ⟨k, l, hk, rfl, rfl, hkl⟩ := hrel
    have hyl := yl_le (1900 + k)
    have hyg := yl_ge (1900 + k)
    have hk2 : k < 200 := by
      rcases Nat.lt_or_ge k 200 with h | h
      · exact h
      · have : k = 200 := by omega
        subst this
        rw [yd_all] at hkl; omega
    have hst := yd_step k
    by_cases hlt : yl (1900 + k) ≤ l
    · go_wp2_with fail
      refine (H.out k (by omega) _).mono ?_
      rintro e w ⟨rfl, rfl⟩
      go_wp2_with fail
      refine (H.out k (by omega) _).mono ?_
      rintro e w ⟨rfl, rfl⟩
      go_wp2
      refine ⟨⟨k + 1, l - yl (1900 + k), by omega, rfl, ?_, by omega⟩, by simp [intOf]; omega⟩
      congr 1; omega
    · go_wp2_with fail
      refine (H.out k (by omega) _).mono ?_
      rintro e w ⟨rfl, rfl⟩
      go_wp2
      go_ret2
      exact ⟨k, l, rfl, hk2, by omega, hkl, rfl⟩

set_option maxHeartbeats 400000 in
theorem piecesInM_any (y n : Nat) (hy : y ≤ 5000) (hn : n < yl y) (w : World) (ht : Tab w) :
    Calls Tryz.prog 148 #[.int .i64 y, .int .i64 n, .func (.func 137) #[] #[]] w fun e w' => ∃ m l : Nat, e = .returned (.tuple #[.int .i64 m, .int .i64 l]) ∧ m < 12 ∧ l < ml y m ∧ md y m + l = n ∧ ∃ j, w' = w.drewN j := by
  have H := hid (fun (k : Nat) (hk : k < 12) (j : Nat) => month_any y k (by omega) hk (w.drewN j) (ht.drewN j))
  have hyy := yl_le y
  clear ht
  go_enter Tryz.func148, Tryz.ntmps148
  go_wp2_with fail
  go_loopw [1, 8] (fun s i wr => ∃ k l j : Nat, k ≤ 12 ∧ i = .int .i64 k ∧ s = .int .i64 l ∧ md y k + l = n ∧ wr = w.drewN j) (fun s _ _ => (intOf s).toNat)
  case atStart => exact ⟨0, n, 0, by omega, rfl, rfl, by simp [md], rfl⟩
  case round =>
    obtain ⟨k, l, j, hk, rfl, rfl, hkl, rfl⟩ := hrel
    have hk2 : k < 12 := by
      rcases Nat.lt_or_ge k 12 with h | h
      · exact h
      · have : k = 12 := by omega
        subst this
        rw [md_twelve] at hkl; omega
    have hyl := ml_le y hk2
    have hyg := ml_ge y hk2
    have hst := md_step y k
    by_cases hlt : ml y k ≤ l
    · go_wp2_with fail
      refine (H.out k (by omega) _).mono ?_
      rintro e w1 ⟨rfl, i1, rfl⟩
      rw [World.drewN_drewN]
      go_wp2_with fail
      refine (H.out k (by omega) _).mono ?_
      rintro e w1 ⟨rfl, i2, rfl⟩
      go_wp2
      refine ⟨⟨k + 1, l - ml y k, _, by omega, rfl, ?_, by omega, rfl⟩, by simp [intOf]; omega⟩
      congr 1; omega
    · go_wp2_with fail
      refine (H.out k (by omega) _).mono ?_
      rintro e w1 ⟨rfl, i1, rfl⟩
      go_wp2
      go_ret2
      exact ⟨k, l, rfl, hk2, by omega, hkl, _, rfl⟩
end Go.Proofs.YthnojedlndblbaaGreatDoor
namespace Go.Proofs.YthnojedlndblbaaGreatDoor
open Go Go.RowKit

theorem Tab.below {w w' : World} (h : Tab w) (hB : Below w.heap.size w w') : Tab w' := fun k hk => by
  rw [hB.cell (p := ⟨1, k, none⟩) (World.block_lt_of_cell? w _ (h k hk))]; exact h k hk
theorem Below.next {w w1 w2 : World} (hb : Below w.heap.size w w1) (h : Below w1.heap.size w1 w2) : Below w.heap.size w w2 := hb.trans (h.mono hb.size)
theorem drewN_below (w : World) (j : Nat) : Below w.heap.size w (w.drewN j) := by
  induction j with
  | zero => exact Below.refl _ _
  | succ j ih => exact (by have := ih.drew; exact this)


set_option maxHeartbeats 400000 in
theorem clamp_day (n : Int) (w : World) :
    Calls Tryz.prog 77 #[.int .i64 n] w fun e w' => e = .returned (.int .i64 (clampD n : Nat)) ∧ w' = w := by
  unfold clampD
  by_cases h0 : n < 0
  · go_enter Tryz.func77, Tryz.ntmps77
    rw [if_pos h0]
    go_wp2
    all_goals
      go_ret
      exact ⟨ret_intD (by omega), rfl⟩
  · by_cases h1 : 73048 < n
    · go_enter Tryz.func77, Tryz.ntmps77
      rw [if_neg h0, if_pos h1]
      go_wp2
      all_goals
        go_ret
        exact ⟨ret_intD (by omega), rfl⟩
    · go_enter Tryz.func77, Tryz.ntmps77
      rw [if_neg h0, if_neg h1]
      go_wp2
      all_goals
        go_ret
        exact ⟨ret_intD (by omega), rfl⟩

set_option maxHeartbeats 400000 in
theorem dateOf_any (n : Nat) (hn : n ≤ 73048) (w : World) (ht : Tab w) :
    Calls Tryz.prog 136 #[.int .i64 n] w fun e w' => ∃ y m d : Nat, Dt y m d ∧ dn y m d = n ∧ e = .returned (.agg #[.int .i64 (1900 + (y : Int)), .int .i64 m, .int .i64 d]) ∧ Below w.heap.size w w' := by
  have H1 := hid (piecesInY_any n hn)
  have HT := hid ht
  clear ht
  go_enter Tryz.func136, Tryz.ntmps136
  go_wp2_with fail
  refine (H1.out _).mono ?_
  rintro e w1 ⟨y, l, rfl, hy, hl, hyl, rfl⟩
  go_wp2_with fail
  refine (piecesInM_any (1900 + y) l (by omega) hl _ (HT.out.below ((Below.refl _ _).alloc (Nat.le_refl _) _))).mono ?_
  rintro e w2 ⟨m, l', rfl, hm, hl', hml, j, rfl⟩
  go_wp2
  go_returns
  refine ⟨y, m, l' + 1, ⟨hy, hm, by omega, by omega⟩, by unfold dn; omega, rfl, ?_⟩
  have h0 := ((Below.refl w.heap.size w).alloc (Nat.le_refl _) (.cells #[.int .i64 0, .int .i64 0, .int .i64 0] 140))
  have h1 := Below.next h0 (drewN_below _ j)
  exact ((h1.setCell (p := ⟨w.heap.size, 0, none⟩) (Nat.le_refl _) _).setCell (p := ⟨w.heap.size, 1, none⟩) (Nat.le_refl _) _).setCell (p := ⟨w.heap.size, 2, none⟩) (Nat.le_refl _) _

/-- A struct of three numbers, laid anew. -/
theorem laid3 (w : World) (a b c : Value) : (w.alloc (.cells #[a, b, c] 140)).cell? ⟨w.heap.size, 0, none⟩ = some a ∧ (w.alloc (.cells #[a, b, c] 140)).cell? ⟨w.heap.size, 1, none⟩ = some b ∧ (w.alloc (.cells #[a, b, c] 140)).cell? ⟨w.heap.size, 2, none⟩ = some c := by
  have h := World.cell?_alloc_mark w #[a, b, c] 140 (0, 0)
  exact ⟨h 0, h 1, h 2⟩

set_option maxHeartbeats 800000 in
theorem dayNumber_any (y m d : Nat) (h : Dt y m d) (Y : Int) (hY : Y = 1900 + (y : Int)) (w : World) (ht : Tab w) :
    Calls Tryz.prog 138 #[.agg #[.int .i64 Y, .int .i64 m, .int .i64 d]] w fun e w' => e = .returned (.int .i64 (dn y m d : Nat)) ∧ Below w.heap.size w w' := by
  have hd31 := h.dle
  obtain ⟨hy, hm, hd0, hd1⟩ := h
  have hyd := yd_le (n := y) (by omega)
  have hmd := md_le (1900 + y) (m := m) (by omega)
  have hyl := yl_le (1900 + y)
  have hB := (Below.refl w.heap.size w).alloc (Nat.le_refl _) (.cells #[.int .i64 Y, .int .i64 m, .int .i64 d] 140)
  have ht' := ht.below hB
  obtain ⟨c0, c1, c2⟩ := laid3 w (.int .i64 Y) (.int .i64 m) (.int .i64 d)
  clear ht
  have HF : Hid (Below w.heap.size w (w.alloc (.cells #[.int .i64 Y, .int .i64 m, .int .i64 d] 140))) := hB
  have HYY := hid hY
  clear hB hY
  go_enter Tryz.func138, Tryz.ntmps138
  go_wp2_with fail
  generalize w.alloc (.cells #[.int .i64 Y, .int .i64 m, .int .i64 d] 140) = W at *
  have HT : Hid (Tab W) := ht'
  clear ht'
  have hY := HYY.out
  have HM := hid (fun j => daysOfM_any (1900 + y) m (by omega) (by omega) (W.drewN j) HT.out)
  have HY := hid (fun j => daysOfY_any y (by omega) (W.drewN j))
  have e19 : ((1900 + y : Nat) : Int) = Y := by omega
  rw [e19] at HM
  have v1 : IntKind.i64.wrap (Y - 1900) = (y : Int) := by rw [IntWalk.i64_in _ ⟨by omega, by omega⟩]; omega
  clear hY HYY e19
  generalize hA : yd y = A at *
  generalize hB : md (1900 + y) m = B at *
  have v2 : IntKind.i64.wrap ((A : Int) + (B : Int)) = (A : Int) + (B : Int) := IntWalk.i64_in _ ⟨by omega, by omega⟩
  have v3 : IntKind.i64.wrap ((A : Int) + (B : Int) + (d : Int)) = (A : Int) + (B : Int) + (d : Int) := IntWalk.i64_in _ ⟨by omega, by omega⟩
  have v4 : IntKind.i64.wrap ((A : Int) + (B : Int) + (d : Int) - 1) = (A : Int) + (B : Int) + (d : Int) - 1 := IntWalk.i64_in _ ⟨by omega, by omega⟩
  go_quiet (first | (go_at_call_of 151 Y; exact Calls.quiet_of (HM.out _)) | (go_at_call 151; exact Calls.quiet_of_same (HY.out _)))
  go_wp2
  go_ret
  refine ⟨ret_intD (by unfold dn; omega), Below.next HF.out (drewN_below _ _)⟩

end Go.Proofs.YthnojedlndblbaaGreatDoor
namespace Go.Proofs.YthnojedlndblbaaGreatDoor
open Go Go.RowKit

theorem Below.laid {w w1 : World} (h : Below w.heap.size w w1) (o : Obj) : Below w.heap.size w (w1.alloc o) := h.alloc h.size o
/-- A date as it is handed in. -/
def Valid (y m d : Int) : Prop := 1900 ≤ y ∧ 1 ≤ m ∧ 0 ≤ d ∧ Dt (y - 1900).toNat (m - 1).toNat d.toNat
instance (y m d : Int) : Decidable (Valid y m d) := by unfold Valid; infer_instance
def ofV (y m d : Int) : Value := if Valid y m d then .tuple #[.int .i64 (dn (y - 1900).toNat (m - 1).toNat d.toNat : Nat), .int .i64 0] else .tuple #[.int .i64 0, .int .i64 30]



def withinI (n most : Int) : Int := if n < -most then -most else if most < n then most else n
theorem withinI_in {n most : Int} (h : 0 ≤ most) : -most ≤ withinI n most ∧ withinI n most ≤ most := by unfold withinI; split <;> (try split) <;> omega
set_option maxHeartbeats 800000 in
theorem within_any (n : Int) (k : Nat) (hk : k ≤ 1000000) (w : World) :
    Calls Tryz.prog 78 #[.int .i64 n, .int .i64 k] w fun e w' => e = .returned (.int .i64 (withinI n k)) ∧ w' = w := by
  unfold withinI
  by_cases h0 : n < -(k : Int)
  · rw [if_pos h0]
    go_enter Tryz.func78, Tryz.ntmps78
    go_wp2
    all_goals
      go_ret
      exact ⟨ret_intD (by omega), rfl⟩
  · by_cases h1 : (k : Int) < n
    · rw [if_neg h0, if_pos h1]
      go_enter Tryz.func78, Tryz.ntmps78
      go_wp2
      all_goals
        go_ret
        exact ⟨ret_intD (by omega), rfl⟩
    · rw [if_neg h0, if_neg h1]
      go_enter Tryz.func78, Tryz.ntmps78
      go_wp2
      all_goals
        go_ret
        exact ⟨ret_intD (by omega), rfl⟩

def plusV (day n : Int) : Nat := clampD ((clampD day : Int) + withinI n 73048)
set_option maxHeartbeats 800000 in
theorem plus_any (day n : Int) (w : World) :
    Calls Tryz.prog 43 #[.int .i64 day, .int .i64 n] w fun e w' => e = .returned (.int .i64 (plusV day n : Nat)) ∧ w' = w := by
  have h1 := clampD_le day
  have h2 := withinI_in (n := n) (most := 73048) (by omega)
  unfold plusV
  have HW := hid (within_any n 73048 (by omega))
  have HC1 := hid (clamp_day day)
  have HC2 := hid (clamp_day ((clampD day : Int) + withinI n 73048))
  rw [show ((73048 : Nat) : Int) = 73048 from rfl] at HW
  generalize clampD ((clampD day : Int) + withinI n 73048) = R at *
  generalize clampD day = D at *
  generalize withinI n 73048 = N at *
  go_enter Tryz.func43, Tryz.ntmps43
  go_wp2_with fail
  refine (HC1.out _).mono ?_
  rintro e w1 ⟨rfl, rfl⟩
  go_wp2_with fail
  refine (HW.out _).mono ?_
  rintro e w1 ⟨rfl, rfl⟩
  go_wp2_with fail
  refine (HC2.out _).mono ?_
  rintro e w1 ⟨rfl, rfl⟩
  go_wp2
  go_ret
  exact ⟨rfl, rfl⟩

/-- A struct of three that may be written. -/
def St3 (w : World) (p : Nat) (x y z : Value) : Prop :=
  (w.cell? ⟨p, 0, none⟩ = some x ∧ w.cell? ⟨p, 1, none⟩ = some y ∧ w.cell? ⟨p, 2, none⟩ = some z) ∧ w.frozen? ⟨p, 0, none⟩ = false ∧ w.frozen? ⟨p, 1, none⟩ = false ∧ w.frozen? ⟨p, 2, none⟩ = false
theorem St3.drewN {w : World} {p : Nat} {x y z : Value} (h : St3 w p x y z) (n : Nat) : St3 (w.drewN n) p x y z := h
theorem St3.set0 {w : World} {p : Nat} {x y z : Value} (h : St3 w p x y z) (v : Value) : St3 (w.setCell ⟨p, 0, none⟩ v) p v y z := by
  obtain ⟨⟨a, b, c⟩, d, e, f⟩ := h
  exact ⟨⟨World.cell?_setCell_same _ _ _ a, (World.cell?_setCell_other _ _ _ _ (by simp)).trans b, (World.cell?_setCell_other _ _ _ _ (by simp)).trans c⟩, by simpa using d, by simpa using e, by simpa using f⟩
theorem St3.set1 {w : World} {p : Nat} {x y z : Value} (h : St3 w p x y z) (v : Value) : St3 (w.setCell ⟨p, 1, none⟩ v) p x v z := by
  obtain ⟨⟨a, b, c⟩, d, e, f⟩ := h
  exact ⟨⟨(World.cell?_setCell_other _ _ _ _ (by simp)).trans a, World.cell?_setCell_same _ _ _ b, (World.cell?_setCell_other _ _ _ _ (by simp)).trans c⟩, by simpa using d, by simpa using e, by simpa using f⟩
theorem St3.set2 {w : World} {p : Nat} {x y z : Value} (h : St3 w p x y z) (v : Value) : St3 (w.setCell ⟨p, 2, none⟩ v) p x y v := by
  obtain ⟨⟨a, b, c⟩, d, e, f⟩ := h
  exact ⟨⟨(World.cell?_setCell_other _ _ _ _ (by simp)).trans a, (World.cell?_setCell_other _ _ _ _ (by simp)).trans b, World.cell?_setCell_same _ _ _ c⟩, by simpa using d, by simpa using e, by simpa using f⟩

def monK (y m : Nat) (n : Int) : Int := withinI n 2400 + (y : Int) * 12 + (m : Int)
def monV (y m d : Nat) (n : Int) : Nat :=
  if monK y m n < 0 then 0 else if 2400 ≤ monK y m n then 73048 else
    dn ((monK y m n).toNat / 12) ((monK y m n).toNat % 12) (min d (ml (1900 + (monK y m n).toNat / 12) ((monK y m n).toNat % 12)))
set_option maxHeartbeats 800000 in
theorem months_any (day n : Int) (w : World) (ht : Tab w) :
    Calls Tryz.prog 119 #[.int .i64 day, .int .i64 n] w fun e w' => ∃ y m d : Nat, Dt y m d ∧ dn y m d = clampD day ∧ e = .returned (.int .i64 (monV y m d n : Nat)) ∧ Below w.heap.size w w' := by
  have HT := hid ht
  clear ht
  have hcl := clampD_le day
  have HC1 := hid (clamp_day day)
  have hw2 := withinI_in (n := n) (most := 2400) (by omega)
  have HW := hid (within_any n 2400 (by omega))
  rw [show ((2400 : Nat) : Int) = 2400 from rfl] at HW
  unfold monV monK
  generalize clampD day = D at *
  generalize withinI n 2400 = N at *
  go_enter Tryz.func119, Tryz.ntmps119
  go_wp2_with fail
  refine (HC1.out _).mono ?_
  rintro e w1 ⟨rfl, rfl⟩
  go_wp2_with fail
  refine (dateOf_any D hcl _ HT.out).mono ?_
  rintro e w2 ⟨y, m, d, hd, hdn, rfl, hB⟩
  obtain ⟨c0, c1, c2⟩ := laid3 w2 (.int .i64 (1900 + (y : Int))) (.int .i64 m) (.int .i64 d)
  have HD := hid hd
  have HDN := hid hdn
  have hm := hd.2.1
  have hy := hd.1
  have hBl := hid (Below.laid hB (.cells #[.int .i64 (1900 + (y : Int)), .int .i64 m, .int .i64 d] 140))
  have hlt : w2.heap.size < (w2.alloc (.cells #[.int .i64 (1900 + (y : Int)), .int .i64 m, .int .i64 d] 140)).heap.size := by simp
  clear hd hdn
  have v1 : IntKind.i64.wrap (1900 + (y : Int) - 1900) = (y : Int) := by rw [IntWalk.i64_in _ ⟨by omega, by omega⟩]; omega
  have v2 : IntKind.i64.wrap ((y : Int) * 12) = (y : Int) * 12 := IntWalk.i64_in _ ⟨by omega, by omega⟩
  have v3 : IntKind.i64.wrap (N + (y : Int) * 12) = N + (y : Int) * 12 := IntWalk.i64_in _ ⟨by omega, by omega⟩
  have v4 : IntKind.i64.wrap (N + (y : Int) * 12 + (m : Int)) = N + (y : Int) * 12 + (m : Int) := IntWalk.i64_in _ ⟨by omega, by omega⟩
  go_wp2_with fail
  have HW2 : Hid (w2.heap.size < (w2.alloc (.cells #[.int .i64 (1900 + (y : Int)), .int .i64 m, .int .i64 d] 140)).heap.size) := hlt
  clear hlt
  have f0 : (w2.alloc (.cells #[.int .i64 (1900 + (y : Int)), .int .i64 m, .int .i64 d] 140)).frozen? ⟨w2.heap.size, 0, none⟩ = false := World.frozen?_alloc_new _ _ _ _
  have f1 : (w2.alloc (.cells #[.int .i64 (1900 + (y : Int)), .int .i64 m, .int .i64 d] 140)).frozen? ⟨w2.heap.size, 1, none⟩ = false := World.frozen?_alloc_new _ _ _ _
  have f2 : (w2.alloc (.cells #[.int .i64 (1900 + (y : Int)), .int .i64 m, .int .i64 d] 140)).frozen? ⟨w2.heap.size, 2, none⟩ = false := World.frozen?_alloc_new _ _ _ _
  generalize w2.alloc (.cells #[.int .i64 (1900 + (y : Int)), .int .i64 m, .int .i64 d] 140) = W at *
  go_quiet ((go_at_call 78; exact Calls.quiet_of_same (HW.out _)))
  by_cases hk0 : N + (y : Int) * 12 + (m : Int) < 0
  · go_wp2
    go_ret
    refine ⟨y, m, d, HD.out, HDN.out, ret_intD ?_, Below.next hBl.out (drewN_below _ _)⟩
    rw [if_pos hk0]; rfl
  · by_cases hk1 : 2400 ≤ N + (y : Int) * 12 + (m : Int)
    · go_wp2
      go_ret
      refine ⟨y, m, d, HD.out, HDN.out, ret_intD ?_, Below.next hBl.out (drewN_below _ _)⟩
      rw [if_neg (by omega), if_pos hk1]; rfl
    · clear v1 v2 v3 v4
      generalize hK : N + (y : Int) * 12 + (m : Int) = K at *
      obtain ⟨k, rfl⟩ := Int.eq_ofNat_of_zero_le (a := K) (by omega)
      go_wp2_with fail
      have e1 : (1900 + (k : Int) / 12) = ((1900 + k / 12 : Nat) : Int) := by omega
      have e2 : (k : Int) % 12 = ((k % 12 : Nat) : Int) := by omega
      rw [e1, e2]
      have hY1 : k / 12 < 200 := by omega
      have hM1 : k % 12 < 12 := by omega
      have hD1 := HD.out.dle
      have hD0 := HD.out.2.2.1
      have HK := hid (⟨hK, hk0, hk1⟩ : N + (y : Int) * 12 + (m : Int) = (k : Int) ∧ 0 ≤ (k : Int) ∧ (k : Int) < 2400)
      clear e1 e2 hK hk0 hk1
      generalize hYe : k / 12 = Y at *
      generalize hMe : k % 12 = M at *
      have HYe := hid hYe
      have HMe := hid hMe
      clear hYe hMe
      have gb := ((Below.next hBl.out (drewN_below W nq)).setCell (p := ⟨w2.heap.size, 0, none⟩) hB.size (.int .i64 ((1900 + Y : Nat) : Int))).setCell (p := ⟨w2.heap.size, 1, none⟩) hB.size (.int .i64 (M : Int))
      have hs3 : St3 W w2.heap.size (.int .i64 (1900 + (y : Int))) (.int .i64 m) (.int .i64 d) := ⟨⟨c0, c1, c2⟩, f0, f1, f2⟩
      have hs4 := ((hs3.drewN nq).set0 (.int .i64 ((1900 + Y : Nat) : Int))).set1 (.int .i64 (M : Int))
      clear hs3 c0 c1 c2 f0 f1 f2
      have HG := hid gb
      clear gb
      generalize ((W.drewN nq).setCell ⟨w2.heap.size, 0, none⟩ (.int .i64 ((1900 + Y : Nat) : Int))).setCell ⟨w2.heap.size, 1, none⟩ (.int .i64 (M : Int)) = U at *
      have HM := hid (fun j => month_any (1900 + Y) M (by omega) hM1 (U.drewN j) ((HT.out.below HG.out).drewN j))
      have hml := ml_le (1900 + Y) hM1
      have hmg := ml_ge (1900 + Y) hM1
      generalize hL : ml (1900 + Y) M = L at *
      have hYI : ((1900 + Y : Nat) : Int) = 1900 + (Y : Int) := by omega
      have HYI := hid hYI
      clear hYI
      generalize ((1900 + Y : Nat) : Int) = YI at *
      have HS4 := hid hs4
      obtain ⟨⟨c0, c1, c2⟩, f0, f1, f2⟩ := hs4
      go_region_with (go_at_call 137; refine (HM.out _).mono ?_; rintro e w' ⟨rfl, j, rfl⟩)
      all_goals
        have em : (if L < d then (L : Int) else (d : Int)) = ((min d L : Nat) : Int) := by split <;> omega
        rw [em]
        have hs5 := (HS4.out.drewN (1 + j)).set2 (.int .i64 ((min d L : Nat) : Int))
        have gb := (Below.next HG.out (drewN_below U (1 + j))).setCell (p := ⟨w2.heap.size, 2, none⟩) hB.size (.int .i64 ((min d L : Nat) : Int))
        have hDt : Dt Y M (min d L) := ⟨hY1, hM1, by omega, by rw [hL]; omega⟩
        clear c0 c1 c2 f0 f1 f2 em
        generalize (U.drewN (1 + j)).setCell ⟨w2.heap.size, 2, none⟩ (.int .i64 ((min d L : Nat) : Int)) = V at *
        obtain ⟨⟨c0, c1, c2⟩, _, _, _⟩ := hs5
        generalize hE : min d L = E at *
        go_wp2_with fail
        refine (dayNumber_any Y M E hDt YI HYI.out _ (HT.out.below gb)).mono ?_
        rintro e w9 ⟨rfl, hB9⟩
        go_wp2
        go_ret
        refine ⟨y, m, d, HD.out, HDN.out, ret_intD ?_, Below.next gb hB9⟩
        rw [HK.out.1, if_neg (by have := HK.out; omega), if_neg (by have := HK.out; omega)]
        simp only [Int.toNat_natCast]
        rw [HYe.out, HMe.out, hL, hE]
end Go.Proofs.YthnojedlndblbaaGreatDoor
namespace Go.Proofs.YthnojedlndblbaaGreatDoor
open Go Go.RowKit

end Go.Proofs.YthnojedlndblbaaGreatDoor
namespace Go.Proofs.YthnojedlndblbaaGreatDoor
open Go Go.RowKit

end Go.Proofs.YthnojedlndblbaaGreatDoor
namespace Go.Proofs.YthnojedlndblbaaGreatDoor
open Go Go.RowKit

set_option maxHeartbeats 400000 in
theorem rleap_any (y : Nat) (h : y ≤ 10000) (w : World) :
    Calls Tryz.prog 141 #[.int .i64 y] w fun e w' => e = .returned (.bool (decide (lpN y = 1))) ∧ w' = w := by
  by_cases h4 : y % 4 = 0
  · by_cases h100 : y % 100 = 0
    · by_cases h400 : y % 400 = 0
      · go_enter Tryz.func141, Tryz.ntmps141
        go_wp2
        go_ret
        refine ⟨ret_bool ?_, rfl⟩
        unfold lpN; rw [if_pos (by omega)]; simp; omega
      · go_enter Tryz.func141, Tryz.ntmps141
        go_wp2
        go_ret
        refine ⟨ret_bool ?_, rfl⟩
        unfold lpN; rw [if_neg (by omega)]; simp; omega
    · go_enter Tryz.func141, Tryz.ntmps141
      go_wp2
      go_ret
      refine ⟨ret_bool ?_, rfl⟩
      unfold lpN; rw [if_pos (by omega)]; rfl
  · go_enter Tryz.func141, Tryz.ntmps141
    go_wp2
    go_ret
    refine ⟨ret_bool ?_, rfl⟩
    unfold lpN; rw [if_neg (by omega)]; rfl

set_option maxHeartbeats 800000 in
theorem rlength_any (y m : Nat) (h : y ≤ 5000) (hm : m < 12) (w : World) :
    Calls Tryz.prog 125 #[.int .i64 y, .int .i64 ((m : Int) + 1)] w fun e w' => e = .returned (.int .i64 (ml y m : Nat)) ∧ Below w.heap.size w w' := by
  have HL := hid (rleap_any y (by omega))
  have hl := lpN_le y
  by_cases hm1 : m = 1
  · subst hm1
    by_cases h1 : lpN y = 1
    · rw [decide_eq_true h1] at HL
      go_enter Tryz.func125, Tryz.ntmps125
      go_wp2_with fail
      refine (HL.out _).mono ?_
      rintro e w1 ⟨rfl, rfl⟩
      go_wp2
      go_ret
      refine ⟨ret_intD ?_, ?_⟩
      · unfold ml; simp [h1]
      · exact (Below.refl _ _).alloc (Nat.le_refl _) _
    · rw [decide_eq_false h1] at HL
      go_enter Tryz.func125, Tryz.ntmps125
      go_wp2_with fail
      refine (HL.out _).mono ?_
      rintro e w1 ⟨rfl, rfl⟩
      go_wp2
      go_ret
      refine ⟨ret_intD ?_, (Below.refl _ _).alloc (Nat.le_refl _) _⟩
      have h0 : lpN y = 0 := by omega
      unfold ml; simp [h0]
  · go_enter Tryz.func125, Tryz.ntmps125
    go_wp2_with fail
    refine (HL.out _).mono ?_
    rintro e w1 ⟨rfl, rfl⟩
    go_wp2
    go_ret
    have hcase : m = 0 ∨ m = 2 ∨ m = 3 ∨ m = 4 ∨ m = 5 ∨ m = 6 ∨ m = 7 ∨ m = 8 ∨ m = 9 ∨ m = 10 ∨ m = 11 := by omega
    rcases hcase with rfl | rfl | rfl | rfl | rfl | rfl | rfl | rfl | rfl | rfl | rfl <;> exact ⟨rfl, (Below.refl _ _).alloc (Nat.le_refl _) _⟩

theorem ofV_yes {y m d : Nat} (h : Dt y m d) : ofV (1900 + (y : Int)) ((m : Int) + 1) (d : Int) = .tuple #[.int .i64 (dn y m d : Nat), .int .i64 0] := by
  have e1 : (1900 + (y : Int) - 1900).toNat = y := by omega
  have e2 : ((m : Int) + 1 - 1).toNat = m := by omega
  have e3 : ((d : Int)).toNat = d := by omega
  unfold ofV
  rw [if_pos ⟨by omega, by omega, by omega, by rw [e1, e2, e3]; exact h⟩, e1, e2, e3]
theorem ofV_no {y m d : Int} (h : ¬ Valid y m d) : ofV y m d = .tuple #[.int .i64 0, .int .i64 30] := by unfold ofV; rw [if_neg h]
theorem valid_iff {y m d : Nat} : Valid (1900 + (y : Int)) ((m : Int) + 1) (d : Int) ↔ Dt y m d := by
  unfold Valid
  rw [show (1900 + (y : Int) - 1900).toNat = y by omega, show ((m : Int) + 1 - 1).toNat = m by omega, show ((d : Int)).toNat = d by omega]
  constructor
  · exact fun h => h.2.2.2
  · exact fun h => ⟨by omega, by omega, by omega, h⟩

set_option maxRecDepth 100000 in
set_option maxHeartbeats 800000 in
theorem rof_any (y m d : Int) (w : World) :
    Calls Tryz.prog 124 #[.int .i64 y, .int .i64 m, .int .i64 d] w fun e w' => e = .returned (ofV y m d) ∧ Below w.heap.size w w' := by
  by_cases hc : 1900 ≤ y ∧ y ≤ 2099 ∧ 1 ≤ m ∧ m ≤ 12 ∧ 1 ≤ d
  · obtain ⟨h0, h1, h2, h3, h4⟩ := hc
    obtain ⟨y', hy⟩ := Int.eq_ofNat_of_zero_le (a := y - 1900) (by omega)
    obtain ⟨m', hm'⟩ := Int.eq_ofNat_of_zero_le (a := m - 1) (by omega)
    obtain ⟨d', rfl⟩ := Int.eq_ofNat_of_zero_le (a := d) (by omega)
    obtain rfl : y = 1900 + (y' : Int) := by omega
    obtain rfl : m = (m' : Int) + 1 := by omega
    have hml := ml_le (1900 + y') (m := m') (by omega)
    have HL := hid (rlength_any (1900 + y') m' (by omega) (by omega))
    rw [show ((1900 + y' : Nat) : Int) = 1900 + (y' : Int) by omega] at HL
    clear hy hm'
    have hy2 : y' < 200 := by omega
    have hm2 : m' < 12 := by omega
    have q1 : ¬ (1900 + (y' : Int) < 1900) := by omega
    have q2 : ¬ ((2099 : Int) < 1900 + (y' : Int)) := by omega
    have q3 : ¬ ((m' : Int) + 1 < 1) := by omega
    have q4 : ¬ ((12 : Int) < (m' : Int) + 1) := by omega
    have q5 : ¬ ((d' : Int) < 1) := by omega
    have hof : ofV (1900 + (y' : Int)) ((m' : Int) + 1) (d' : Int) = if d' ≤ ml (1900 + y') m' then .tuple #[.int .i64 (dn y' m' d' : Nat), .int .i64 0] else .tuple #[.int .i64 0, .int .i64 30] := by
      by_cases hd : d' ≤ ml (1900 + y') m'
      · rw [if_pos hd, ofV_yes ⟨hy2, hm2, by omega, hd⟩]
      · rw [if_neg hd, ofV_no (fun h => hd (valid_iff.1 h).2.2.2)]
    rw [hof]
    have HLE := hid (fun (k : Nat) (hk : k < 200) => rleap_any (1900 + k) (by omega))
    have HLN := hid (fun (k : Nat) (hk : k < 12) => rlength_any (1900 + y') k (by omega) hk)
    simp only [show ∀ k : Nat, ((1900 + k : Nat) : Int) = 1900 + (k : Int) from fun k => by omega] at HLE HLN
    clear hof h0 h1 h2 h3
    by_cases hd : d' ≤ ml (1900 + y') m'
    · rw [if_pos hd]
      have hdf : ¬ ml (1900 + y') m' < d' := by omega
      go_enter Tryz.func124, Tryz.ntmps124
      go_wp2_with fail
      refine (HL.out _).mono ?_
      rintro e w1 ⟨rfl, hB1⟩
      go_wp2_with fail
      go_loop [8, 9] (fun a b => ∃ k : Nat, k ≤ y' ∧ a = .int .i64 (yd k : Nat) ∧ b = .int .i64 (1900 + (k : Int))) (fun _ b => 5000 - (intOf b).toNat)
      case atStart => exact ⟨0, by omega, rfl, rfl⟩
      case round =>
        obtain ⟨k, hk, rfl, rfl⟩ := hrel
        have hyk := yd_le (n := k) (by omega)
        have hst := yd_step k
        have hlk := lpN_le (1900 + k)
        unfold yl at hst
        by_cases hlt : k < y'
        · by_cases hlp : lpN (1900 + k) = 1
          · have HE := hid (HLE.out k (by omega))
            rw [decide_eq_true hlp] at HE
            go_wp2_with fail
            refine (HE.out _).mono ?_
            rintro e w1 ⟨rfl, rfl⟩
            go_wp2
            go_round
            case rel => exact ⟨k + 1, by omega, by congr 1; omega, by congr 1⟩
            case measure => simp [intOf]; omega
          · have HE := hid (HLE.out k (by omega))
            rw [decide_eq_false hlp] at HE
            go_wp2_with fail
            refine (HE.out _).mono ?_
            rintro e w1 ⟨rfl, rfl⟩
            go_wp2
            go_round
            case rel => exact ⟨k + 1, by omega, by congr 1; omega, by congr 1⟩
            case measure => simp [intOf]; omega
        · have : k = y' := by omega
          subst this
          clear hst hlk
          go_wp2_with fail
          go_loopw [8, 11] (fun a b wr => ∃ j : Nat, j ≤ m' ∧ a = .int .i64 ((yd k : Int) + (md (1900 + k) j : Int)) ∧ b = .int .i64 ((j : Int) + 1) ∧ Below w.heap.size w wr) (fun _ b _ => 5000 - (intOf b).toNat)
          case atStart => exact ⟨0, by omega, by simp [md], rfl, hB1⟩
          case round =>
            obtain ⟨j, hj, rfl, rfl, hB⟩ := hrel
            have hmd := md_le (1900 + k) (m := j) (by omega)
            have hyl := yl_le (1900 + k)
            clear hB1
            by_cases hlt2 : j < m'
            · have hmj := ml_le (1900 + k) (m := j) (by omega)
              have hms := md_step (1900 + k) j
              go_wp2_with fail
              refine (HLN.out j (by omega) _).mono ?_
              rintro e w2 ⟨rfl, hB2⟩
              have hB2 := Below.next hB hB2
              go_wp2
              go_roundw
              case rel => exact ⟨j + 1, by omega, by congr 1; omega, by congr 1, hB2⟩
              case measure => simp [intOf]; omega
            · have : j = m' := by omega
              subst this
              go_wp2
              go_ret2
              refine ⟨?_, hB⟩
              have e : ((dn k j d' : Nat) : Int) = (yd k : Int) + (md (1900 + k) j : Int) + (d' : Int) - 1 := by unfold dn; omega
              rw [e]
              rfl
    · rw [if_neg hd]
      go_enter Tryz.func124, Tryz.ntmps124
      go_wp2_with fail
      refine (HL.out _).mono ?_
      rintro e w1 ⟨rfl, hB1⟩
      go_wp2
      go_ret2
      exact ⟨rfl, hB1⟩
  · have hof : ofV y m d = .tuple #[.int .i64 0, .int .i64 30] := by
      refine ofV_no (fun h => hc ?_)
      obtain ⟨h0, h1, h2, h3, h4, h5, _⟩ := h
      omega
    rw [hof]
    clear hof
    by_cases c1 : y < 1900
    · go_enter Tryz.func124, Tryz.ntmps124
      go_wp2
      go_ret2
      exact ⟨rfl, Below.refl _ _⟩
    · by_cases c2 : 2099 < y
      · go_enter Tryz.func124, Tryz.ntmps124
        go_wp2
        go_ret2
        exact ⟨rfl, Below.refl _ _⟩
      · by_cases c3 : m < 1
        · go_enter Tryz.func124, Tryz.ntmps124
          go_wp2
          go_ret2
          exact ⟨rfl, Below.refl _ _⟩
        · by_cases c4 : 12 < m
          · go_enter Tryz.func124, Tryz.ntmps124
            go_wp2
            go_ret2
            exact ⟨rfl, Below.refl _ _⟩
          · have c5 : d < 1 := by omega
            go_enter Tryz.func124, Tryz.ntmps124
            go_wp2
            go_ret2
            exact ⟨rfl, Below.refl _ _⟩

set_option maxRecDepth 100000 in
set_option maxHeartbeats 800000 in
theorem rparts_yes (n : Nat) (hn : n ≤ 73048) (w : World) :
    Calls Tryz.prog 123 #[.int .i64 n] w fun e w' => ∃ y m d : Nat, Dt y m d ∧ dn y m d = n ∧ e = .returned (.tuple #[.int .i64 (1900 + (y : Int)), .int .i64 ((m : Int) + 1), .int .i64 d, .int .i64 0]) ∧ Below w.heap.size w w' := by
  have HL := hid (fun (y m : Nat) (hy : y < 200) (hm : m < 12) => rlength_any (1900 + y) m (by omega) hm)
  simp only [show ∀ k : Nat, ((1900 + k : Nat) : Int) = 1900 + (k : Int) from fun k => by omega] at HL
  go_enter Tryz.func123, Tryz.ntmps123
  go_wp2_with fail
  go_loopw [0, 6, 7] (fun a b c wr => ∃ y m l : Nat, y ≤ 200 ∧ m < 12 ∧ a = .int .i64 l ∧ b = .int .i64 (1900 + (y : Int)) ∧ c = .int .i64 ((m : Int) + 1) ∧ yd y + md (1900 + y) m + l = n ∧ Below w.heap.size w wr) (fun a _ _ _ => (intOf a).toNat)
  case atStart => exact ⟨0, 0, n, by omega, by omega, rfl, rfl, rfl, by simp [yd, md], Below.refl _ _⟩
  case round =>
    obtain ⟨y, m, l, hy, hm, rfl, rfl, rfl, hk, hB⟩ := hrel
    have hy2 : y < 200 := by
      rcases Nat.lt_or_ge y 200 with h | h
      · exact h
      · have : y = 200 := by omega
        subst this
        rw [yd_all] at hk; omega
    have hml := ml_le (1900 + y) hm
    have hmg := ml_ge (1900 + y) hm
    have hl : l ≤ 73048 := by omega
    have HK := hid hk
    clear hk hy
    by_cases hlt : ml (1900 + y) m ≤ l
    · go_wp2_with fail
      refine (HL.out y m hy2 hm _).mono ?_
      rintro e w1 ⟨rfl, hB1⟩
      have hB1 := Below.next hB hB1
      clear hB
      go_wp2_with fail
      refine (HL.out y m hy2 hm _).mono ?_
      rintro e w2 ⟨rfl, hB2⟩
      have hB2 := Below.next hB1 hB2
      clear hB1
      by_cases h12 : m = 11
      · subst h12
        have h13 : ((11 : Nat) : Int) + 1 + 1 = 13 := by omega
        go_wp2
        go_roundw
        case rel =>
          refine ⟨y + 1, 0, l - ml (1900 + y) 11, by omega, by omega, ?_, ?_, rfl, ?_, hB2⟩
          · congr 1 <;> omega
          · congr 1 <;> omega
          · have h1 := HK.out
            have h2 := md_twelve (1900 + y)
            rw [md_step] at h2
            rw [yd_step]
            show yd y + yl (1900 + y) + 0 + _ = n
            omega
        case measure =>
          simp [intOf]; omega
      · have h13 : ¬ (m : Int) + 1 + 1 = 13 := by omega
        go_wp2
        go_roundw
        case rel =>
          refine ⟨y, m + 1, l - ml (1900 + y) m, by omega, by omega, ?_, rfl, ?_, ?_, hB2⟩
          · congr 1 <;> omega
          · congr 1 <;> omega
          · have h1 := HK.out
            rw [md_step]
            omega
        case measure =>
          simp [intOf]; omega
    · go_wp2_with fail
      refine (HL.out y m hy2 hm _).mono ?_
      rintro e w1 ⟨rfl, hB1⟩
      have hB1 := Below.next hB hB1
      clear hB
      go_wp2
      go_returns
      exact ⟨y, m, l + 1, ⟨hy2, hm, by omega, by omega⟩, by have := HK.out; unfold dn; omega, by rfl, hB1⟩

end Go.Proofs.YthnojedlndblbaaGreatDoor
namespace Go.Proofs.YthnojedlndblbaaGreatDoor
open Go Go.RowKit

def shareV (days year : Int) : Int := divI (days * 1000000) (year * 1000000)
set_option maxHeartbeats 800000 in
theorem share_any (a b : Int) (ha : -1000000 ≤ a ∧ a ≤ 1000000) (hb : -1000000 ≤ b ∧ b ≤ 1000000) (w : World) :
    Calls Tryz.prog 139 #[.int .i64 a, .int .i64 b] w fun e w' => e = .returned (.int .i64 (shareV a b)) ∧ ∃ n, w' = w.drewN n := by
  have HD := hid (div_any (a * 1000000) (b * 1000000))
  unfold shareV
  go_enter Tryz.func139, Tryz.ntmps139
  go_wp2_with fail
  refine (HD.out _).mono ?_
  rintro e w1 ⟨rfl, n, rfl⟩
  go_wp2
  go_ret
  exact ⟨rfl, _, rfl⟩

/-- The days of a date, as if all months had 30. -/
def sd (y m d : Nat) : Int := (1900 + (y : Int)) * 360 + (m : Int) * 30 + ((min d 30 : Nat) : Int)
theorem sd_bounds {y m d : Nat} (h : Dt y m d) : 0 ≤ sd y m d ∧ sd y m d ≤ 800000 := by
  have := h.1; have := h.2.1; unfold sd; omega
set_option maxHeartbeats 800000 in
theorem shortDays_any (y m d : Nat) (h : Dt y m d) (w : World) :
    Calls Tryz.prog 140 #[.agg #[.int .i64 (1900 + (y : Int)), .int .i64 m, .int .i64 d]] w fun e w' => e = .returned (.int .i64 (sd y m d)) ∧ Below w.heap.size w w' := by
  have hd31 := h.dle
  have hy := h.1
  have hm := h.2.1
  have hB := (Below.refl w.heap.size w).alloc (Nat.le_refl _) (.cells #[.int .i64 (1900 + (y : Int)), .int .i64 m, .int .i64 d] 140)
  obtain ⟨c0, c1, c2⟩ := laid3 w (.int .i64 (1900 + (y : Int))) (.int .i64 m) (.int .i64 d)
  have HF : Hid (Below w.heap.size w (w.alloc (.cells #[.int .i64 (1900 + (y : Int)), .int .i64 m, .int .i64 d] 140))) := hB
  clear hB h
  have e30 : (if (30 : Int) < (d : Int) then (30 : Int) else (d : Int)) = ((min d 30 : Nat) : Int) := by split <;> omega
  have v1 : IntKind.i64.wrap ((1900 + (y : Int)) * 360) = (1900 + (y : Int)) * 360 := IntWalk.i64_in _ ⟨by omega, by omega⟩
  have v2 : IntKind.i64.wrap ((m : Int) * 30) = (m : Int) * 30 := IntWalk.i64_in _ ⟨by omega, by omega⟩
  have v3 : IntKind.i64.wrap ((1900 + (y : Int)) * 360 + (m : Int) * 30) = (1900 + (y : Int)) * 360 + (m : Int) * 30 := IntWalk.i64_in _ ⟨by omega, by omega⟩
  go_enter Tryz.func140, Tryz.ntmps140
  go_wp2
  go_ret
  refine ⟨ret_intD ?_, HF.out⟩
  unfold sd
  omega

set_option maxHeartbeats 800000 in
theorem years_any (a b : Int) (w : World) :
    Calls Tryz.prog 120 #[.int .i64 a, .int .i64 b] w fun e w' => e = .returned (.int .i64 (shareV ((clampD b : Int) - (clampD a : Int)) 365)) ∧ ∃ n, w' = w.drewN n := by
  have h1 := clampD_le a
  have h2 := clampD_le b
  have HS := hid (share_any ((clampD b : Int) - (clampD a : Int)) 365 (by omega) (by omega))
  have HA := hid (clamp_day a)
  have HB := hid (clamp_day b)
  generalize shareV ((clampD b : Int) - (clampD a : Int)) 365 = R at *
  generalize clampD a = A at *
  generalize clampD b = B at *
  go_enter Tryz.func120, Tryz.ntmps120
  go_wp2_with fail
  refine (HB.out _).mono ?_
  rintro e w1 ⟨rfl, rfl⟩
  go_wp2_with fail
  refine (HA.out _).mono ?_
  rintro e w1 ⟨rfl, rfl⟩
  go_wp2_with fail
  refine (HS.out _).mono ?_
  rintro e w1 ⟨rfl, n, rfl⟩
  go_wp2
  go_ret
  exact ⟨rfl, _, rfl⟩

set_option maxHeartbeats 800000 in
theorem years30_any (a b : Int) (w : World) (ht : Tab w) :
    Calls Tryz.prog 121 #[.int .i64 a, .int .i64 b] w fun e w' => ∃ y m d y' m' d' : Nat, Dt y m d ∧ dn y m d = clampD a ∧ Dt y' m' d' ∧ dn y' m' d' = clampD b ∧ e = .returned (.int .i64 (shareV (sd y' m' d' - sd y m d) 360)) ∧ Below w.heap.size w w' := by
  have h1 := clampD_le a
  have h2 := clampD_le b
  have HT := hid ht
  have HA := hid (clamp_day a)
  have HB := hid (clamp_day b)
  clear ht
  generalize clampD a = A at *
  generalize clampD b = B at *
  go_enter Tryz.func121, Tryz.ntmps121
  go_wp2_with fail
  refine (HB.out _).mono ?_
  rintro e w1 ⟨rfl, rfl⟩
  go_wp2_with fail
  refine (dateOf_any B h2 _ HT.out).mono ?_
  rintro e w2 ⟨y', m', d', hd', hdn', rfl, hB2⟩
  have HD' := hid (show Dt y' m' d' ∧ dn y' m' d' = B from ⟨hd', hdn'⟩)
  clear hd' hdn'
  go_wp2_with fail
  refine (shortDays_any y' m' d' HD'.out.1 _).mono ?_
  rintro e w3 ⟨rfl, hB3⟩
  have hB3 := Below.next hB2 hB3
  clear hB2
  go_wp2_with fail
  refine (HA.out _).mono ?_
  rintro e w3 ⟨rfl, rfl⟩
  go_wp2_with fail
  refine (dateOf_any A h1 _ (HT.out.below hB3)).mono ?_
  rintro e w4 ⟨y, m, d, hd, hdn, rfl, hB4⟩
  have hB4 := Below.next hB3 hB4
  have HD := hid (show Dt y m d ∧ dn y m d = A from ⟨hd, hdn⟩)
  clear hd hdn hB3
  go_wp2_with fail
  refine (shortDays_any y m d HD.out.1 _).mono ?_
  rintro e w5 ⟨rfl, hB5⟩
  have hB5 := Below.next hB4 hB5
  clear hB4
  have b1 := sd_bounds HD.out.1
  have b2 := sd_bounds HD'.out.1
  have HS := hid (share_any (sd y' m' d' - sd y m d) 360 (by omega) (by omega))
  go_wp2_with fail
  refine (HS.out _).mono ?_
  rintro e w1 ⟨rfl, n, rfl⟩
  go_wp2
  go_ret
  exact ⟨y, m, d, y', m', d', HD.out.1, HD.out.2, HD'.out.1, HD'.out.2, rfl, Below.next hB5 (drewN_below _ _)⟩
end Go.Proofs.YthnojedlndblbaaGreatDoor
namespace Go.Proofs.YthnojedlndblbaaGreatDoor
open Go Go.RowKit

theorem clampD_hi {n : Int} (h : 73048 ≤ n) : clampD n = 73048 := by unfold clampD; split <;> (try split) <;> omega
theorem clampD_lo {n : Int} (h : n ≤ 0) : clampD n = 0 := by unfold clampD; split <;> (try split) <;> omega
set_option maxHeartbeats 400000 in
theorem rclamp_day (n : Int) (w : World) :
    Calls Tryz.prog 49 #[.int .i64 n] w fun e w' => e = .returned (.int .i64 (clampD n : Nat)) ∧ w' = w := by
  unfold clampD
  by_cases h0 : n < 0
  · go_enter Tryz.func49, Tryz.ntmps49
    rw [if_pos h0]
    go_wp2
    all_goals
      go_ret
      exact ⟨ret_intD (by omega), rfl⟩
  · by_cases h1 : 73048 < n
    · go_enter Tryz.func49, Tryz.ntmps49
      rw [if_neg h0, if_pos h1]
      go_wp2
      all_goals
        go_ret
        exact ⟨ret_intD (by omega), rfl⟩
    · go_enter Tryz.func49, Tryz.ntmps49
      rw [if_neg h0, if_neg h1]
      go_wp2
      all_goals
        go_ret
        exact ⟨ret_intD (by omega), rfl⟩

set_option maxHeartbeats 800000 in
theorem rplus_any (day n : Int) (w : World) :
    Calls Tryz.prog 89 #[.int .i64 day, .int .i64 n] w fun e w' => e = .returned (.int .i64 (plusV day n : Nat)) ∧ w' = w := by
  have h1 := clampD_le day
  have HC1 := hid (rclamp_day day)
  by_cases c1 : 73048 < n
  · have e : plusV day n = 73048 := by unfold plusV withinI; rw [if_neg (by omega), if_pos c1]; exact clampD_hi (by omega)
    rw [e]
    generalize clampD day = D at *
    go_enter Tryz.func89, Tryz.ntmps89
    go_wp2_with fail
    refine (HC1.out _).mono ?_
    rintro e w1 ⟨rfl, rfl⟩
    go_wp2
    go_ret
    exact ⟨rfl, rfl⟩
  · by_cases c2 : n < -73048
    · have e : plusV day n = 0 := by unfold plusV withinI; rw [if_pos c2]; exact clampD_lo (by omega)
      rw [e]
      generalize clampD day = D at *
      go_enter Tryz.func89, Tryz.ntmps89
      go_wp2_with fail
      refine (HC1.out _).mono ?_
      rintro e w1 ⟨rfl, rfl⟩
      go_wp2
      go_ret
      exact ⟨rfl, rfl⟩
    · have e : plusV day n = clampD ((clampD day : Int) + n) := by unfold plusV withinI; rw [if_neg c2, if_neg c1]
      rw [e]
      have HC2 := hid (rclamp_day ((clampD day : Int) + n))
      clear e
      generalize clampD ((clampD day : Int) + n) = R at *
      generalize clampD day = D at *
      go_enter Tryz.func89, Tryz.ntmps89
      go_wp2_with fail
      refine (HC1.out _).mono ?_
      rintro e w1 ⟨rfl, rfl⟩
      go_wp2_with fail
      refine (HC2.out _).mono ?_
      rintro e w1 ⟨rfl, rfl⟩
      go_wp2
      go_ret
      exact ⟨rfl, rfl⟩

set_option maxHeartbeats 800000 in
theorem rmonths_any (day n : Int) (w : World) :
    Calls Tryz.prog 91 #[.int .i64 day, .int .i64 n] w fun e w' => ∃ y m d : Nat, Dt y m d ∧ dn y m d = clampD day ∧ e = .returned (.int .i64 (monV y m d n : Nat)) ∧ Below w.heap.size w w' := by
  have hcl := clampD_le day
  have HC1 := hid (rclamp_day day)
  generalize clampD day = D at *
  go_enter Tryz.func91, Tryz.ntmps91
  go_wp2_with fail
  refine (HC1.out _).mono ?_
  rintro e w1 ⟨rfl, rfl⟩
  go_wp2_with fail
  refine (rparts_yes D hcl _).mono ?_
  rintro e w2 ⟨y, m, d, hd, hdn, rfl, hB⟩
  have hy := hd.1
  have hm := hd.2.1
  have hd31 := hd.dle
  have hd1 := hd.2.2.1
  have HD := hid hd
  have HDN := hid hdn
  clear hd hdn
  by_cases c1 : 2400 < n
  · have e : monV y m d n = 73048 := by unfold monV monK withinI; rw [if_neg (by omega : ¬ n < -2400), if_pos c1, if_neg (by omega), if_pos (by omega)]
    go_wp2
    go_ret
    exact ⟨y, m, d, HD.out, HDN.out, by rw [e]; rfl, hB⟩
  · by_cases c2 : n < -2400
    · have e : monV y m d n = 0 := by unfold monV monK withinI; rw [if_pos c2, if_pos (by omega)]
      go_wp2
      go_ret
      exact ⟨y, m, d, HD.out, HDN.out, by rw [e]; rfl, hB⟩
    · have eK : monK y m n = n + (y : Int) * 12 + (m : Int) := by unfold monK withinI; rw [if_neg c2, if_neg c1]
      by_cases c3 : n + (y : Int) * 12 + (m : Int) < 0
      · have e : monV y m d n = 0 := by unfold monV; rw [eK, if_pos c3]
        have c3' : 12 * (1900 + (y : Int)) + ((m : Int) + 1) - 1 + n < 22800 := by omega
        clear eK
        go_wp2
        go_ret
        exact ⟨y, m, d, HD.out, HDN.out, by rw [e]; rfl, hB⟩
      · by_cases c4 : 2400 ≤ n + (y : Int) * 12 + (m : Int)
        · have e : monV y m d n = 73048 := by unfold monV; rw [eK, if_neg c3, if_pos c4]
          clear eK
          go_wp2
          go_ret
          exact ⟨y, m, d, HD.out, HDN.out, by rw [e]; rfl, hB⟩
        · obtain ⟨k, hk⟩ := Int.eq_ofNat_of_zero_le (a := n + (y : Int) * 12 + (m : Int)) (by omega)
          have e : monV y m d n = dn (k / 12) (k % 12) (min d (ml (1900 + k / 12) (k % 12))) := by
            unfold monV; rw [eK, if_neg c3, if_neg c4, hk]; simp only [Int.toNat_natCast]
          have HE := hid e
          clear e eK
          go_wp2_with fail
          have hKb : 12 * (1900 + (y : Int)) + ((m : Int) + 1) - 1 + n = 22800 + (k : Int) := by omega
          have hk2 : k < 2400 := by omega
          rw [hKb]
          clear hKb hk c1 c2 c3 c4
          have e1 : (22800 + (k : Int)) / 12 = 1900 + ((k / 12 : Nat) : Int) := by omega
          have e2 : (22800 + (k : Int)) % 12 = ((k % 12 : Nat) : Int) := by omega
          rw [e1, e2]
          have hY1 : k / 12 < 200 := by omega
          have hM1 : k % 12 < 12 := by omega
          clear e1 e2
          generalize k / 12 = Y at *
          generalize k % 12 = M at *
          have hml := ml_le (1900 + Y) hM1
          have hmg := ml_ge (1900 + Y) hM1
          have HL := hid (rlength_any (1900 + Y) M (by omega) hM1)
          rw [show ((1900 + Y : Nat) : Int) = 1900 + (Y : Int) by omega] at HL
          have hDt : Dt Y M (min d (ml (1900 + Y) M)) := ⟨hY1, hM1, by omega, by omega⟩
          have HO := hid (fun w => rof_any (1900 + (Y : Int)) ((M : Int) + 1) ((min d (ml (1900 + Y) M) : Nat) : Int) w)
          rw [ofV_yes hDt] at HO
          generalize ml (1900 + Y) M = L at *
          have em : (if (L : Int) < (d : Int) then (L : Int) else (d : Int)) = ((min d L : Nat) : Int) := by split <;> omega
          refine (HL.out _).mono ?_
          rintro e w3 ⟨rfl, hB3⟩
          have hB3 := Below.next hB hB3
          go_wp2_with fail
          have em2 : min (d : Int) (L : Int) = ((min d L : Nat) : Int) := by omega
          first | rw [em2] | rw [em] | skip
          refine (HO.out _).mono ?_
          rintro e w4 ⟨rfl, hB4⟩
          go_wp2
          go_ret
          exact ⟨y, m, d, HD.out, HDN.out, by rw [HE.out]; rfl, Below.next hB3 hB4⟩

set_option maxHeartbeats 800000 in
theorem ryears_any (a b : Int) (w : World) :
    Calls Tryz.prog 92 #[.int .i64 a, .int .i64 b] w fun e w' => e = .returned (.int .i64 (shareV ((clampD b : Int) - (clampD a : Int)) 365)) ∧ w' = w := by
  have h1 := clampD_le a
  have h2 := clampD_le b
  have HS := hid (rdiv_any (((clampD b : Int) - (clampD a : Int)) * 1000000) 365000000)
  have HA := hid (rclamp_day a)
  have HB := hid (rclamp_day b)
  unfold shareV
  rw [show (365 : Int) * 1000000 = 365000000 from rfl]
  generalize divI (((clampD b : Int) - (clampD a : Int)) * 1000000) 365000000 = R at *
  generalize clampD a = A at *
  generalize clampD b = B at *
  go_enter Tryz.func92, Tryz.ntmps92
  go_wp2_with fail
  refine (HB.out _).mono ?_
  rintro e w1 ⟨rfl, rfl⟩
  go_wp2_with fail
  refine (HA.out _).mono ?_
  rintro e w1 ⟨rfl, rfl⟩
  go_wp2_with fail
  refine (HS.out _).mono ?_
  rintro e w1 ⟨rfl, rfl⟩
  go_wp2
  go_ret
  exact ⟨rfl, rfl⟩

set_option maxHeartbeats 800000 in
theorem ryears30_any (a b : Int) (w : World) :
    Calls Tryz.prog 93 #[.int .i64 a, .int .i64 b] w fun e w' => ∃ y m d y' m' d' : Nat, Dt y m d ∧ dn y m d = clampD a ∧ Dt y' m' d' ∧ dn y' m' d' = clampD b ∧ e = .returned (.int .i64 (shareV (sd y' m' d' - sd y m d) 360)) ∧ Below w.heap.size w w' := by
  have h1 := clampD_le a
  have h2 := clampD_le b
  have HA := hid (rclamp_day a)
  have HB := hid (rclamp_day b)
  generalize clampD a = A at *
  generalize clampD b = B at *
  go_enter Tryz.func93, Tryz.ntmps93
  go_wp2_with fail
  refine (HA.out _).mono ?_
  rintro e w1 ⟨rfl, rfl⟩
  go_wp2_with fail
  refine (rparts_yes A h1 _).mono ?_
  rintro e w2 ⟨y, m, d, hd, hdn, rfl, hB2⟩
  have HD := hid (show Dt y m d ∧ dn y m d = A from ⟨hd, hdn⟩)
  have q1 := hd.1
  have q2 := hd.2.1
  have q3 := hd.dle
  clear hd hdn
  go_wp2_with fail
  refine (HB.out _).mono ?_
  rintro e w3 ⟨rfl, rfl⟩
  go_wp2_with fail
  refine (rparts_yes B h2 _).mono ?_
  rintro e w4 ⟨y', m', d', hd', hdn', rfl, hB4⟩
  have hB4 := Below.next hB2 hB4
  have HD' := hid (show Dt y' m' d' ∧ dn y' m' d' = B from ⟨hd', hdn'⟩)
  have q4 := hd'.1
  have q5 := hd'.2.1
  have q6 := hd'.dle
  clear hd' hdn' hB2
  go_wp2_with fail
  have eS : 360 * (1900 + (y' : Int) - (1900 + (y : Int))) + 30 * ((m' : Int) + 1 - ((m : Int) + 1)) + min (d' : Int) 30 - min (d : Int) 30 = sd y' m' d' - sd y m d := by unfold sd; omega
  rw [eS]
  have HS := hid (rdiv_any ((sd y' m' d' - sd y m d) * 1000000) 360000000)
  refine (HS.out _).mono ?_
  rintro e w5 ⟨rfl, rfl⟩
  go_wp2
  go_ret
  exact ⟨y, m, d, y', m', d', HD.out.1, HD.out.2, HD'.out.1, HD'.out.2, rfl, hB4⟩
end Go.Proofs.YthnojedlndblbaaGreatDoor
