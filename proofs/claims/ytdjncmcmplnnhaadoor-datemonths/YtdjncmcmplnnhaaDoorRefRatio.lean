/- The reference's own products and quotients: plain mathematics, and the walks of its small functions. -/
import Derived.Test.YtdjncmcmplnnhaaDoorRatioMath
import Derived.Test.YtdjncmcmplnnhaaDoorBase
namespace Go.Proofs.YtdjncmcmplnnhaaDoor
open Go.RowKit

def rndN (q r d : Nat) : Nat := if upB q r d then q + 1 else q
def sgR (a b : Int) : Bool := decide (a < 0) != decide (b < 0)
def signR (a b : Int) (n : Nat) : Int := if sgR a b then -(n : Int) else (n : Int)

theorem rndN_ge (q r d : Nat) : q ≤ rndN q r d := by unfold rndN; split <;> omega
theorem rndN_le (q r d : Nat) : rndN q r d ≤ q + 1 := by unfold rndN; split <;> omega

/-- What the reference's last step makes of a rounded quotient. -/
theorem clamp_rnd (a b : Int) (x y c : Nat) : clampI (signR a b (rndN (x * y / c) (x * y % c) c)) = if sgR a b then -(ratN x y c : Int) else (ratN x y c : Int) := by
  have h1 := rndN_ge (x * y / c) (x * y % c) c
  have h2 := rndN_le (x * y / c) (x * y % c) c
  have h3 : ratN x y c = if 1000000000000000 ≤ x * y / c then 1000000000000000 else rndN (x * y / c) (x * y % c) c := rfl
  rw [h3]
  generalize rndN (x * y / c) (x * y % c) c = k at *
  unfold signR
  by_cases hq : 1000000000000000 ≤ x * y / c
  · rw [if_pos hq]
    cases sgR a b
    · simp only [Bool.false_eq_true, if_false]
      rcases Nat.lt_or_ge 1000000000000000 k with hk | hk
      · exact clampI_hi (by omega)
      · rw [clampI_in (by omega) (by omega)]; omega
    · simp only [if_true]
      rcases Nat.lt_or_ge 1000000000000000 k with hk | hk
      · rw [clampI_lo (by omega)]; rfl
      · rw [clampI_in (by omega) (by omega)]; omega
  · rw [if_neg hq]
    cases sgR a b
    · simp only [Bool.false_eq_true, if_false]; exact clampI_in (by omega) (by omega)
    · simp only [if_true]; exact clampI_in (by omega) (by omega)

theorem clamp_max (a b : Int) (x y c : Nat) (h : 1000000000000000 ≤ x * y / c) : clampI (signR a b 1000000000000000) = if sgR a b then -(ratN x y c : Int) else (ratN x y c : Int) := by
  have h3 : ratN x y c = 1000000000000000 := by unfold ratN; rw [if_pos h]
  rw [h3]
  unfold signR
  cases sgR a b <;> exact clampI_in (by simp) (by simp)

theorem mulI_ref (a b : Int) : mulI a b = if sgR (clampI a) (clampI b) then -(ratN (clampI a).natAbs (clampI b).natAbs 1000000 : Int) else (ratN (clampI a).natAbs (clampI b).natAbs 1000000 : Int) := by
  unfold mulI ratI
  have : sgnB (clampI a) (clampI b) 1000000 = sgR (clampI a) (clampI b) := by unfold sgnB sgR; simp
  rw [this]; rfl
theorem divI_ref {a b : Int} (hb : b ≠ 0) : divI a b = if sgR (clampI a) (clampI b) then -(ratN (clampI a).natAbs 1000000 (clampI b).natAbs : Int) else (ratN (clampI a).natAbs 1000000 (clampI b).natAbs : Int) := by
  unfold divI ratI
  rw [if_neg hb]
  have : sgnB (clampI a) 1000000 (clampI b) = sgR (clampI a) (clampI b) := by unfold sgnB sgR; simp
  rw [this]; rfl

/-- A product by halves of six digits. -/
theorem halves (x y : Nat) : x * y / 1000000 = x / 1000000 * (y / 1000000) * 1000000 + x / 1000000 * (y % 1000000) + x % 1000000 * (y / 1000000) + x % 1000000 * (y % 1000000) / 1000000 ∧
    x * y % 1000000 = x % 1000000 * (y % 1000000) % 1000000 := by
  have e : x * y = (x / 1000000 * (y / 1000000) * 1000000 + x / 1000000 * (y % 1000000) + x % 1000000 * (y / 1000000)) * 1000000 + x % 1000000 * (y % 1000000) := by
    have h1 := Nat.div_add_mod' x 1000000
    have h2 := Nat.div_add_mod' y 1000000
    generalize x / 1000000 = x1 at *
    generalize x % 1000000 = x0 at *
    generalize y / 1000000 = y1 at *
    generalize y % 1000000 = y0 at *
    subst h1; subst h2
    rw [Nat.add_mul, Nat.mul_add, Nat.mul_add, Nat.mul_mul_mul_comm, Nat.mul_right_comm x1 1000000 y0, ← Nat.mul_assoc x0 y1]
    omega
  rw [e]
  constructor
  · omega
  · omega

set_option maxHeartbeats 400000 in
theorem rsize_any (a : Int) (w : World) (h0 : -1000000000000000 ≤ a) (h1 : a ≤ 1000000000000000) :
    Calls Tryd.prog 51 #[.int .i64 a] w fun e w' => e = .returned (.int .i64 (a.natAbs : Int)) ∧ w' = w := by
  by_cases hn : a < 0
  · have e : Hid ((a.natAbs : Int) = -a) := by show (a.natAbs : Int) = -a; omega
    go_enter Tryd.func51, Tryd.ntmps51
    go_wp2
    go_ret
    exact ⟨ret_int e.out.symm, rfl⟩
  · have e : Hid ((a.natAbs : Int) = a) := by show (a.natAbs : Int) = a; omega
    go_enter Tryd.func51, Tryd.ntmps51
    go_wp2
    go_ret
    exact ⟨ret_int e.out.symm, rfl⟩

set_option maxHeartbeats 800000 in
theorem rsigned_any (n : Nat) (a b : Int) (w : World) (hn : n ≤ 10000000000000000) :
    Calls Tryd.prog 52 #[.int .i64 n, .int .i64 a, .int .i64 b] w fun e w' => e = .returned (.int .i64 (clampI (signR a b n))) ∧ w' = w := by
  have rm : IntKind.i64.wrap (-(n : Int)) = -(n : Int) := IntWalk.i64_in _ ⟨by omega, by omega⟩
  clear hn
  cases da : decide (a < 0) <;> cases db : decide (b < 0)
  all_goals cases hs : sgR a b
  all_goals have HS : Hid (signR a b n = if sgR a b then -(n : Int) else (n : Int)) := rfl
  all_goals rw [hs] at HS
  all_goals simp only [sgR, da, db] at hs
  all_goals first | exact absurd hs (by decide) | clear hs
  all_goals
    go_enter Tryd.func52, Tryd.ntmps52
    go_wp2_with (go_at_call 50; refine (rclamp_any _ _).mono ?_; rintro e w ⟨rfl, rfl⟩)
    go_ret
    exact ⟨by rw [HS.out]; rfl, rfl⟩

set_option maxHeartbeats 800000 in
theorem rrounded_any (n r c : Nat) (w : World) (hr : r < c) (hc : c ≤ 1000000000000000) (hn : n ≤ 5000000000000000) :
    Calls Tryd.prog 53 #[.int .i64 n, .int .i64 r, .int .i64 c] w fun e w' => e = .returned (.int .i64 (rndN n r c : Int)) ∧ w' = w := by
  obtain ⟨m, hm⟩ : ∃ m, m = c - r := ⟨_, rfl⟩
  have rm : (c : Int) - (r : Int) = (m : Int) := by omega
  have rw1 : IntKind.i64.wrap (m : Int) = (m : Int) := IntWalk.i64_in _ ⟨by omega, by omega⟩
  have rw2 : IntKind.i64.wrap ((n : Int) + 1) = (n : Int) + 1 := IntWalk.i64_in _ ⟨by omega, by omega⟩
  clear hc hn
  by_cases h1 : m < r
  · have HE : Hid (rndN n r c = n + 1) := by show rndN n r c = _; unfold rndN upB; rw [← hm]; simp [h1]
    clear hm
    go_enter Tryd.func53, Tryd.ntmps53
    go_wp2
    go_ret
    exact ⟨by rw [HE.out]; rfl, rfl⟩
  · by_cases h2 : r = m
    · have d2 : ((r : Int) == (m : Int)) = true := by simp; omega
      by_cases h3 : n % 2 = 1
      · have d3 : ((n : Int) % 2 == 1) = true := by simp; omega
        have HF : Hid (rndN n r c = n + 1) := by show rndN n r c = _; unfold rndN upB; rw [← hm]; simp [h2, h3]
        clear hm h2 h3
        go_enter Tryd.func53, Tryd.ntmps53
        go_wp2
        go_ret
        exact ⟨by rw [HF.out]; rfl, rfl⟩
      · have d3 : ((n : Int) % 2 == 1) = false := by simp; omega
        have HF : Hid (rndN n r c = n) := by show rndN n r c = _; unfold rndN upB; rw [← hm]; simp [h2, h3]
        clear hm h2 h3
        go_enter Tryd.func53, Tryd.ntmps53
        go_wp2
        go_ret
        exact ⟨by rw [HF.out]; rfl, rfl⟩
    · have d2 : ((r : Int) == (m : Int)) = false := by simp; omega
      have HF : Hid (rndN n r c = n) := by show rndN n r c = _; unfold rndN upB; rw [← hm]; simp [h1, h2]
      clear hm h2
      go_enter Tryd.func53, Tryd.ntmps53
      go_wp2
      go_ret
      exact ⟨by rw [HF.out]; rfl, rfl⟩
end Go.Proofs.YtdjncmcmplnnhaaDoor
