/- A quotient lies as near as half a millionth to what it is. -/
import Derived.Test.YtehpnhmghfpjpabDoorRatioPlain
import Derived.WalkKit
namespace Go.Proofs.YtehpnhmghfpjpabDoor

/-- Rounded, a quotient parts from what it is by at most half. -/
theorem near_nat {p c : Nat} (hc : 0 < c) : ∃ k : Nat, (if upB (p / c) (p % c) c then p / c + 1 else p / c) = k ∧ 2 * (k * c) ≤ 2 * p + c ∧ 2 * p ≤ 2 * (k * c) + c := by
  have d := Nat.div_add_mod' p c
  have m := Nat.mod_lt p hc
  refine ⟨_, rfl, ?_⟩
  cases h : upB (p / c) (p % c) c
  · simp only [Bool.false_eq_true, if_false]
    unfold upB at h
    simp only [Bool.or_eq_false_iff, decide_eq_false_iff_not] at h
    generalize p / c * c = T at *
    omega
  · simp only [if_true]
    unfold upB at h
    simp only [Bool.or_eq_true, Bool.and_eq_true, decide_eq_true_eq] at h
    rw [Nat.add_mul]
    generalize p / c * c = T at *
    omega

/-- The quotient of two numbers as the law takes them. -/
theorem near_div {a b : Int} (a0 : -1000000000 ≤ a) (a1 : a ≤ 1000000000) (b0 : 1000 ≤ b) (b1 : b ≤ 1000000000) :
    -1000000000000 ≤ divI a b ∧ divI a b ≤ 1000000000000 ∧ 2 * (divI a b * b - a * 1000000) ≤ b ∧ -b ≤ 2 * (divI a b * b - a * 1000000) := by
  have ea : clampI a = a := clampI_in (by omega) (by omega)
  have eb : clampI b = b := clampI_in (by omega) (by omega)
  have hq : a.natAbs * 1000000 / b.natAbs ≤ 1000000000000 := by
    have h : a.natAbs * 1000000 < 1000000000001 * b.natAbs := by omega
    have := (Nat.div_lt_iff_lt_mul (show 0 < b.natAbs by omega)).2 h
    omega
  obtain ⟨k, hk, h1, h2⟩ := near_nat (p := a.natAbs * 1000000) (c := b.natAbs) (by omega)
  have hr : ratN a.natAbs 1000000 b.natAbs = k := by
    unfold ratN; rw [if_neg (by omega)]; exact hk
  have hkb : k ≤ 1000000000000 := by
    have h3 : k * b.natAbs * 2 ≤ 2000000000000000 + b.natAbs := by omega
    rcases Nat.lt_or_ge 1000000000000 k with h | h
    · have h4 : 1000000000001 * b.natAbs ≤ k * b.natAbs := Nat.mul_le_mul_right _ h
      have h5 : 1000000000001 * 1000 ≤ 1000000000001 * b.natAbs := Nat.mul_le_mul_left _ (by omega)
      omega
    · exact h
  have hd : divI a b = if a < 0 then -(k : Int) else (k : Int) := by
    unfold divI ratI
    rw [if_neg (by omega), ea, eb]
    have : sgnB a 1000000 b = decide (a < 0) := by unfold sgnB; simp [show ¬ b < 0 by omega]
    rw [this, show (1000000 : Int).natAbs = 1000000 from rfl, hr]
    by_cases h : a < 0 <;> simp [h]
  have hb : (b.natAbs : Int) = b := by omega
  have hT : ((k * b.natAbs : Nat) : Int) = (k : Int) * b := by rw [Int.natCast_mul, hb]
  by_cases h : a < 0
  · rw [hd, if_pos h, Int.neg_mul]
    generalize (k : Int) * b = X at *
    generalize k * b.natAbs = Y at *
    omega
  · rw [hd, if_neg h]
    generalize (k : Int) * b = X at *
    generalize k * b.natAbs = Y at *
    omega

open Go.RowKit in
/-- What the law reckons of the quotient's parts. -/
theorem near_parts {a b q : Int} (a0 : -1000000000 ≤ a) (a1 : a ≤ 1000000000) (b0 : 1000 ≤ b) (b1 : b ≤ 1000000000)
    (q1 : -1000000000000 ≤ q) (q2 : q ≤ 1000000000000) (h3 : 2 * (q * b - a * 1000000) ≤ b) (h4 : -b ≤ 2 * (q * b - a * 1000000)) :
    ∃ t m TB MB : Int, -1000001 ≤ t ∧ t ≤ 1000001 ∧ q.tdiv 1000000 = t ∧ q.tmod 1000000 = m ∧ wrap64 (t * b) = TB ∧ wrap64 (m * b) = MB ∧ -1000000000000000 ≤ MB ∧ MB ≤ 1000000000000000 ∧ TB - a ≤ b ∧ -b ≤ TB - a ∧
      2 * ((TB - a) * 1000000 + MB) ≤ b ∧ -b ≤ 2 * ((TB - a) * 1000000 + MB) := by
  have e := Int.tdiv_mul_add_tmod q 1000000
  have l1 : q.tmod 1000000 < 1000000 := Int.tmod_lt_of_pos q (by omega)
  have l2 : -1000000 < q.tmod 1000000 := by have := Int.lt_tmod_of_pos q (show (0 : Int) < 1000000 by omega); omega
  generalize q.tdiv 1000000 = t at *
  generalize q.tmod 1000000 = m at *
  have hq : q * b = t * b * 1000000 + m * b := by rw [← e, Int.add_mul, Int.mul_right_comm]
  rw [hq] at h3 h4
  have m1 : m * b ≤ 999999 * b := Int.mul_le_mul_of_nonneg_right (by omega) (by omega)
  have m2 : -999999 * b ≤ m * b := Int.mul_le_mul_of_nonneg_right (by omega) (by omega)
  refine ⟨t, m, t * b, m * b, by omega, by omega, rfl, rfl, IntWalk.wrap64_in _ ⟨?_, ?_⟩, IntWalk.wrap64_in _ ⟨?_, ?_⟩, ?_, ?_, ?_, ?_, ?_, ?_⟩
  all_goals
    generalize t * b = X at *
    generalize m * b = Z at *
    omega
end Go.Proofs.YtehpnhmghfpjpabDoor
