/- The plain mathematics of the long division of two words by one (two digits of 32 bits): no Go in sight. -/
import Derived.Test.YtdjncmcmplnnhaaDoorPlain
namespace Go.Proofs.YtdjncmcmplnnhaaDoor

section
variable {Y y1 y0 u v q r : Nat}

theorem kn_expand (hY : Y = y1 * 4294967296 + y0) (q : Nat) : q * Y = (q * y1) * 4294967296 + q * y0 := by
  rw [hY, Nat.mul_add, Nat.mul_assoc]

theorem kn_Q_lt (hu : u < Y) (hv : v < 4294967296) : (u * 4294967296 + v) / Y < 4294967296 := by
  rw [Nat.div_lt_iff_lt_mul (by omega)]
  have : (u + 1) * 4294967296 ≤ Y * 4294967296 := Nat.mul_le_mul_right _ hu
  omega

/-- The first guess is not too small. -/
theorem kn_start (hY : Y = y1 * 4294967296 + y0) (h1 : 0 < y1) : (u * 4294967296 + v) / Y ≤ u / y1 ∨ v ≥ 4294967296 := by
  by_cases hv : v < 4294967296
  · left
    have h2 : (u * 4294967296 + v) / Y ≤ (u * 4294967296 + v) / (y1 * 4294967296) := Nat.div_le_div_left (by omega) (by omega)
    have h3 : (u * 4294967296 + v) / (y1 * 4294967296) = u / y1 := by
      rw [Nat.mul_comm y1, ← Nat.div_div_eq_div_mul]
      congr 1
      omega
    omega
  · right; omega

theorem kn_big (hu : u < Y) (hv : v < 4294967296) (hq : 4294967296 ≤ q) : (u * 4294967296 + v) / Y ≤ q - 1 := by
  have := kn_Q_lt hu hv; omega

theorem kn_more (hY : Y = y1 * 4294967296 + y0) (hu : u < Y) (he : q * y1 + r = u) (hc : 4294967296 * r + v < q * y0) : (u * 4294967296 + v) / Y ≤ q - 1 ∧ 1 ≤ q := by
  have hq : 1 ≤ q := by
    rcases Nat.eq_zero_or_pos q with h | h
    · subst h; simp at hc
    · exact h
  refine ⟨?_, hq⟩
  have e := kn_expand hY q
  have : (u * 4294967296 + v) / Y < q := by
    rw [Nat.div_lt_iff_lt_mul (by omega), e]
    generalize q * y1 = P at *
    generalize q * y0 = S at *
    omega
  omega

theorem kn_done (hY : Y = y1 * 4294967296 + y0) (hu : u < Y) (he : q * y1 + r = u) (hQ : (u * 4294967296 + v) / Y ≤ q) (hc : q * y0 ≤ 4294967296 * r + v) : q = (u * 4294967296 + v) / Y := by
  refine Nat.le_antisymm ?_ hQ
  rw [Nat.le_div_iff_mul_le (by omega), kn_expand hY q]
  generalize q * y1 = P at *
  generalize q * y0 = S at *
  omega

theorem kn_break (hY : Y = y1 * 4294967296 + y0) (h0 : y0 < 4294967296) (hu : u < Y) (he : q * y1 + r = u) (hQ : (u * 4294967296 + v) / Y ≤ q) (hr : 4294967296 ≤ r) : q = (u * 4294967296 + v) / Y := by
  have hq : q < 4294967296 := by
    have : q * y1 < 4294967296 * y1 := by
      rw [Nat.mul_comm 4294967296]
      generalize q * y1 = P at *
      omega
    exact Nat.lt_of_mul_lt_mul_right this
  have hS : q * y0 ≤ 4294967295 * 4294967295 := Nat.mul_le_mul (by omega) (by omega)
  refine Nat.le_antisymm ?_ hQ
  rw [Nat.le_div_iff_mul_le (by omega), kn_expand hY q]
  generalize q * y1 = P at *
  generalize q * y0 = S at *
  omega

/-- The two digits together. -/
theorem kn_join {Y u u1 u0 Q1 R1 Q0 R0 : Nat} (e1 : Q1 * Y + R1 = u * 4294967296 + u1) (e0 : Q0 * Y + R0 = R1 * 4294967296 + u0) :
    (Q1 * 4294967296 + Q0) * Y + R0 = (u * 4294967296 + u1) * 4294967296 + u0 := by
  rw [Nat.add_mul, Nat.mul_right_comm]
  generalize Q1 * Y = A at *
  generalize Q0 * Y = B at *
  omega

/-- What was shifted is shifted back. -/
theorem kn_back {n y s Q R : Nat} (h : Q * (y * 2 ^ s) + R = n * 2 ^ s) (hR : R < y * 2 ^ s) : Q = n / y ∧ R / 2 ^ s = n % y := by
  have hp : 0 < 2 ^ s := Nat.two_pow_pos s
  have hd : 2 ^ s ∣ R := by
    have h1 : 2 ^ s ∣ n * 2 ^ s := Nat.dvd_mul_left _ _
    have h2 : 2 ^ s ∣ Q * (y * 2 ^ s) := Nat.dvd_trans (Nat.dvd_mul_left _ y) (Nat.dvd_mul_left _ Q)
    rw [← h] at h1
    exact (Nat.dvd_add_right h2).1 h1
  obtain ⟨k, hk⟩ := hd
  subst hk
  have h3 : Q * y + k = n := by
    have : (Q * y + k) * 2 ^ s = n * 2 ^ s := by rw [← h, Nat.add_mul, Nat.mul_assoc, Nat.mul_comm k]
    exact Nat.eq_of_mul_eq_mul_right hp this
  have h4 : k < y := by
    rw [Nat.mul_comm] at hR
    exact Nat.lt_of_mul_lt_mul_right hR
  rw [Nat.mul_div_cancel_left _ hp]
  subst h3
  constructor
  · rw [Nat.mul_comm, Nat.mul_add_div (by omega), Nat.div_eq_of_lt h4]; rfl
  · rw [Nat.mul_comm, Nat.mul_add_mod, Nat.mod_eq_of_lt h4]
end
end Go.Proofs.YtdjncmcmplnnhaaDoor
