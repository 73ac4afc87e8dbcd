/- The plain mathematics of DateSums and DateMonths. -/
import Derived.Test.YtdjncmcmplnnhaaDoorDYears
import Derived.Test.YtdjncmcmplnnhaaDoorRatioMath
namespace Go.Proofs.YtdjncmcmplnnhaaDoor
open Go Go.RowKit

theorem plusV_in {d : Nat} (hd : d ≤ 73048) (n : Int) : plusV (d : Int) n = clampD ((d : Int) + n) := by
  unfold plusV
  rw [clampD_in hd]
  unfold withinI clampD
  split <;> split <;> (try split) <;> (try split) <;> (try split) <;> (try split) <;> omega
theorem plusV_mid {d : Nat} (hd : d ≤ 73048) {a : Int} (h0 : 0 ≤ (d : Int) + a) (h1 : (d : Int) + a ≤ 73048) : (plusV (d : Int) a : Int) = (d : Int) + a := by
  rw [plusV_in hd]
  unfold clampD
  rw [if_neg (by omega), if_neg (by omega)]; omega
theorem plusV_sum {d : Nat} (hd : d ≤ 73048) {a : Int} (h0 : 0 ≤ (d : Int) + a) (h1 : (d : Int) + a ≤ 73048) (b : Int) : plusV (plusV (d : Int) a : Nat) b = plusV (d : Int) (a + b) := by
  have e := plusV_mid hd h0 h1
  have hl : plusV (d : Int) a ≤ 73048 := by omega
  rw [plusV_in hl, e, plusV_in hd, Int.add_assoc]
theorem plusV_mono {a b : Nat} (ha : a ≤ b) (hb : b ≤ 73048) (n : Int) : plusV (a : Int) n ≤ plusV (b : Int) n := by
  rw [plusV_in (by omega), plusV_in hb]
  unfold clampD
  split <;> split <;> (try split) <;> (try split) <;> omega

theorem divI_neg (a b : Int) : divI (-a) b = - divI a b := by
  unfold divI
  split
  · rfl
  · rw [clampI_neg, ratI_comm, ratI_neg, ratI_comm]
theorem shareV_neg (a b : Int) : shareV (-a) b = - shareV a b := by
  unfold shareV
  rw [Int.neg_mul, divI_neg]
theorem shareV_in (a b : Int) : clampI (shareV a b) = shareV a b := by
  unfold shareV divI
  split
  · rfl
  · exact clampI_in (ratI_ge _ _ _) (ratI_le _ _ _)
theorem share_back (a b c : Int) : shareV (a - b) c = - clampI (shareV (b - a) c) := by
  rw [shareV_in, ← shareV_neg]
  congr 1; omega

theorem monV_zero {y m d : Nat} (h : Dt y m d) : monV y m d 0 = dn y m d := by
  obtain ⟨h1, h2, h3, h4⟩ := h
  have e : monK y m 0 = ((12 * y + m : Nat) : Int) := by unfold monK withinI; rw [if_neg (by omega), if_neg (by omega)]; omega
  unfold monV
  rw [e, if_neg (by omega), if_neg (by omega)]
  simp only [Int.toNat_natCast]
  have e1 : (12 * y + m) / 12 = y := by omega
  have e2 : (12 * y + m) % 12 = m := by omega
  rw [e1, e2, Nat.min_eq_left h4]
theorem monV_year {y m d : Nat} (h : Dt y m d) (hy : y < 199) : Dt (y + 1) m (min d (ml (1900 + (y + 1)) m)) ∧ monV y m d 12 = dn (y + 1) m (min d (ml (1900 + (y + 1)) m)) := by
  obtain ⟨h1, h2, h3, h4⟩ := h
  have hg := ml_ge (1900 + (y + 1)) h2
  have e : monK y m 12 = ((12 * (y + 1) + m : Nat) : Int) := by unfold monK withinI; rw [if_neg (by omega), if_neg (by omega)]; omega
  refine ⟨⟨by omega, h2, by omega, by omega⟩, ?_⟩
  unfold monV
  rw [e, if_neg (by omega), if_neg (by omega)]
  simp only [Int.toNat_natCast]
  have e1 : (12 * (y + 1) + m) / 12 = y + 1 := by omega
  have e2 : (12 * (y + 1) + m) % 12 = m := by omega
  rw [e1, e2]
theorem ml_next {y m d : Nat} (h : Dt y m d) : min d (ml (1900 + (y + 1)) m) = d ∨ m = 1 ∧ d = 29 ∧ min d (ml (1900 + (y + 1)) m) = 28 := by
  obtain ⟨h1, h2, h3, h4⟩ := h
  unfold ml at h4 ⊢
  have l1 := lpN_le (1900 + y)
  have l2 := lpN_le (1900 + (y + 1))
  split at h4 <;> split <;> omega
theorem monV_end {m d : Nat} (h : Dt 199 m d) : monV 199 m d 12 = dn 199 11 31 := by
  obtain ⟨h1, h2, h3, h4⟩ := h
  have e0 : dn 199 11 31 = 73048 := by decide +kernel
  have e : monK 199 m 12 = 2400 + (m : Int) := by unfold monK withinI; rw [if_neg (by omega), if_neg (by omega)]; omega
  unfold monV
  rw [e, if_neg (by omega), if_pos (by omega), e0]
/-- The date a year later. -/
theorem year_later {y m d z n c : Nat} (h : Dt y m d) (h' : Dt z n c) (he : dn z n c = monV y m d 12) :
    (y = 199 ∧ z = 199 ∧ n = 11 ∧ c = 31) ∨ (y < 199 ∧ z = y + 1 ∧ n = m ∧ c = d) ∨ (y < 199 ∧ z = y + 1 ∧ n = 1 ∧ m = 1 ∧ d = 29 ∧ c = 28) := by
  by_cases hy : y = 199
  · subst hy
    obtain ⟨rfl, rfl, rfl⟩ := dn_inj h' (by decide +kernel : Dt 199 11 31) (by rw [he, monV_end h])
    exact .inl ⟨rfl, rfl, rfl, rfl⟩
  · have hy' : y < 199 := by have := h.1; omega
    obtain ⟨a, b⟩ := monV_year h hy'
    obtain ⟨rfl, rfl, hc⟩ := dn_inj h' a (by rw [he, b])
    rcases ml_next h with h1 | ⟨h1, h2, h3⟩
    · exact .inr (.inl ⟨hy', rfl, rfl, by omega⟩)
    · exact .inr (.inr ⟨hy', rfl, h1, h1, h2, by omega⟩)
theorem monV_le (y m d : Nat) (n : Int) (h : Dt y m d) : monV y m d n ≤ 73048 := by
  obtain ⟨h1, h2, h3, h4⟩ := h
  unfold monV
  split
  · omega
  · split
    · omega
    · have hM : (monK y m n).toNat % 12 < 12 := by omega
      have hg := ml_ge (1900 + (monK y m n).toNat / 12) hM
      exact dn_le ⟨by omega, hM, by omega, by omega⟩
end Go.Proofs.YtdjncmcmplnnhaaDoor
