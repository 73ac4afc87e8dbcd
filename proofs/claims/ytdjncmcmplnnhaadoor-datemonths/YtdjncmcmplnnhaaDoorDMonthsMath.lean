/- The plain mathematics of DateMonths. -/
import Derived.Test.YtdjncmcmplnnhaaDoorDSumsMath
namespace Go.Proofs.YtdjncmcmplnnhaaDoor
open Go Go.RowKit

theorem monV_at {y m d : Nat} {n : Int} (hn : -2400 ≤ n ∧ n ≤ 2400) (h0 : 0 ≤ n + (y : Int) * 12 + (m : Int)) (h1 : n + (y : Int) * 12 + (m : Int) < 2400) (hd : Dt y m d) (k : Nat) (hk : n + (y : Int) * 12 + (m : Int) = k) :
    Dt (k / 12) (k % 12) (min d (ml (1900 + k / 12) (k % 12))) ∧ monV y m d n = dn (k / 12) (k % 12) (min d (ml (1900 + k / 12) (k % 12))) := by
  have hM : k % 12 < 12 := by omega
  have hg := ml_ge (1900 + k / 12) hM
  have hd1 := hd.2.2.1
  refine ⟨⟨by omega, hM, by omega, by omega⟩, ?_⟩
  have e : monK y m n = (k : Int) := by unfold monK withinI; rw [if_neg (by omega), if_neg (by omega)]; omega
  unfold monV
  rw [e, if_neg (by omega), if_neg (by omega)]
  simp only [Int.toNat_natCast]
theorem monV_low {y m d : Nat} {n : Int} (hn : -2400 ≤ n ∧ n ≤ 2400) (h : n + (y : Int) * 12 + (m : Int) < 0) : monV y m d n = 0 := by
  have e : monK y m n = n + (y : Int) * 12 + (m : Int) := by unfold monK withinI; rw [if_neg (by omega), if_neg (by omega)]
  unfold monV
  rw [e, if_pos h]
theorem monV_high {y m d : Nat} {n : Int} (hn : -2400 ≤ n ∧ n ≤ 2400) (h : 2400 ≤ n + (y : Int) * 12 + (m : Int)) : monV y m d n = 73048 := by
  have e : monK y m n = n + (y : Int) * 12 + (m : Int) := by unfold monK withinI; rw [if_neg (by omega), if_neg (by omega)]
  unfold monV
  rw [e, if_neg (by omega), if_pos h]
theorem dn_le_of {y m d y' m' d' : Nat} (h : Dt y m d) (h' : Dt y' m' d') (hl : y < y' ∨ y = y' ∧ (m < m' ∨ m = m' ∧ d ≤ d')) : dn y m d ≤ dn y' m' d' := by
  by_cases he : y = y' ∧ m = m' ∧ d = d'
  · obtain ⟨rfl, rfl, rfl⟩ := he; exact Nat.le_refl _
  · exact Nat.le_of_lt (dn_lt h h' (by omega))
/-- Later days stay later. -/
theorem monV_mono {y m d y' m' d' : Nat} {n : Int} (hn : -2400 ≤ n ∧ n ≤ 2400) (h : Dt y m d) (h' : Dt y' m' d') (hl : dn y m d ≤ dn y' m' d') : monV y m d n ≤ monV y' m' d' n := by
  have hlex : y < y' ∨ y = y' ∧ (m < m' ∨ m = m' ∧ d ≤ d') := by
    rcases Nat.lt_or_eq_of_le hl with h1 | h1
    · have := (dn_lt_iff h h').1 h1; omega
    · obtain ⟨rfl, rfl, rfl⟩ := dn_inj h h' h1; omega
  have hm := h.2.1
  have hm' := h'.2.1
  by_cases c1 : n + (y : Int) * 12 + (m : Int) < 0
  · rw [monV_low hn c1]; omega
  · by_cases c2 : 2400 ≤ n + (y' : Int) * 12 + (m' : Int)
    · rw [monV_high hn c2]; exact monV_le _ _ _ _ h
    · have c3 : n + (y : Int) * 12 + (m : Int) < 2400 := by omega
      have c4 : 0 ≤ n + (y' : Int) * 12 + (m' : Int) := by omega
      obtain ⟨k, hk⟩ := Int.eq_ofNat_of_zero_le (a := n + (y : Int) * 12 + (m : Int)) (by omega)
      obtain ⟨k', hk'⟩ := Int.eq_ofNat_of_zero_le (a := n + (y' : Int) * 12 + (m' : Int)) (by omega)
      obtain ⟨a, b⟩ := monV_at hn (by omega) c3 h k hk
      obtain ⟨a', b'⟩ := monV_at hn c4 (by omega) h' k' hk'
      rw [b, b']
      refine dn_le_of a a' ?_
      rcases Nat.lt_or_ge k k' with hkk | hkk
      · omega
      · have : k = k' := by omega
        subst this
        refine .inr ⟨rfl, .inr ⟨rfl, ?_⟩⟩
        have : d ≤ d' := by omega
        omega
/-- Months add up. -/
theorem monV_add {y m d : Nat} {a b : Int} (ha : -2000 ≤ a ∧ a ≤ 2000) (hb : -2000 ≤ b ∧ b ≤ 2000) (h : Dt y m d) (hd28 : d ≤ 28) {y' m' d' : Nat} (h' : Dt y' m' d') (he : dn y' m' d' = monV y m d a)
    (h1 : 0 < monV y m d a) (h2 : monV y m d a < 73017) (h3 : 0 < monV y' m' d' b) (h4 : monV y' m' d' b < 73017) : monV y' m' d' b = monV y m d (a + b) := by
  have hm := h.2.1
  have hy := h.1
  by_cases c1 : a + (y : Int) * 12 + (m : Int) < 0
  · rw [monV_low (by omega) c1] at h1; omega
  · by_cases c2 : 2400 ≤ a + (y : Int) * 12 + (m : Int)
    · rw [monV_high (by omega) c2] at h2; omega
    · obtain ⟨k, hk⟩ := Int.eq_ofNat_of_zero_le (a := a + (y : Int) * 12 + (m : Int)) (by omega)
      obtain ⟨p, q⟩ := monV_at (by omega) (by omega) (by omega) h k hk
      have hg := ml_ge (1900 + k / 12) (m := k % 12) (by omega)
      have hmin : min d (ml (1900 + k / 12) (k % 12)) = d := by omega
      rw [hmin] at p q
      obtain ⟨rfl, rfl, rfl⟩ := dn_inj h' p (by rw [he, q])
      by_cases c3 : b + ((k / 12 : Nat) : Int) * 12 + ((k % 12 : Nat) : Int) < 0
      · rw [monV_low (by omega) c3] at h3; omega
      · by_cases c4 : 2400 ≤ b + ((k / 12 : Nat) : Int) * 12 + ((k % 12 : Nat) : Int)
        · rw [monV_high (by omega) c4] at h4; omega
        · obtain ⟨j, hj⟩ := Int.eq_ofNat_of_zero_le (a := b + ((k / 12 : Nat) : Int) * 12 + ((k % 12 : Nat) : Int)) (by omega)
          obtain ⟨p2, q2⟩ := monV_at (by omega) (by omega) (by omega) p j hj
          obtain ⟨p3, q3⟩ := monV_at (n := a + b) (by omega) (by omega) (by omega) h j (by omega)
          rw [q2, q3]
end Go.Proofs.YtdjncmcmplnnhaaDoor
