/- What follows for products and quotients: order, one, nought, signs, what is greater stays so. -/
import Derived.Test.YtdjncmcmplnnhaaDoorRatioPlain
namespace Go.Proofs.YtdjncmcmplnnhaaDoor

theorem ratN_comm (a b c : Nat) : ratN a b c = ratN b a c := by unfold ratN; rw [Nat.mul_comm]
theorem sgnB_comm (a b c : Int) : sgnB a b c = sgnB b a c := by unfold sgnB; cases decide (a < 0) <;> cases decide (b < 0) <;> rfl
theorem ratI_comm (a b c : Int) : ratI a b c = ratI b a c := by unfold ratI; rw [sgnB_comm, ratN_comm]
theorem mulI_comm (a b : Int) : mulI a b = mulI b a := ratI_comm _ _ _

theorem ratN_self {x c : Nat} (hc : 0 < c) (h : x ≤ 1000000000000000) : ratN x c c = x := by
  unfold ratN
  rw [Nat.mul_div_cancel _ hc, Nat.mul_mod_left]
  have : upB x 0 c = false := by unfold upB; simp; omega
  rw [this]
  split
  · omega
  · rfl
theorem ratI_self {x c : Int} (hc : 0 < c) (h0 : -1000000000000000 ≤ x) (h1 : x ≤ 1000000000000000) : ratI x c c = x := by
  unfold ratI
  rw [ratN_self (by omega) (by omega)]
  have e : sgnB x c c = decide (x < 0) := by unfold sgnB; simp [show ¬ c < 0 by omega]
  rw [e]
  by_cases h : x < 0 <;> simp [h] <;> omega
theorem mulI_one (a : Int) : mulI a 1000000 = clampI a := by
  unfold mulI; rw [clampI_in (a := 1000000) (by omega) (by omega)]; exact ratI_self (by omega) (clampI_ge a) (clampI_le a)
theorem divI_one (a : Int) : divI a 1000000 = clampI a := by
  unfold divI; rw [if_neg (by omega), clampI_in (a := 1000000) (by omega) (by omega)]; exact ratI_self (by omega) (clampI_ge a) (clampI_le a)

theorem ratN_zero (a c : Nat) : ratN a 0 c = 0 := by unfold ratN upB; simp
theorem ratI_zero (a c : Int) : ratI a 0 c = 0 := by unfold ratI; simp [ratN_zero]
theorem clampI_zero : clampI 0 = 0 := clampI_in (by omega) (by omega)
theorem mulI_zero (a : Int) : mulI a 0 = 0 := by unfold mulI; rw [clampI_zero]; exact ratI_zero _ _
theorem divI_zero (a : Int) : divI a 0 = 0 := by unfold divI; simp

theorem ratI_neg (a b c : Int) : ratI a (-b) c = - ratI a b c := by
  by_cases hb : b = 0
  · subst hb; simp [ratI_zero]
  · unfold ratI
    rw [Int.natAbs_neg]
    have e : sgnB a (-b) c = !sgnB a b c := by
      unfold sgnB
      have : decide (-b < 0) = !decide (b < 0) := by by_cases h : b < 0 <;> simp [h] <;> omega
      rw [this]
      cases decide (a < 0) <;> cases decide (b < 0) <;> cases decide (c < 0) <;> rfl
    rw [e]
    cases sgnB a b c <;> simp
theorem mulI_in (a b : Int) : clampI (mulI a b) = mulI a b := clampI_in (ratI_ge _ _ _) (ratI_le _ _ _)
theorem mulI_neg (a b : Int) : mulI a (- clampI b) = - clampI (mulI a b) := by
  rw [mulI_in]; unfold mulI; rw [clampI_neg, clampI_idem]; exact ratI_neg _ _ _

/-- Rounding keeps the order. -/
theorem up_mono {n r r' c : Nat} (hr : r ≤ r') (h : upB n r c = true) : upB n r' c = true := by
  unfold upB at *
  simp only [Bool.or_eq_true, Bool.and_eq_true, decide_eq_true_eq] at *
  omega
theorem ratN_mono {a a' b c : Nat} (h : a ≤ a') (hc : 0 < c) : ratN a b c ≤ ratN a' b c := by
  have hp : a * b ≤ a' * b := Nat.mul_le_mul_right _ h
  have hq : a * b / c ≤ a' * b / c := Nat.div_le_div_right hp
  have d1 := Nat.div_add_mod (a * b) c
  have d2 := Nat.div_add_mod (a' * b) c
  have m1 := Nat.mod_lt (a * b) hc
  have m2 := Nat.mod_lt (a' * b) hc
  unfold ratN
  generalize a * b = p at *
  generalize a' * b = p' at *
  by_cases e : p / c = p' / c
  · rw [← e] at d2 ⊢
    have hr : p % c ≤ p' % c := by omega
    by_cases hm : 1000000000000000 ≤ p / c
    · simp [hm]
    · rw [if_neg hm, if_neg hm]
      cases hu : upB (p / c) (p % c) c
      · simp only [Bool.false_eq_true, if_false]; split <;> omega
      · rw [up_mono hr hu]; simp
  · split <;> split <;> (try split) <;> (try split) <;> omega

theorem ratI_mono {x y b c : Int} (h : x ≤ y) (hb : 0 ≤ b) (hc : 0 < c) : ratI x b c ≤ ratI y b c := by
  unfold ratI
  have e : ∀ z : Int, sgnB z b c = decide (z < 0) := fun z => by unfold sgnB; simp [show ¬ b < 0 by omega, show ¬ c < 0 by omega]
  rw [e, e]
  by_cases hx : x < 0
  · by_cases hy : y < 0
    · have := ratN_mono (a := y.natAbs) (a' := x.natAbs) (b := b.natAbs) (c := c.natAbs) (by omega) (by omega)
      simp [hx, hy]; omega
    · simp [hx, hy]
  · have := ratN_mono (a := x.natAbs) (a' := y.natAbs) (b := b.natAbs) (c := c.natAbs) (by omega) (by omega)
    simp [hx, show ¬ y < 0 by omega]; omega

theorem mulI_mono {a b u : Int} (h : a ≤ b) (hu : 0 ≤ u) : mulI a u ≤ mulI b u := by
  unfold mulI
  refine ratI_mono (clampI_mono h) ?_ (by omega)
  have := clampI_mono hu
  rwa [clampI_zero] at this
theorem divI_mono {a b u : Int} (h : a ≤ b) (hu : 0 < u) : divI a u ≤ divI b u := by
  unfold divI
  rw [if_neg (by omega), if_neg (by omega)]
  refine ratI_mono (clampI_mono h) (by omega) ?_
  have h1 := clampI_mono (show 1 ≤ u by omega)
  rw [clampI_in (a := 1) (by omega) (by omega)] at h1
  omega
theorem tdiv_mono {a b : Int} (h : a ≤ b) : a.tdiv 1000000 ≤ b.tdiv 1000000 := by
  rcases Int.lt_or_le a 0 with ha | ha
  · obtain ⟨x, rfl⟩ : ∃ x, a = -x := ⟨-a, by omega⟩
    rcases Int.lt_or_le b 0 with hb | hb
    · obtain ⟨y, rfl⟩ : ∃ y, b = -y := ⟨-b, by omega⟩
      rw [Int.neg_tdiv, Int.neg_tdiv, Int.tdiv_eq_ediv_of_nonneg (show 0 ≤ x by omega), Int.tdiv_eq_ediv_of_nonneg (show 0 ≤ y by omega)]
      omega
    · rw [Int.neg_tdiv, Int.tdiv_eq_ediv_of_nonneg (show 0 ≤ x by omega), Int.tdiv_eq_ediv_of_nonneg hb]
      omega
  · rw [Int.tdiv_eq_ediv_of_nonneg ha, Int.tdiv_eq_ediv_of_nonneg (show 0 ≤ b by omega)]
    omega
end Go.Proofs.YtdjncmcmplnnhaaDoor
