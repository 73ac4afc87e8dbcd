/- The plain mathematics of the digits behind the point: no Go in sight. -/
import Derived.Test.YtehpnhmghfpjpaaDoorPlain
import Derived.Lib.ItoaNum
import Derived.Lib.UnsafeStr
namespace Go.Proofs.YtehpnhmghfpjpaaDoor
open Go Go.RowKit

/-- One place: what is written, what is left, the last place's unit. -/
def putF (s : List UInt8 × Int × Int) : List UInt8 × Int × Int :=
  if s.2.1 = 0 then s else (s.1 ++ [UInt8.ofNat (48 + (s.2.1 / (s.2.2 / 10)).toNat)], s.2.1 % (s.2.2 / 10), s.2.2 / 10)

def putN : Nat → List UInt8 × Int × Int → List UInt8 × Int × Int
  | 0, s => s
  | k + 1, s => putF (putN k s)

/-- Nothing is left, or what is left is less than the last place's unit. -/
def Good (s : List UInt8 × Int × Int) : Prop := s.2.1 = 0 ∨ ∃ j : Nat, 1 ≤ j ∧ j ≤ 6 ∧ s.2.2 = ((10 ^ j : Nat) : Int) ∧ 0 < s.2.1 ∧ s.2.1 < ((10 ^ j : Nat) : Int)

theorem pow_cases {j : Nat} (h1 : 1 ≤ j) (h2 : j ≤ 6) : j = 1 ∨ j = 2 ∨ j = 3 ∨ j = 4 ∨ j = 5 ∨ j = 6 := by omega

/-- Where something is left: the bounds that the walk wants, and that one place more keeps them. -/
theorem Good.step {s : List UInt8 × Int × Int} (h : Good s) (hz : s.2.1 ≠ 0) :
    0 < s.2.1 ∧ s.2.1 < 1000000 ∧ 10 ≤ s.2.2 ∧ s.2.2 ≤ 1000000 ∧ 0 ≤ s.2.1 / (s.2.2 / 10) ∧ s.2.1 / (s.2.2 / 10) ≤ 9 ∧ Good (s.1, s.2.1 % (s.2.2 / 10), s.2.2 / 10) := by
  obtain ⟨bs, l, u⟩ := s
  rcases h with h | ⟨j, h1, h2, h3, h4, h5⟩
  · exact absurd h hz
  · simp only at h3 h4 h5 hz ⊢
    unfold Good
    rcases pow_cases h1 h2 with rfl | rfl | rfl | rfl | rfl | rfl <;> simp only [Nat.reducePow, Int.cast_ofNat_Int] at h3 h5 <;> subst h3
    · exact ⟨h4, by omega, by omega, by omega, by omega, by omega, Or.inl (by simp)⟩
    · refine ⟨h4, by omega, by omega, by omega, by omega, by omega, ?_⟩
      by_cases e : l % 10 = 0
      · exact Or.inl (by simpa using e)
      · exact Or.inr ⟨1, by omega, by omega, by simp, by simp; omega, by simp; omega⟩
    · refine ⟨h4, by omega, by omega, by omega, by omega, by omega, ?_⟩
      by_cases e : l % 100 = 0
      · exact Or.inl (by simpa using e)
      · exact Or.inr ⟨2, by omega, by omega, by simp, by simp; omega, by simp; omega⟩
    · refine ⟨h4, by omega, by omega, by omega, by omega, by omega, ?_⟩
      by_cases e : l % 1000 = 0
      · exact Or.inl (by simpa using e)
      · exact Or.inr ⟨3, by omega, by omega, by simp, by simp; omega, by simp; omega⟩
    · refine ⟨h4, by omega, by omega, by omega, by omega, by omega, ?_⟩
      by_cases e : l % 10000 = 0
      · exact Or.inl (by simpa using e)
      · exact Or.inr ⟨4, by omega, by omega, by simp, by simp; omega, by simp; omega⟩
    · refine ⟨h4, by omega, by omega, by omega, by omega, by omega, ?_⟩
      by_cases e : l % 100000 = 0
      · exact Or.inl (by simpa using e)
      · exact Or.inr ⟨5, by omega, by omega, by simp, by simp; omega, by simp; omega⟩

theorem Good.next {s : List UInt8 × Int × Int} (h : Good s) : Good (putF s) := by
  unfold putF
  split
  · exact h
  · rename_i hz
    exact (h.step hz).2.2.2.2.2.2

theorem Good.putN {s : List UInt8 × Int × Int} (h : Good s) : ∀ k, Good (putN k s)
  | 0 => h
  | k + 1 => (Good.putN h k).next

theorem putF_len (s : List UInt8 × Int × Int) : (putF s).1.length ≤ s.1.length + 1 := by
  unfold putF; split <;> simp
theorem putN_len (s : List UInt8 × Int × Int) : ∀ k, (putN k s).1.length ≤ s.1.length + k
  | 0 => Nat.le_refl _
  | k + 1 => by have h1 := putN_len s k; have h2 := putF_len (putN k s); simp only [putN]; omega

/-- How many digits a number up to 10^9 has, at most. -/
theorem decDigits_len : ∀ (k u : Nat), u < 10 ^ (k + 1) → (Lib.decDigits u).length ≤ k + 1
  | 0, u, h => by unfold Lib.decDigits; rw [dif_pos (by simpa using h)]; simp
  | k + 1, u, h => by
    unfold Lib.decDigits
    split
    · simp
    · simp only [List.length_append, List.length_cons, List.length_nil]
      have := decDigits_len k (u / 10) (by rw [Nat.pow_succ] at h; omega)
      omega

theorem itoa_nonneg {n : Int} (h : 0 ≤ n) : Lib.itoa n = Lib.decDigits n.toNat := by unfold Lib.itoa; rw [if_neg (by omega)]
theorem itoa_len {n : Int} (h : 0 ≤ n) (h1 : n ≤ 1000000000) : (Lib.itoa n).length ≤ 10 := by
  rw [itoa_nonneg h]; exact decDigits_len 9 _ (by omega)

/-- The digits behind the point. -/
def fracDigits (r : Int) : List UInt8 := (putN 6 ([], r, 1000000)).1

/-- What stands ahead does not matter. -/
theorem putF_pre (pre bs : List UInt8) (l u : Int) : putF (pre ++ bs, l, u) = (pre ++ (putF (bs, l, u)).1, (putF (bs, l, u)).2) := by
  unfold putF; split <;> simp_all
theorem putN_pre (pre bs : List UInt8) (l u : Int) : ∀ k, putN k (pre ++ bs, l, u) = (pre ++ (putN k (bs, l, u)).1, (putN k (bs, l, u)).2)
  | 0 => rfl
  | k + 1 => by simp only [putN]; rw [putN_pre pre bs l u k]; exact putF_pre _ _ _ _

/-- The text of a number within its limits that is not below 0. -/
def showPos (c : Int) : List UInt8 := Lib.itoa (c / 1000000) ++ (if c % 1000000 = 0 then [] else 46 :: fracDigits (c % 1000000))
/-- The text of a number. -/
def showL (a : Int) : List UInt8 := if clampI a < 0 then 45 :: showPos (- clampI a) else showPos (clampI a)

end Go.Proofs.YtehpnhmghfpjpaaDoor
