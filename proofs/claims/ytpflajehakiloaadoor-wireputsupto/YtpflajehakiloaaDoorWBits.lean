/- Bits of numbers, as sums. -/
import Derived.WalkKit
import Derived.Laws.Bits64b
namespace Go.Proofs.YtpflajehakiloaaDoor
open Go

theorem not_i64 (n : Int) (h0 : -9223372036854775808 ≤ n) (h1 : n ≤ 9223372036854775807) : bits .xor .i64 (-1) n = -n - 1 := by
  show IntKind.i64.wrap ((BitVec.ofInt 64 (-1) ^^^ BitVec.ofInt 64 n).toNat : Int) = _
  have e : BitVec.ofInt 64 (-1) = BitVec.allOnes 64 := by decide
  rw [e, BitVec.allOnes_xor, BitVec.toNat_not, BitVec.toNat_ofInt, IntKind.wrap_i64]
  omega

/-- 'x | y', the first one's bits all above the second one's. -/
theorem or_hi (i a b : Nat) (hb : b < 2 ^ i) (h : 2 ^ i * a + b < 18446744073709551616) : bits .or .u64 ((2 ^ i * a : Nat) : Int) (b : Int) = ((2 ^ i * a + b : Nat) : Int) := by
  rw [bits_or_u64_nat _ _ (by omega) (by omega), Nat.two_pow_add_eq_or_of_lt hb a]
theorem or_lo (i a b : Nat) (hb : b < 2 ^ i) (h : 2 ^ i * a + b < 18446744073709551616) : bits .or .u64 (b : Int) ((2 ^ i * a : Nat) : Int) = ((b + 2 ^ i * a : Nat) : Int) := by
  rw [bits_or_u64_nat _ _ (by omega) (by omega), Nat.or_comm, ← Nat.two_pow_add_eq_or_of_lt hb a, Nat.add_comm]

theorem or_one (k : Int) (h0 : 0 ≤ k) (h1 : k < 9223372036854775808) : bits .or .u64 (k * 2) 1 = 2 * k + 1 := by
  obtain ⟨a, rfl⟩ := Int.eq_ofNat_of_zero_le h0
  have h := or_hi 1 a 1 (by decide) (by omega)
  have e : ((2 ^ 1 * a : Nat) : Int) = (a : Int) * 2 := by simp; omega
  rw [e] at h
  have e1 : ((1 : Nat) : Int) = 1 := rfl
  rw [e1] at h
  rw [h]; simp

/-- Seven bits more. -/
theorem or_seven (u x i : Nat) (hi : i ≤ 9) (hu : u < 128 ^ i) :
    bits .or .u64 (u : Int) (IntKind.u64.wrap ((x : Int) * 2 ^ (7 * i))) = (((u + x * 128 ^ i) % 18446744073709551616 : Nat) : Int) := by
  have hp : (128 : Nat) ^ i = 2 ^ (7 * i) := by rw [show (128 : Nat) = 2 ^ 7 by decide, ← Nat.pow_mul]
  have hw : IntKind.u64.wrap ((x : Int) * 2 ^ (7 * i)) = ((x * 2 ^ (7 * i) % 18446744073709551616 : Nat) : Int) := by
    rw [IntKind.wrap_u64, Int.natCast_emod, Int.natCast_mul, Int.natCast_pow]; rfl
  rw [hw, hp]
  rw [hp] at hu
  have h63 : (2 : Nat) ^ (7 * i) ≤ 2 ^ 63 := Nat.pow_le_pow_right (by decide) (by omega)
  have e63 : (2 : Nat) ^ 63 = 9223372036854775808 := by decide
  -- the remainder is itself a multiple
  have hdvd : ∃ y, x * 2 ^ (7 * i) % 18446744073709551616 = 2 ^ (7 * i) * y := by
    have h1 : 2 ^ (7 * i) ∣ 18446744073709551616 := by
      have : (18446744073709551616 : Nat) = 2 ^ 64 := by decide
      rw [this]; exact Nat.pow_dvd_pow 2 (by omega)
    exact (Nat.dvd_mod_iff h1).2 (Nat.dvd_mul_left _ _)
  obtain ⟨y, hy⟩ := hdvd
  have hylt : 2 ^ (7 * i) * y < 18446744073709551616 := by rw [← hy]; exact Nat.mod_lt _ (by decide)
  have hsum : 2 ^ (7 * i) * y + u < 18446744073709551616 := by
    have h1 : 2 ^ (7 * i) ∣ 18446744073709551616 := by
      have : (18446744073709551616 : Nat) = 2 ^ 64 := by decide
      rw [this]; exact Nat.pow_dvd_pow 2 (by omega)
    obtain ⟨z, hz⟩ := h1
    rw [hz] at hylt ⊢
    have hyz : y < z := Nat.lt_of_mul_lt_mul_left hylt
    have : 2 ^ (7 * i) * (y + 1) ≤ 2 ^ (7 * i) * z := Nat.mul_le_mul_left _ hyz
    rw [Nat.mul_add] at this
    omega
  rw [hy, or_lo (7 * i) y u hu hsum]
  congr 1
  rw [Nat.add_mod, hy]
  rw [Nat.mod_eq_of_lt (show u < 18446744073709551616 by omega), Nat.mod_eq_of_lt (by omega)]

/-- 'u << 8 | c'. -/
theorem or_eight (u c : Nat) (hu : u < 72057594037927936) (hc : c < 256) : bits .or .u64 ((u : Int) * 256) (c : Int) = ((u * 256 + c : Nat) : Int) := by
  have h := or_hi 8 u c (by simpa using hc) (by simp; omega)
  have e : ((2 ^ 8 * u : Nat) : Int) = (u : Int) * 256 := by simp; omega
  rw [e] at h
  rw [h]
  congr 1
  omega

/-- The sign's bit, turned: what is added, up to 2^64. -/
theorem xor_sign (u : Nat) (hu : u < 18446744073709551616) : bits .xor .u64 (u : Int) 9223372036854775808 = (((u + 9223372036854775808) % 18446744073709551616 : Nat) : Int) := by
  have e : (9223372036854775808 : Int) = ((9223372036854775808 : Nat) : Int) := rfl
  rw [e, bits_xor_u64_nat _ _ hu (by decide)]
  refine congrArg (fun n : Nat => (n : Int)) ?_
  have h1 : ∀ a : Nat, a < 9223372036854775808 → 9223372036854775808 + a = 9223372036854775808 ^^^ a := by
    intro a ha
    have h63 : (2 : Nat) ^ 63 = 9223372036854775808 := by decide
    have := Nat.two_pow_add_eq_or_of_lt (i := 63) (b := a) (by omega) 1
    rw [h63] at this
    simp only [Nat.mul_one] at this
    rw [this]
    apply Nat.eq_of_testBit_eq
    intro i
    rw [Nat.testBit_or, Nat.testBit_xor, ← h63, Nat.testBit_two_pow]
    by_cases hi : 63 = i
    · subst hi
      rw [Nat.testBit_lt_two_pow (by omega)]
      simp
    · simp [hi]
  by_cases hh : u < 9223372036854775808
  · rw [Nat.mod_eq_of_lt (by omega), Nat.xor_comm, ← h1 u hh, Nat.add_comm]
  · obtain ⟨a, rfl⟩ : ∃ a, u = 9223372036854775808 + a := ⟨u - 9223372036854775808, by omega⟩
    rw [h1 a (by omega), Nat.xor_comm 9223372036854775808 a, Nat.xor_assoc, Nat.xor_self, Nat.xor_zero]
    rw [Nat.xor_comm, ← h1 a (by omega)]
    omega
end Go.Proofs.YtpflajehakiloaaDoor
