/- The plain mathematics of the sum CRC-32. -/
import Derived.Test.YtpflajehakiloaaDoorWMath
namespace Go.Proofs.YtpflajehakiloaaDoor
open Go Go.RowKit

/-- What four steps leave of half a byte. -/
def crcTab : List Nat := [0, 498536548, 997073096, 651767980, 1994146192, 1802195444, 1303535960, 1342533948, 3988292384, 4027552580, 3604390888, 3412177804, 2607071920, 2262029012, 2685067896, 3183342108]
def crcAt (k : Nat) : Nat := crcTab.getD k 0
/-- One step, bit by bit. -/
def stepC (s : Nat) : Nat := s / 2 ^^^ (if s % 2 = 1 then 3988292384 else 0)
def nib (s : Nat) : Nat := s / 16 ^^^ crcAt (s % 16)

theorem xor_r {a b c : Nat} (h : a ^^^ c = b ^^^ c) : a = b := by
  have : a ^^^ c ^^^ c = b ^^^ c ^^^ c := by rw [h]
  rwa [Nat.xor_assoc, Nat.xor_assoc, Nat.xor_self, Nat.xor_zero, Nat.xor_zero] at this
theorem xor_l {a b c : Nat} (h : c ^^^ a = c ^^^ b) : a = b := by rw [Nat.xor_comm c, Nat.xor_comm c] at h; exact xor_r h
theorem half_xor (a b : Nat) : (a ^^^ b) / 2 = a / 2 ^^^ b / 2 := by
  apply Nat.eq_of_testBit_eq
  intro i
  rw [Nat.testBit_xor, Nat.testBit_div_two, Nat.testBit_div_two, Nat.testBit_div_two, Nat.testBit_xor]
theorem odd_xor (a b : Nat) : ((a ^^^ b) % 2 = 1) ↔ ¬ ((a % 2 = 1) ↔ (b % 2 = 1)) := Nat.xor_mod_two_eq_one
theorem stepC_xor (a b : Nat) : stepC (a ^^^ b) = stepC a ^^^ stepC b := by
  unfold stepC
  rw [half_xor]
  have ho := odd_xor a b
  by_cases ha : a % 2 = 1 <;> by_cases hb : b % 2 = 1
  · rw [if_neg (fun h => (ho.1 h) ⟨fun _ => hb, fun _ => ha⟩), if_pos ha, if_pos hb]
    rw [Nat.xor_zero, Nat.xor_assoc, Nat.xor_comm (3988292384 : Nat) (b / 2 ^^^ 3988292384), Nat.xor_assoc (b / 2), Nat.xor_self, Nat.xor_zero]
  · rw [if_pos (ho.2 (fun h => hb (h.1 ha))), if_pos ha, if_neg hb]
    rw [Nat.xor_zero, Nat.xor_assoc, Nat.xor_comm (b / 2), ← Nat.xor_assoc]
  · rw [if_pos (ho.2 (fun h => ha (h.2 hb))), if_neg ha, if_pos hb]
    rw [Nat.xor_zero, Nat.xor_assoc]
  · rw [if_neg (fun h => (ho.1 h) ⟨fun h => absurd h ha, fun h => absurd h hb⟩), if_neg ha, if_neg hb]
    simp
theorem stepC_even (a : Nat) : stepC (2 * a) = a := by
  unfold stepC
  rw [if_neg (by omega), Nat.xor_zero]; omega
theorem steps4 (s : Nat) : stepC (stepC (stepC (stepC s))) = nib s := by
  have e : s = 2 * (2 * (2 * (2 * (s / 16)))) ^^^ s % 16 := by
    have h := Nat.two_pow_add_eq_or_of_lt (i := 4) (b := s % 16) (by simp; omega) (s / 16)
    have h' : 2 * (2 * (2 * (2 * (s / 16)))) = 2 ^ 4 * (s / 16) := by omega
    rw [h']
    have hx : 2 ^ 4 * (s / 16) ^^^ s % 16 = 2 ^ 4 * (s / 16) ||| s % 16 := by
      apply Nat.eq_of_testBit_eq
      intro i
      rw [Nat.testBit_or, Nat.testBit_xor, Nat.testBit_two_pow_mul]
      by_cases hi : i ≥ 4
      · rw [Nat.testBit_lt_two_pow (x := s % 16) (Nat.lt_of_lt_of_le (show s % 16 < 2 ^ 4 by omega) (Nat.pow_le_pow_right (by decide) hi))]
        simp
      · simp [hi]
    rw [hx, ← h]; omega
  conv => lhs; rw [e]
  rw [stepC_xor, stepC_even, stepC_xor, stepC_even, stepC_xor, stepC_even, stepC_xor, stepC_even]
  unfold nib
  congr 1
  have h16 : s % 16 < 16 := Nat.mod_lt _ (by decide)
  generalize s % 16 = r at h16
  have : ∀ r : Fin 16, stepC (stepC (stepC (stepC r.val))) = crcAt r.val := by decide +kernel
  exact this ⟨r, h16⟩
theorem stepC_lt {s : Nat} (h : s < 4294967296) : stepC s < 4294967296 := by
  unfold stepC
  have : s / 2 ^^^ (if s % 2 = 1 then 3988292384 else 0) < 2 ^ 32 := Nat.xor_lt_two_pow (by omega) (by split <;> decide)
  simpa using this
/-- A step goes back in one way. -/
theorem stepC_inj {a b : Nat} (ha : a < 4294967296) (hb : b < 4294967296) (h : stepC a = stepC b) : a = b := by
  have top : ∀ s, s < 4294967296 → (stepC s).testBit 31 = decide (s % 2 = 1) := by
    intro s hs
    unfold stepC
    rw [Nat.testBit_xor, Nat.testBit_lt_two_pow (x := s / 2) (by omega)]
    by_cases ho : s % 2 = 1
    · rw [if_pos ho, decide_eq_true ho]; decide
    · rw [if_neg ho, decide_eq_false ho]; decide
  have ht : (a % 2 = 1) ↔ (b % 2 = 1) := by
    have h1 := top a ha
    have h2 := top b hb
    rw [h] at h1
    rw [h1] at h2
    simpa using h2
  have hd : a / 2 = b / 2 := by
    unfold stepC at h
    by_cases ho : a % 2 = 1
    · rw [if_pos ho, if_pos (ht.1 ho)] at h
      exact xor_r h
    · rw [if_neg ho, if_neg (fun h => ho (ht.2 h))] at h
      simpa using h
  omega
theorem crcAt_lt (k : Nat) : crcAt k < 4294967296 := by
  unfold crcAt
  by_cases h : k < 16
  · have : ∀ r : Fin 16, crcTab.getD r.val 0 < 4294967296 := by decide +kernel
    exact this ⟨k, h⟩
  · have : crcTab.getD k 0 = 0 := by
      have hl : crcTab.length = 16 := rfl
      simp [List.getD, List.getElem?_eq_none (show crcTab.length ≤ k by omega)]
    rw [this]; decide
theorem nib_lt {s : Nat} (h : s < 4294967296) : nib s < 4294967296 := by
  rw [← steps4]; exact stepC_lt (stepC_lt (stepC_lt (stepC_lt h)))
theorem nib_inj {a b : Nat} (ha : a < 4294967296) (hb : b < 4294967296) (h : nib a = nib b) : a = b := by
  rw [← steps4, ← steps4] at h
  have a1 := stepC_lt ha
  have b1 := stepC_lt hb
  have a2 := stepC_lt a1
  have b2 := stepC_lt b1
  exact stepC_inj ha hb (stepC_inj a1 b1 (stepC_inj a2 b2 (stepC_inj (stepC_lt a2) (stepC_lt b2) h)))
theorem xor8_lt {s : Nat} (h : s < 4294967296) (c : UInt8) : s ^^^ c.toNat < 4294967296 := by
  have : s ^^^ c.toNat < 2 ^ 32 := Nat.xor_lt_two_pow (by omega) (by have := c.toNat_lt; omega)
  simpa using this
/-- A sum carried on over some bytes. -/
def crcB (s : Nat) : List UInt8 → Nat
  | [] => s
  | c :: r => crcB (nib (nib (s ^^^ c.toNat))) r
theorem crcB_append : ∀ (a b : List UInt8) (s : Nat), crcB s (a ++ b) = crcB (crcB s a) b
  | [], _, _ => rfl
  | c :: r, b, s => by rw [List.cons_append, crcB, crcB_append r b]; rfl
theorem crcB_lt : ∀ (l : List UInt8) (s : Nat), s < 4294967296 → crcB s l < 4294967296
  | [], _, h => h
  | c :: r, s, h => by rw [crcB]; exact crcB_lt r _ (nib_lt (nib_lt (xor8_lt h c)))
theorem crcB_inj : ∀ (l : List UInt8) (a b : Nat), a < 4294967296 → b < 4294967296 → crcB a l = crcB b l → a = b
  | [], _, _, _, _, h => h
  | c :: r, a, b, ha, hb, h => by
    rw [crcB, crcB] at h
    have h1 := crcB_inj r _ _ (nib_lt (nib_lt (xor8_lt ha c))) (nib_lt (nib_lt (xor8_lt hb c))) h
    exact xor_r (nib_inj (xor8_lt ha c) (xor8_lt hb c) (nib_inj (nib_lt (xor8_lt ha c)) (nib_lt (xor8_lt hb c)) h1))
/-- The whole sum. -/
def crcOf (l : List UInt8) : Nat := 4294967295 - crcB 4294967295 l
/-- One byte that is another one makes another sum. -/
theorem crcOf_other (a b : List UInt8) (c d : UInt8) (h : c ≠ d) : crcOf (a ++ c :: b) ≠ crcOf (a ++ d :: b) := by
  intro he
  have la := crcB_lt (a ++ c :: b) 4294967295 (by decide)
  have lb := crcB_lt (a ++ d :: b) 4294967295 (by decide)
  unfold crcOf at he
  have hE : crcB 4294967295 (a ++ c :: b) = crcB 4294967295 (a ++ d :: b) := by omega
  rw [crcB_append, crcB_append, crcB, crcB] at hE
  have hs := crcB_lt a 4294967295 (by decide)
  generalize crcB 4294967295 a = s at *
  have h1 := crcB_inj b _ _ (nib_lt (nib_lt (xor8_lt hs c))) (nib_lt (nib_lt (xor8_lt hs d))) hE
  have h2 := nib_inj (xor8_lt hs c) (xor8_lt hs d) (nib_inj (nib_lt (xor8_lt hs c)) (nib_lt (xor8_lt hs d)) h1)
  exact h (u8_ext (xor_l h2))
end Go.Proofs.YtpflajehakiloaaDoor
