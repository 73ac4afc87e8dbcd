/- How keys stand: the plain mathematics of WireKeys. -/
import Derived.Test.YtpflajehakiloaaDoorWKeyMath
namespace Go.Proofs.YtpflajehakiloaaDoor
open Go Go.RowKit

theorem bl_nil (a : List UInt8) : Op.bytesLess a [] = false := by cases a <;> rfl
theorem bl_cons (a b : UInt8) (x y : List UInt8) : Op.bytesLess (a :: x) (b :: y) = (decide (a < b) || (a == b && Op.bytesLess x y)) := rfl
theorem bl_irrefl : ∀ a : List UInt8, Op.bytesLess a a = false
  | [] => rfl
  | c :: r => by rw [bl_cons, bl_irrefl r]; simp
theorem bl_same : ∀ (a x y : List UInt8), Op.bytesLess (a ++ x) (a ++ y) = Op.bytesLess x y
  | [], _, _ => rfl
  | c :: r, x, y => by
    rw [List.cons_append, List.cons_append, bl_cons, bl_same r]
    simp
/-- Texts' parts stand as the texts do, whatever comes behind. -/
theorem bl_kt : ∀ (s t x y : List UInt8), s ≠ t → Op.bytesLess (kt s ++ x) (kt t ++ y) = Op.bytesLess s t
  | [], [], _, _, h => absurd rfl h
  | [], c :: t, x, y, _ => by
    rw [kt_nil, kt_cons]
    unfold escB
    by_cases hc : c = 0
    · rw [if_pos hc]; rfl
    · rw [if_neg hc]
      have : (0 : UInt8) < c := by
        rw [UInt8.lt_iff_toNat_lt]
        have : c.toNat ≠ 0 := fun h => hc (u8_ext (by simpa using h))
        simp only [UInt8.toNat_zero]; omega
      show Op.bytesLess (0 :: (1 :: x)) (c :: (kt t ++ y)) = true
      rw [bl_cons]; simp [this]
  | c :: s, [], x, y, _ => by
    rw [kt_nil, kt_cons, bl_nil]
    unfold escB
    by_cases hc : c = 0
    · rw [if_pos hc]; rfl
    · rw [if_neg hc]
      show Op.bytesLess (c :: (kt s ++ x)) (0 :: (1 :: y)) = false
      rw [bl_cons]
      have h1 : ¬ c < 0 := by rw [UInt8.lt_iff_toNat_lt]; simp
      simp [h1, hc]
  | c :: s, d :: t, x, y, h => by
    rw [kt_cons, kt_cons]
    unfold escB
    by_cases hc : c = 0
    · subst hc
      rw [if_pos rfl]
      by_cases hd : d = 0
      · subst hd
        rw [if_pos rfl]
        have hst : s ≠ t := fun e => h (by rw [e])
        show Op.bytesLess (0 :: 255 :: (kt s ++ x)) (0 :: 255 :: (kt t ++ y)) = _
        rw [bl_cons, bl_cons, bl_kt s t x y hst, bl_cons]; simp
      · rw [if_neg hd]
        have h0 : (0 : UInt8) < d := by
          rw [UInt8.lt_iff_toNat_lt]
          have : d.toNat ≠ 0 := fun h => hd (u8_ext (by simpa using h))
          simp only [UInt8.toNat_zero]; omega
        show Op.bytesLess (0 :: 255 :: (kt s ++ x)) (d :: (kt t ++ y)) = _
        rw [bl_cons, bl_cons]; simp [h0]
    · rw [if_neg hc]
      by_cases hd : d = 0
      · subst hd
        rw [if_pos rfl]
        have h1 : ¬ c < 0 := by rw [UInt8.lt_iff_toNat_lt]; simp
        show Op.bytesLess (c :: (kt s ++ x)) (0 :: 255 :: (kt t ++ y)) = _
        rw [bl_cons, bl_cons, beq_eq_false_iff_ne.2 hc]; simp [h1]
      · rw [if_neg hd]
        show Op.bytesLess (c :: (kt s ++ x)) (d :: (kt t ++ y)) = _
        rw [bl_cons, bl_cons]
        by_cases hcd : c = d
        · subst hcd
          have hst : s ≠ t := fun e => h (by rw [e])
          rw [bl_kt s t x y hst]
        · rw [beq_eq_false_iff_ne.2 hcd]; simp
/-- Numbers' bytes stand as the numbers do, whatever comes behind. -/
theorem bl_beN : ∀ (k u v : Nat) (x y : List UInt8), u % 256 ^ k ≠ v % 256 ^ k → Op.bytesLess (beN k u ++ x) (beN k v ++ y) = decide (u % 256 ^ k < v % 256 ^ k)
  | 0, u, v, x, y, h => by simp [Nat.mod_one] at h
  | k + 1, u, v, x, y, h => by
    have hu : u % 256 ^ (k + 1) = u % 256 ^ k + 256 ^ k * (u / 256 ^ k % 256) := by rw [Nat.pow_succ, Nat.mod_mul]
    have hv : v % 256 ^ (k + 1) = v % 256 ^ k + 256 ^ k * (v / 256 ^ k % 256) := by rw [Nat.pow_succ, Nat.mod_mul]
    have hpos : 0 < 256 ^ k := Nat.pow_pos (by decide)
    have hlu := Nat.mod_lt u hpos
    have hlv := Nat.mod_lt v hpos
    rw [hu, hv] at h ⊢
    have ea : (UInt8.ofNat (u / 256 ^ k % 256)).toNat = u / 256 ^ k % 256 := u8_ofNat (Nat.mod_lt _ (by decide))
    have eb : (UInt8.ofNat (v / 256 ^ k % 256)).toNat = v / 256 ^ k % 256 := u8_ofNat (Nat.mod_lt _ (by decide))
    show Op.bytesLess (UInt8.ofNat (u / 256 ^ k % 256) :: (beN k u ++ x)) (UInt8.ofNat (v / 256 ^ k % 256) :: (beN k v ++ y)) = _
    rw [bl_cons]
    generalize UInt8.ofNat (u / 256 ^ k % 256) = p at *
    generalize UInt8.ofNat (v / 256 ^ k % 256) = q at *
    generalize u / 256 ^ k % 256 = a at *
    generalize v / 256 ^ k % 256 = b at *
    by_cases hab : a = b
    · subst hab
      obtain rfl : p = q := u8_ext (by omega)
      rw [bl_beN k u v x y (fun e => h (by rw [e]))]
      rw [Bool.eq_iff_iff]
      simp
    · have hpq : p ≠ q := fun e => hab (by rw [← ea, ← eb, e])
      have hlt : (p < q) ↔ a < b := by rw [UInt8.lt_iff_toNat_lt, ea, eb]
      rw [Bool.eq_iff_iff]
      simp only [Bool.or_eq_true, decide_eq_true_eq, Bool.and_eq_true, beq_iff_eq, hpq, false_and, or_false, hlt]
      constructor
      · intro hl
        have : 256 ^ k * (a + 1) ≤ 256 ^ k * b := Nat.mul_le_mul_left _ hl
        rw [Nat.mul_add] at this
        omega
      · intro hl
        apply Classical.byContradiction
        intro hn
        have : 256 ^ k * (b + 1) ≤ 256 ^ k * a := Nat.mul_le_mul_left _ (by omega)
        rw [Nat.mul_add] at this
        omega
theorem bl_kb {n m : Int} (n0 : -9223372036854775808 ≤ n) (n1 : n ≤ 9223372036854775807) (m0 : -9223372036854775808 ≤ m) (m1 : m ≤ 9223372036854775807) (h : n ≠ m) (x y : List UInt8) :
    Op.bytesLess (kb n ++ x) (kb m ++ y) = decide (n < m) := by
  have e : (256 : Nat) ^ 8 = 18446744073709551616 := by decide
  have hn := ku_lt n0 n1
  have hm := ku_lt m0 m1
  unfold kb
  rw [bl_beN 8 (ku n) (ku m) x y (by rw [e, Nat.mod_eq_of_lt hn, Nat.mod_eq_of_lt hm]; unfold ku; omega), e, Nat.mod_eq_of_lt hn, Nat.mod_eq_of_lt hm]
  rw [Bool.eq_iff_iff]
  simp only [decide_eq_true_eq]
  unfold ku; omega
theorem kb_inj {n m : Int} (n0 : -9223372036854775808 ≤ n) (n1 : n ≤ 9223372036854775807) (m0 : -9223372036854775808 ≤ m) (m1 : m ≤ 9223372036854775807) (h : kb n = kb m) : n = m := by
  have h1 := val_kb n0 n1
  have h2 := val_kb m0 m1
  rw [h] at h1
  have : ku n = ku m := by omega
  rw [← unku_ku n0, ← unku_ku m0, this]

/-- How two strings stand. -/
def c3 (a b : List UInt8) : Int := if Op.bytesLess a b then -1 else if (!Op.bytesLess a b && !(a == b)) then 1 else 0
def c3i (n m : Int) : Int := if decide (n < m) then -1 else if decide (m < n) then 1 else 0
theorem c3_same (a : List UInt8) : c3 a a = 0 := by unfold c3; rw [bl_irrefl]; simp
theorem c3_ne {a b : List UInt8} (h : a ≠ b) : c3 a b = if Op.bytesLess a b then -1 else 1 := by
  unfold c3
  cases hb : Op.bytesLess a b
  · simp [h]
  · simp
theorem c3_zero {a b : List UInt8} (h : c3 a b = 0) : a = b := by
  apply Classical.byContradiction
  intro hn
  rw [c3_ne hn] at h
  split at h <;> omega
theorem c3i_zero {n m : Int} (h : c3i n m = 0) : n = m := by
  unfold c3i at h
  by_cases h1 : n < m
  · simp [h1] at h
  · by_cases h2 : m < n
    · simp [h1, h2] at h
    · omega
theorem c3i_ne {n m : Int} (h : n ≠ m) : c3i n m = if decide (n < m) then -1 else 1 := by
  unfold c3i
  by_cases h1 : n < m
  · simp [h1]
  · have h2 : m < n := by omega
    simp [h1, h2]
/-- Keys of a text and a number. -/
theorem c3_ktkb {s t : List UInt8} {n m : Int} (n0 : -9223372036854775808 ≤ n) (n1 : n ≤ 9223372036854775807) (m0 : -9223372036854775808 ≤ m) (m1 : m ≤ 9223372036854775807) :
    c3 (kt s ++ kb n) (kt t ++ kb m) = if c3 s t = 0 then c3i n m else c3 s t := by
  by_cases hst : s = t
  · subst hst
    rw [c3_same, if_pos rfl]
    by_cases hnm : n = m
    · subst hnm; rw [c3_same]; unfold c3i; simp
    · rw [c3_ne (fun e => hnm (kb_inj n0 n1 m0 m1 (List.append_cancel_left e))), bl_same, c3i_ne hnm]
      have := bl_kb n0 n1 m0 m1 hnm [] []
      rw [List.append_nil, List.append_nil] at this
      rw [this]
  · rw [if_neg (fun e => hst (c3_zero e)), c3_ne hst]
    have hne : kt s ++ kb n ≠ kt t ++ kb m := by
      intro e
      have h1 : kt s <+: kt t ++ kb m := e ▸ List.prefix_append _ _
      have h2 : kt t <+: kt t ++ kb m := List.prefix_append _ _
      rcases List.prefix_or_prefix_of_prefix h1 h2 with h | h
      · exact hst (kt_prefix h)
      · exact hst (kt_prefix h).symm
    rw [c3_ne hne, bl_kt s t _ _ hst]
/-- Keys of a number and a text. -/
theorem c3_kbkt {s t : List UInt8} {n m : Int} (n0 : -9223372036854775808 ≤ n) (n1 : n ≤ 9223372036854775807) (m0 : -9223372036854775808 ≤ m) (m1 : m ≤ 9223372036854775807) :
    c3 (kb n ++ kt s) (kb m ++ kt t) = if c3i n m = 0 then c3 s t else c3i n m := by
  by_cases hnm : n = m
  · subst hnm
    have e0 : c3i n n = 0 := by unfold c3i; simp
    rw [e0, if_pos rfl]
    by_cases hst : s = t
    · subst hst; rw [c3_same, c3_same]
    · have hk : kt s ≠ kt t := fun e => hst (kt_prefix (e ▸ List.prefix_refl _))
      rw [c3_ne (fun e => hk (List.append_cancel_left e)), bl_same, c3_ne hst]
      have := bl_kt s t [] [] hst
      rw [List.append_nil, List.append_nil] at this
      rw [this]
  · rw [if_neg (fun e => hnm (c3i_zero e)), c3i_ne hnm]
    have hne : kb n ++ kt s ≠ kb m ++ kt t := by
      intro e
      exact hnm (kb_inj n0 n1 m0 m1 (List.append_inj_left e (by rw [kb_len, kb_len])))
    rw [c3_ne hne, bl_kb n0 n1 m0 m1 hnm]
/-- No key is the beginning of another one. -/
theorem key_begin {s t : List UInt8} {n m : Int} (h : (kt s ++ kb n).length < (kt t ++ kb m).length) : (kt t ++ kb m).take (kt s ++ kb n).length ≠ kt s ++ kb n := by
  intro e
  have hp : kt s ++ kb n <+: kt t ++ kb m := by rw [← e]; exact List.take_prefix _ _
  have h1 : kt s <+: kt t ++ kb m := (List.prefix_append _ _).trans hp
  have h2 : kt t <+: kt t ++ kb m := List.prefix_append _ _
  have hst : s = t := by
    rcases List.prefix_or_prefix_of_prefix h1 h2 with h | h
    · exact kt_prefix h
    · exact (kt_prefix h).symm
  subst hst
  rw [List.length_append, List.length_append, kb_len, kb_len] at h
  omega
end Go.Proofs.YtpflajehakiloaaDoor
