/- The bytes of a pager's head: numbers, and a bit a page; and what is read from them. -/
import Derived.Test.YtdbgccgjdgomkaaGreatDoorPMapC
namespace Go.Proofs.YtdbgccgjdgomkaaGreatDoor
open Go Go.RowKit

/-- What stands at both ends of a head. -/
def sgn : List UInt8 := [117, 115, 97, 110, 99, 101, 58, 32, 97, 32, 112, 97, 103, 101, 114, 10]
def b2u (b : Bool) : UInt8 := if b then 1 else 0
/-- The head ahead of the pages' bits. -/
def hd0 (n r : Nat) : List UInt8 := sgn ++ [UInt8.ofNat (n / 256), UInt8.ofNat n, UInt8.ofNat (r / 256), UInt8.ofNat r] ++ List.replicate 188 0 ++ sgn
theorem hd0_len (n r : Nat) : (hd0 n r).length = 224 := by
  unfold hd0
  rw [List.length_append, List.length_append, List.length_append, List.length_replicate]
  rfl
theorem hd0_low (n r i : Nat) (h : i < 20) : (hd0 n r)[i]? = (sgn ++ [UInt8.ofNat (n / 256), UInt8.ofNat n, UInt8.ofNat (r / 256), UInt8.ofNat r])[i]? := by
  unfold hd0
  rw [List.getElem?_append_left (by rw [List.length_append, List.length_append, List.length_replicate]; exact Nat.lt_of_lt_of_le h (show 20 ≤ 208 from by decide)), List.getElem?_append_left (by rw [List.length_append]; exact h)]
/-- One page's bit. -/
def hbit (h : List UInt8) (k : Nat) (b : Bool) : List UInt8 := h.set (20 + k / 8) (h.getD (20 + k / 8) 0 ||| b2u b <<< UInt8.ofNat (k % 8))
def hbits (l : List Bool) : Nat → List UInt8 → List UInt8
  | 0, h => h
  | k + 1, h => hbit (hbits l k h) k (l.getD k false)
theorem hbits_len (l : List Bool) : ∀ (k : Nat) (h : List UInt8), (hbits l k h).length = h.length
  | 0, _ => rfl
  | k + 1, h => by simp only [hbits, hbit, List.length_set]; exact hbits_len l k h
def hdOf (l : List Bool) (r : Nat) : List UInt8 := hbits l l.length (hd0 l.length r)
theorem hdOf_len (l : List Bool) (r : Nat) : (hdOf l r).length = 224 := by rw [hdOf, hbits_len, hd0_len]
theorem hbits_low (l : List Bool) : ∀ (k : Nat) (h : List UInt8) (i : Nat), i < 20 → (hbits l k h)[i]? = h[i]?
  | 0, _, _, _ => rfl
  | k + 1, h, i, hi => by
    simp only [hbits, hbit]
    rw [List.getElem?_set_ne (by omega)]
    exact hbits_low l k h i hi
theorem hdOf_low (l : List Bool) (r i : Nat) (hi : i < 20) : (hdOf l r)[i]? = (hd0 l.length r)[i]? := hbits_low l _ _ i hi
theorem hdOf_18 (l : List Bool) (r : Nat) : (hdOf l r).getD 18 0 = UInt8.ofNat (r / 256) ∧ (hdOf l r).getD 19 0 = UInt8.ofNat r := by
  simp only [List.getD]
  rw [hdOf_low l r 18 (by decide), hdOf_low l r 19 (by decide), hd0_low _ _ 18 (by decide), hd0_low _ _ 19 (by decide)]
  exact ⟨rfl, rfl⟩
theorem hdOf_0 (l : List Bool) (r : Nat) : (hdOf l r).getD 0 0 = 117 := by
  simp only [List.getD]
  rw [hdOf_low l r 0 (by decide), hd0_low _ _ 0 (by decide)]
  rfl
/-- What is read as a page's bit. -/
def rbit (h : List UInt8) (k : Nat) : UInt8 := h.getD (20 + k / 8) 0 >>> UInt8.ofNat (k % 8) &&& 1
theorem bit_same : ∀ (x : UInt8) (b : Bool) (k : Fin 8), (x ||| b2u b <<< UInt8.ofNat k.val) >>> UInt8.ofNat k.val &&& 1 = (x >>> UInt8.ofNat k.val &&& 1) ||| b2u b := by
  intro x b k
  have h : ∀ (n : Fin 256) (b : Bool) (k : Fin 8), (UInt8.ofNat n.val ||| b2u b <<< UInt8.ofNat k.val) >>> UInt8.ofNat k.val &&& 1 = (UInt8.ofNat n.val >>> UInt8.ofNat k.val &&& 1) ||| b2u b := by decide +kernel
  have := h ⟨x.toNat, x.toNat_lt⟩ b k
  simpa using this
theorem bit_other : ∀ (x : UInt8) (b : Bool) (k q : Fin 8), k ≠ q → (x ||| b2u b <<< UInt8.ofNat k.val) >>> UInt8.ofNat q.val &&& 1 = x >>> UInt8.ofNat q.val &&& 1 := by
  intro x b k q hkq
  have h : ∀ (n : Fin 256) (b : Bool) (k q : Fin 8), k ≠ q → (UInt8.ofNat n.val ||| b2u b <<< UInt8.ofNat k.val) >>> UInt8.ofNat q.val &&& 1 = UInt8.ofNat n.val >>> UInt8.ofNat q.val &&& 1 := by decide +kernel
  have := h ⟨x.toNat, x.toNat_lt⟩ b k q hkq
  simpa using this
theorem hbit_same (h : List UInt8) (k : Nat) (b : Bool) (hk : 20 + k / 8 < h.length) : rbit (hbit h k b) k = rbit h k ||| b2u b := by
  unfold rbit hbit
  simp only [List.getD]
  rw [List.getElem?_set_self hk]
  exact bit_same _ b ⟨k % 8, Nat.mod_lt _ (by decide)⟩
theorem hbit_other (h : List UInt8) (k q : Nat) (b : Bool) (hk : 20 + k / 8 < h.length) (hq : k ≠ q) : rbit (hbit h k b) q = rbit h q := by
  unfold rbit hbit
  simp only [List.getD]
  by_cases e : k / 8 = q / 8
  · rw [← e, List.getElem?_set_self hk]
    exact bit_other _ b ⟨k % 8, Nat.mod_lt _ (by decide)⟩ ⟨q % 8, Nat.mod_lt _ (by decide)⟩ (fun h => by
      injection h with h
      omega)
  · rw [List.getElem?_set_ne (by omega)]
theorem rbits : ∀ (l : List Bool) (k : Nat) (h : List UInt8), (∀ q, q < k → 20 + q / 8 < h.length) → ∀ q, rbit (hbits l k h) q = if q < k then rbit h q ||| b2u (l.getD q false) else rbit h q
  | l, 0, h, _, q => by simp [hbits]
  | l, k + 1, h, hl, q => by
    have ih := rbits l k h (fun q hq => hl q (by omega)) q
    have hk : 20 + k / 8 < (hbits l k h).length := by rw [hbits_len]; exact hl k (by omega)
    simp only [hbits]
    by_cases e : k = q
    · subst e
      rw [hbit_same _ _ _ hk, ih, if_neg (Nat.lt_irrefl _), if_pos (Nat.lt_succ_self _)]
    · rw [hbit_other _ _ _ _ hk e, ih]
      by_cases h1 : q < k
      · rw [if_pos h1, if_pos (by omega)]
      · rw [if_neg h1, if_neg (by omega)]
theorem hd0_zero (n r i : Nat) (h0 : 20 ≤ i) (h1 : i < 208) : (hd0 n r).getD i 0 = 0 := by
  have h : (hd0 n r)[i]? = some 0 := by
    unfold hd0
    have h20 : (sgn ++ [UInt8.ofNat (n / 256), UInt8.ofNat n, UInt8.ofNat (r / 256), UInt8.ofNat r]).length = 20 := rfl
    rw [List.getElem?_append_left (by rw [List.length_append, h20, List.length_replicate]; omega), List.getElem?_append_right (by rw [h20]; exact h0), h20, List.getElem?_replicate, if_pos (by omega)]
  simp only [List.getD]
  rw [h]; rfl
theorem rbit_hd (l : List Bool) (r : Nat) (hl : l.length ≤ 1023) (q : Nat) (hq : q < l.length) : rbit (hdOf l r) q = b2u (l.getD q false) := by
  unfold hdOf
  rw [rbits l l.length _ (fun q hq => by rw [hd0_len]; omega) q, if_pos hq]
  have h0 : rbit (hd0 l.length r) q = 0 := by
    unfold rbit
    rw [hd0_zero _ _ _ (by omega) (by omega)]
    simp
  rw [h0]
  simp
/-- A state's uses, as bytes. -/
def useB (l : List Bool) : List UInt8 := l.map b2u ++ List.replicate (1023 - l.length) 0
theorem useB_len (l : List Bool) (h : l.length ≤ 1023) : (useB l).length = 1023 := by simp [useB]; omega
theorem useB_get (l : List Bool) (i : Nat) (hi : i < l.length) : (useB l).getD i 0 = b2u (l.getD i false) := by
  simp only [useB, List.getD]
  rw [List.getElem?_append_left (by simpa using hi), List.getElem?_map]
  simp [hi]
theorem useB_set (l : List Bool) (i : Nat) (b : Bool) (hi : i < l.length) : (useB l).set i (b2u b) = useB (l.set i b) := by
  simp only [useB]
  rw [List.set_append_left _ _ (by simpa using hi), List.length_set, List.map_set]
/-- How many pages are free. -/
def lef (l : List Bool) : Nat := (l.filter fun b => !b).length
theorem lef_le (l : List Bool) : lef l ≤ l.length := List.length_filter_le _ _
theorem lef_set_true : ∀ (l : List Bool) (i : Nat), l[i]? = some false → lef (l.set i true) + 1 = lef l
  | [], _, h => by simp at h
  | b :: r, 0, h => by simp at h; subst h; simp [lef]
  | b :: r, i + 1, h => by
    simp only [List.getElem?_cons_succ] at h
    have ih := lef_set_true r i h
    simp only [lef, List.set_cons_succ, List.filter_cons] at ih ⊢
    cases b
    · simp only [Bool.not_false, if_true, List.length_cons]; omega
    · simp only [Bool.not_true, Bool.false_eq_true, if_false]; exact ih
theorem lef_set_false : ∀ (l : List Bool) (i : Nat), l[i]? = some true → lef (l.set i false) = lef l + 1
  | [], _, h => by simp at h
  | b :: r, 0, h => by simp at h; subst h; simp [lef]
  | b :: r, i + 1, h => by
    simp only [List.getElem?_cons_succ] at h
    have ih := lef_set_false r i h
    simp only [lef, List.set_cons_succ, List.filter_cons] at ih ⊢
    cases b
    · simp only [Bool.not_false, if_true, List.length_cons]; omega
    · simp only [Bool.not_true, Bool.false_eq_true, if_false]; exact ih
theorem lef_take (l : List Bool) (i : Nat) (b : Bool) (h : l[i]? = some b) : lef (l.take (i + 1)) = lef (l.take i) + (if b then 0 else 1) := by
  rw [List.take_add_one, h]
  unfold lef
  rw [List.filter_append]
  cases b <;> simp
end Go.Proofs.YtdbgccgjdgomkaaGreatDoor
