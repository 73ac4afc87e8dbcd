/- Bytes as digits: the mathematics. -/
import Derived.Test.YtcjhimakbopipaaDoorMMath
namespace Go.Proofs.YtcjhimakbopipaaDoor
open Go Go.RowKit

def dgs : List UInt8 := [48, 49, 50, 51, 52, 53, 54, 55, 56, 57, 97, 98, 99, 100, 101, 102]
def dgt (n : Nat) : UInt8 := dgs.getD n 0
def hex1 (c : UInt8) : List UInt8 := [dgt (c.toNat / 16), dgt (c.toNat % 16)]
def hexs : List UInt8 → List UInt8
  | [] => []
  | c :: r => hex1 c ++ hexs r
theorem hexs_len : ∀ l, (hexs l).length = 2 * l.length
  | [] => rfl
  | c :: r => by simp [hexs, hex1, hexs_len r]; omega
theorem hexs_append : ∀ a b, hexs (a ++ b) = hexs a ++ hexs b
  | [], b => rfl
  | c :: r, b => by simp [hexs, hexs_append r b]
theorem hexs_take (l : List UInt8) (k : Nat) (hk : k < l.length) : hexs (l.take (k + 1)) = hexs (l.take k) ++ hex1 (l.getD k 0) := by
  rw [List.take_add_one, List.getElem?_eq_getElem hk, Option.toList_some, hexs_append]
  simp [List.getD, hk, hexs]
/-- A digit's value. -/
def ud (c : UInt8) : Option Nat := if 48 ≤ c.toNat ∧ c.toNat ≤ 57 then some (c.toNat - 48) else if 97 ≤ c.toNat ∧ c.toNat ≤ 102 then some (c.toNat - 87) else none
theorem ud_lt {c : UInt8} {n : Nat} (h : ud c = some n) : n < 16 := by
  unfold ud at h
  split at h
  · cases h; omega
  · split at h
    · cases h; omega
    · cases h
theorem ud_dgt : ∀ n, n < 16 → ud (dgt n) = some n := by decide
theorem dgt_ud {c : UInt8} {n : Nat} (h : ud c = some n) : dgt n = c := by
  have hall : ∀ i : Fin 256, ∀ n, ud (UInt8.ofNat i.val) = some n → dgt n = UInt8.ofNat i.val := by
    intro i n hn
    have hn16 := ud_lt hn
    have : ∀ i : Fin 256, ∀ n : Fin 16, ud (UInt8.ofNat i.val) = some n.val → dgt n.val = UInt8.ofNat i.val := by decide +kernel
    exact this i ⟨n, hn16⟩ hn
  have hc : UInt8.ofNat c.toNat = c := by simp
  have := hall ⟨c.toNat, c.toNat_lt⟩ n (by simp only [hc]; exact h)
  simpa using this
/-- So many bytes read. -/
def rdN (l : List UInt8) : Nat → Option (List UInt8)
  | 0 => some []
  | k + 1 => match rdN l k, ud (l.getD (2 * k) 0), ud (l.getD (2 * k + 1) 0) with
    | some m, some a, some b => some (m ++ [UInt8.ofNat (a * 16 + b)])
    | _, _, _ => none
theorem rdN_none {l : List UInt8} {k : Nat} (h : rdN l k = none) : ∀ j, rdN l (k + j) = none
  | 0 => h
  | j + 1 => by rw [← Nat.add_assoc, rdN, rdN_none h j]
theorem rdN_bad1 {l : List UInt8} {k : Nat} (h : ud (l.getD (2 * k) 0) = none) : rdN l (k + 1) = none := by
  rw [rdN, h]; cases rdN l k <;> rfl
theorem rdN_bad2 {l : List UInt8} {k : Nat} (h : ud (l.getD (2 * k + 1) 0) = none) : rdN l (k + 1) = none := by
  rw [rdN, h]; cases rdN l k <;> cases ud (l.getD (2 * k) 0) <;> rfl
theorem rdN_good {l : List UInt8} {k a b : Nat} {m : List UInt8} (hm : rdN l k = some m) (ha : ud (l.getD (2 * k) 0) = some a) (hb : ud (l.getD (2 * k + 1) 0) = some b) : rdN l (k + 1) = some (m ++ [UInt8.ofNat (a * 16 + b)]) := by
  rw [rdN, hm, ha, hb]
theorem rdN_len {l : List UInt8} : ∀ {k m}, rdN l k = some m → m.length = k
  | 0, m, h => by cases h; rfl
  | k + 1, m, h => by
    rw [rdN] at h
    split at h
    · rename_i m' a b h1 h2 h3
      cases h
      simp [rdN_len h1]
    · cases h
def unhex (l : List UInt8) : Option (List UInt8) := if l.length % 2 = 0 then rdN l (l.length / 2) else none
theorem rdN_hexs (l : List UInt8) : ∀ k, k ≤ l.length → rdN (hexs l) k = some (l.take k)
  | 0, _ => rfl
  | k + 1, h => by
    have hs : hexs l = hexs (l.take k) ++ (hex1 (l.getD k 0) ++ hexs (l.drop (k + 1))) := by
      rw [← List.append_assoc, ← hexs_take l k (by omega), ← hexs_append, List.take_append_drop]
    have hl : (hexs (l.take k)).length = 2 * k := by rw [hexs_len, List.length_take]; omega
    have e0 : (hexs l).getD (2 * k) 0 = dgt ((l.getD k 0).toNat / 16) := by
      rw [hs]; simp only [List.getD]; rw [List.getElem?_append_right (by omega), hl, Nat.sub_self]; rfl
    have e1 : (hexs l).getD (2 * k + 1) 0 = dgt ((l.getD k 0).toNat % 16) := by
      rw [hs]; simp only [List.getD]; rw [List.getElem?_append_right (by omega), hl, show 2 * k + 1 - 2 * k = 1 by omega]; rfl
    have hc := (l.getD k 0).toNat_lt
    rw [rdN_good (rdN_hexs l k (by omega)) (by rw [e0]; exact ud_dgt _ (by omega)) (by rw [e1]; exact ud_dgt _ (by omega))]
    rw [show (l.getD k 0).toNat / 16 * 16 + (l.getD k 0).toNat % 16 = (l.getD k 0).toNat by omega]
    rw [List.take_add_one, List.getElem?_eq_getElem (by omega : k < l.length), Option.toList_some]
    simp [List.getD, (by omega : k < l.length)]
theorem unhex_hexs (l : List UInt8) : unhex (hexs l) = some l := by
  unfold unhex
  rw [if_pos (by rw [hexs_len]; omega), hexs_len, show 2 * l.length / 2 = l.length by omega, rdN_hexs l _ (Nat.le_refl _), List.take_of_length_le (Nat.le_refl _)]
theorem hexs_rdN {l : List UInt8} : ∀ {k m}, 2 * k ≤ l.length → rdN l k = some m → hexs m = l.take (2 * k)
  | 0, m, _, h => by cases h; rfl
  | k + 1, m, hk, h => by
    rw [rdN] at h
    split at h
    · rename_i m' a b h1 h2 h3
      cases h
      have ha := ud_lt h2
      have hb := ud_lt h3
      rw [hexs_append, hexs_rdN (by omega) h1, show 2 * (k + 1) = 2 * k + 1 + 1 by omega, List.take_add_one, List.take_add_one, List.append_assoc]
      congr 1
      rw [List.getElem?_eq_getElem (by omega : 2 * k < l.length), List.getElem?_eq_getElem (by omega : 2 * k + 1 < l.length)]
      have g0 := dgt_ud h2
      have g1 := dgt_ud h3
      have ht : (UInt8.ofNat (a * 16 + b)).toNat = a * 16 + b := u8_ofNat (by omega)
      have q0 : (a * 16 + b) / 16 = a := by omega
      have q1 : (a * 16 + b) % 16 = b := by omega
      simp only [hexs, hex1, ht, q0, q1, g0, g1]
      simp [List.getD, (by omega : 2 * k < l.length), (by omega : 2 * k + 1 < l.length)]
    · cases h
theorem hexs_unhex {l m : List UInt8} (h : unhex l = some m) : hexs m = l := by
  unfold unhex at h
  split at h
  · rw [hexs_rdN (by omega) h, List.take_of_length_le (by omega)]
  · cases h
end Go.Proofs.YtcjhimakbopipaaDoor
