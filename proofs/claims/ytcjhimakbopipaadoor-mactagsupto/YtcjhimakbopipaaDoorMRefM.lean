/- The document's way to a sum: all bytes filled up first, then block by block: the same. -/
import Derived.Test.YtcjhimakbopipaaDoorMTag
namespace Go.Proofs.YtcjhimakbopipaaDoor
open Go Go.RowKit

/-- Bytes, filled up to whole blocks. -/
def pads (l : List UInt8) : List UInt8 := l ++ [128] ++ List.replicate (fillN (l.length % 64)) 0 ++ be8 (8 * l.length)
theorem pads_eq (l : List UInt8) : pads l = l.take (64 * (l.length / 64)) ++ filled (tailOf l) l.length := by
  have h1 : (tailOf l).length = l.length % 64 := by unfold tailOf; rw [List.length_drop]; omega
  have h2 : l = l.take (64 * (l.length / 64)) ++ tailOf l := (List.take_append_drop _ l).symm
  unfold pads filled
  rw [h1]
  conv => lhs; rw [show l ++ [128] = l.take (64 * (l.length / 64)) ++ tailOf l ++ [128] by rw [← h2]]
  simp only [List.append_assoc]
theorem pads_len (l : List UInt8) : (pads l).length = 64 * (l.length / 64 + ((filled (tailOf l) l.length).length / 64)) := by
  rw [pads_eq, List.length_append, filled_len, List.length_take]
  omega
theorem pads_le (l : List UInt8) : (pads l).length ≤ l.length + 72 := by
  unfold pads
  simp only [List.length_append, List.length_replicate, be8_len, List.length_cons, List.length_nil, fillN]
  omega
theorem sha_pads (l : List UInt8) : sha l = outs (overN h0s (pads l) ((pads l).length / 64)) := by
  rw [pads_len, Nat.mul_div_cancel_left _ (by decide), pads_eq, overN_right h0s _ _ _ (by rw [List.length_take]; omega)]
  unfold sha
  congr 2
  conv => lhs; rw [show l = l.take (64 * (l.length / 64)) ++ l.drop (64 * (l.length / 64)) from (List.take_append_drop _ l).symm]
  rw [List.take_append_drop]
  conv => lhs; rw [show overN h0s l = overN h0s (l.take (64 * (l.length / 64)) ++ l.drop (64 * (l.length / 64))) by rw [List.take_append_drop]]
  exact overN_left h0s _ _ _ (by rw [List.length_take]; omega) _ (Nat.le_refl _)
/-- A round with Kt added ahead of Wt. -/
theorem pl_kw (x k w : Nat) : pl (pl x k) w = pl x (pl k w) := pl_assoc x k w
theorem or_shift (i a b : Nat) (hb : b < 2 ^ i) : a * 2 ^ i ||| b = a * 2 ^ i + b := by
  rw [Nat.mul_comm, Nat.two_pow_add_eq_or_of_lt hb]
theorem or_be4 (a b c d : Nat) (hb : b < 256) (hc : c < 256) (hd : d < 256) : ((a * 16777216 ||| b * 65536) ||| c * 256) ||| d = ((a * 256 + b) * 256 + c) * 256 + d := by
  have h1 := or_shift 24 a (b * 65536) (by omega)
  have h2 := or_shift 16 (a * 256 + b) (c * 256) (by omega)
  have h3 := or_shift 8 ((a * 256 + b) * 256 + c) d (by omega)
  simp only [show (2 : Nat) ^ 24 = 16777216 by decide, show (2 : Nat) ^ 16 = 65536 by decide, show (2 : Nat) ^ 8 = 256 by decide] at h1 h2 h3
  rw [h1, show a * 16777216 + b * 65536 = (a * 256 + b) * 65536 by omega, h2, show (a * 256 + b) * 65536 + c * 256 = ((a * 256 + b) * 256 + c) * 256 by omega, h3]
/-- The first words, noughts behind them. -/
def frN (b : List UInt8) (n : Nat) : List Nat := (List.range 64).map fun j => if j < n then be4 b j else 0
theorem frN_len (b : List UInt8) (n : Nat) : (frN b n).length = 64 := by simp [frN]
theorem frN_zero (b : List UInt8) : frN b 0 = List.replicate 64 0 := by
  apply List.ext_getElem?
  intro j
  by_cases hj : j < 64
  · rw [List.getElem?_replicate, if_pos hj]; simp [frN, hj]
  · rw [List.getElem?_eq_none (by rw [frN_len]; omega), List.getElem?_eq_none (by simp; omega)]
theorem frN_step (b : List UInt8) (n : Nat) (hn : n < 64) : (frN b n).set n (be4 b n) = frN b (n + 1) := by
  apply List.ext_getElem?
  intro j
  rw [List.getElem?_set, frN_len]
  by_cases h : n = j
  · subst h
    rw [if_pos rfl, if_pos hn]; simp [frN, hn]
  · rw [if_neg h]
    by_cases hj : j < 64
    · simp only [frN, List.getElem?_map, List.getElem?_range hj, Option.map_some]
      congr 1
      by_cases h2 : j < n
      · rw [if_pos h2, if_pos (by omega)]
      · rw [if_neg h2, if_neg (by omega)]
    · rw [List.getElem?_eq_none (by rw [frN_len]; omega), List.getElem?_eq_none (by rw [frN_len]; omega)]
theorem frN_all (b : List UInt8) : frN b 16 = wsN b 0 := by
  apply List.ext_getElem?
  intro j
  by_cases hj : j < 64
  · have e : (frN b 16)[j]? = some (if j < 16 then be4 b j else 0) := by simp [frN, hj]
    rw [e, wsN]
    by_cases h16 : j < 16
    · rw [List.getElem?_append_left (by rw [wordN_len]; omega), if_pos h16]
      simp [wordN, first16, h16]
    · rw [if_neg h16, List.getElem?_append_right (by rw [wordN_len]; omega), wordN_len, List.getElem?_replicate, if_pos (by omega)]
  · rw [List.getElem?_eq_none (by rw [frN_len]; omega), List.getElem?_eq_none (by rw [wsN_len b 0 (by omega)]; omega)]
/-- The filling, so many noughts. -/
theorem fill_stop (n z : Nat) (h : z ≤ fillN (n % 64)) : ((n + 1 + z) % 64 = 56) ↔ z = fillN (n % 64) := by
  unfold fillN at *; omega
theorem be8_take (N k : Nat) (hk : k < 8) : (be8 N).take (k + 1) = (be8 N).take k ++ [UInt8.ofNat (N / 2 ^ (56 - 8 * k) % 256)] := by
  rw [List.take_add_one, List.getElem?_eq_getElem (by rw [be8_len]; exact hk), Option.toList_some]
  congr 2
  simp only [be8, List.getElem_map, List.getElem_range]
  rw [show 8 * (7 - k) = 56 - 8 * k by omega]
end Go.Proofs.YtcjhimakbopipaaDoor
