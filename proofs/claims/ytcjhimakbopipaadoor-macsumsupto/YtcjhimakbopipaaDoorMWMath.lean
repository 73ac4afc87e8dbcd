/- The words of a block, byte by byte: the mathematics. -/
import Derived.Test.YtcjhimakbopipaaDoorMMath
namespace Go.Proofs.YtcjhimakbopipaaDoor
open Go Go.RowKit

/-- The first m bytes of word j as a number. -/
def pv (b : List UInt8) (j : Nat) : Nat → Nat
  | 0 => 0
  | m + 1 => pv b j m * 256 + (b.getD (4 * j + m) 0).toNat
theorem pv_lt (b : List UInt8) (j : Nat) : ∀ m, pv b j m < 256 ^ m
  | 0 => by simp [pv]
  | m + 1 => by
    have h := pv_lt b j m
    have h2 := (b.getD (4 * j + m) 0).toNat_lt
    simp only [pv, Nat.pow_succ]; omega
theorem pv_four (b : List UInt8) (j : Nat) : pv b j 4 = be4 b j := by
  simp [pv, be4]
def stN (b : List UInt8) (i : Nat) : List Nat := (List.range 64).map fun j => pv b j (min 4 (i - 4 * j))
theorem stN_len (b : List UInt8) (i : Nat) : (stN b i).length = 64 := by simp [stN]
theorem stN_get (b : List UInt8) (i j : Nat) (hj : j < 64) : (stN b i).getD j 0 = pv b j (min 4 (i - 4 * j)) := by
  simp [stN, List.getD, hj]
theorem stN_lt (b : List UInt8) (i : Nat) (hi : i < 64) : (stN b i).getD (i / 4) 0 < 16777216 := by
  rw [stN_get b i _ (by omega), show min 4 (i - 4 * (i / 4)) = i % 4 by omega]
  refine Nat.lt_of_lt_of_le (pv_lt _ _ _) ?_
  exact Nat.pow_le_pow_right (n := 256) (by decide) (by omega : i % 4 ≤ 3)
theorem stN_step (b : List UInt8) (i : Nat) (hi : i < 64) : (stN b i).set (i / 4) ((stN b i).getD (i / 4) 0 * 256 + (b.getD i 0).toNat) = stN b (i + 1) := by
  apply List.ext_getElem?
  intro j
  rw [List.getElem?_set, stN_len]
  by_cases h : i / 4 = j
  · subst h
    rw [if_pos rfl, if_pos (by omega), stN_get b i _ (by omega), show min 4 (i - 4 * (i / 4)) = i % 4 by omega]
    have e : (stN b (i + 1))[i / 4]? = some (pv b (i / 4) (i % 4 + 1)) := by
      have hl : i / 4 < 64 := by omega
      simp only [stN, List.getElem?_map, List.getElem?_range hl, Option.map_some]
      rw [show min 4 (i + 1 - 4 * (i / 4)) = i % 4 + 1 by omega]
    rw [e, pv, show 4 * (i / 4) + i % 4 = i by omega]
  · rw [if_neg h]
    simp only [stN, List.getElem?_map]
    by_cases hj : j < 64
    · rw [List.getElem?_range hj]
      simp only [Option.map_some]
      rw [show min 4 (i - 4 * j) = min 4 (i + 1 - 4 * j) by omega]
    · rw [List.getElem?_eq_none (by simp; omega)]; rfl
theorem stN_zero (b : List UInt8) : stN b 0 = List.replicate 64 0 := by
  apply List.ext_getElem?
  intro j
  by_cases hj : j < 64
  · rw [List.getElem?_replicate, if_pos hj]
    simp only [stN, List.getElem?_map, List.getElem?_range hj, Option.map_some]
    rw [show min 4 (0 - 4 * j) = 0 by omega]
    rfl
  · rw [List.getElem?_eq_none (by rw [stN_len]; omega), List.getElem?_eq_none (by simp; omega)]
/-- The words so far, noughts behind them. -/
def wsN (b : List UInt8) (n : Nat) : List Nat := wordN b n ++ List.replicate (48 - n) 0
theorem stN_all (b : List UInt8) : stN b 64 = wsN b 0 := by
  apply List.ext_getElem?
  intro j
  by_cases hj : j < 64
  · have e : (stN b 64)[j]? = some (pv b j (min 4 (64 - 4 * j))) := by simp [stN, hj]
    rw [e, wsN]
    by_cases h16 : j < 16
    · rw [List.getElem?_append_left (by rw [wordN_len]; omega), show min 4 (64 - 4 * j) = 4 by omega, pv_four]
      simp [wordN, first16, h16]
    · rw [List.getElem?_append_right (by rw [wordN_len]; omega), wordN_len, List.getElem?_replicate, if_pos (by omega), show min 4 (64 - 4 * j) = 0 by omega]
      rfl
  · rw [List.getElem?_eq_none (by rw [stN_len]; omega), List.getElem?_eq_none (by simp [wsN, wordN_len]; omega)]
theorem wsN_len (b : List UInt8) (n : Nat) (h : n ≤ 48) : (wsN b n).length = 64 := by simp [wsN, wordN_len]; omega
theorem wsN_get (b : List UInt8) (n j : Nat) (h : j < 16 + n) : (wsN b n).getD j 0 = (wordN b n).getD j 0 := by
  simp only [List.getD, wsN]
  rw [List.getElem?_append_left (by rw [wordN_len]; exact h)]
theorem wsN_u (b : List UInt8) (n : Nat) : U32 (wsN b n) := by
  intro x hx
  rcases List.mem_append.1 hx with h | h
  · exact wordN_u b n x h
  · rw [List.eq_of_mem_replicate h]; decide
theorem wsN_step (b : List UInt8) (n : Nat) (h : n < 48) : (wsN b n).set (16 + n) (sched (wordN b n) (16 + n)) = wsN b (n + 1) := by
  obtain ⟨m, hm⟩ : ∃ m, 48 - n = m + 1 := ⟨48 - n - 1, by omega⟩
  have hm' : 48 - (n + 1) = m := by omega
  simp only [wsN, hm, hm', List.replicate_succ, wordN]
  rw [List.set_append_right _ _ (by rw [wordN_len]; omega), wordN_len, Nat.sub_self, List.set_cons_zero]
  simp
theorem wsN_all (b : List UInt8) : wsN b 48 = wordsOf b := by simp [wsN, wordsOf]
theorem or_byte (x c : Nat) (hx : x < 16777216) (hc : c < 256) : (x * 256 % 4294967296) ||| c = x * 256 + c := by
  rw [Nat.mod_eq_of_lt (by omega), Nat.mul_comm, show 256 = 2 ^ 8 by decide, Nat.two_pow_add_eq_or_of_lt (by simpa using hc)]
end Go.Proofs.YtcjhimakbopipaaDoor
