/- What the walks of the reference's Parse stand on. -/
import Derived.Test.YtehpnhmghfpjpaaDoorParsePlain
import Derived.Test.YtehpnhmghfpjpaaDoorBase
namespace Go.Proofs.YtehpnhmghfpjpaaDoor
open Go.RowKit

set_option maxHeartbeats 400000 in
theorem rdig_yes (c : Int) (w : World) (h0 : 48 ≤ c) (h1 : c ≤ 57) :
    Calls Tryd.prog 37 #[.int .u8 c] w fun e w' => e = .returned (.bool true) ∧ w' = w := by
  go_enter Tryd.func37, Tryd.ntmps37
  go_wp2
  go_ret
  exact ⟨rfl, rfl⟩
set_option maxHeartbeats 400000 in
theorem rdig_no (c : Int) (w : World) (h : c < 48 ∨ 57 < c) :
    Calls Tryd.prog 37 #[.int .u8 c] w fun e w' => e = .returned (.bool false) ∧ w' = w := by
  rcases h with h | h
  · have d1 : decide (48 ≤ c) = false := decide_eq_false (by omega)
    go_enter Tryd.func37, Tryd.ntmps37
    go_wp2
    go_ret
    exact ⟨rfl, rfl⟩
  · have d1 : decide (48 ≤ c) = true := decide_eq_true (by omega)
    have d2 : decide (c ≤ 57) = false := decide_eq_false (by omega)
    go_enter Tryd.func37, Tryd.ntmps37
    go_wp2
    go_ret
    exact ⟨rfl, rfl⟩

theorem isD_no {c : UInt8} (h : isD c = false) : (c.toNat : Int) < 48 ∨ 57 < (c.toNat : Int) := by
  unfold isD at h
  simp only [Bool.and_eq_false_iff, decide_eq_false_iff_not] at h
  omega
theorem isD_yes {c : UInt8} (h : isD c = true) : (48 : Int) ≤ (c.toNat : Int) ∧ (c.toNat : Int) ≤ 57 := by
  rw [isD_iff] at h; omega

/-- What the reference reads of a text behind its sign, k digits of which stand ahead. -/
def refR (bl : Bool) (t : List UInt8) (k : Nat) : Int × Bool :=
  coreR (isWhL (t.take k)) (decide (k < t.length)) (decide (t[k]?.getD 0 = 46) && isDigL (t.drop (k + 1)) 6) bl (milL (t.take k) (t.drop (k + 1)))

/-- The last tests. -/
def endI (bl : Bool) (n : Int) : Int × Bool := if decide (1000000000000000 < n) || (bl && decide (n = 0)) then (0, false) else (if bl then -n else n, true)

theorem coreR_good (id bl f : Bool) (n : Nat) (h : f = true → id = true) : coreR true f id bl n = endI bl (n : Int) := by
  unfold coreR endI
  rw [show decide ((1000000000000000 : Int) < (n : Int)) = decide (1000000000000000 < n) from decide_eq_decide.2 (by omega), show decide ((n : Int) = 0) = decide (n = 0) from decide_eq_decide.2 (by omega)]
  cases f
  · simp
  · rw [h rfl]; simp

theorem take_snoc' (s : ByteArray) (k : Nat) (h : k < s.size) : s.data.toList.take (k + 1) = s.data.toList.take k ++ [s[k]] := by
  rw [List.take_succ_eq_append_getElem (by rw [Array.length_toList]; exact h)]; rfl
theorem getD_list (s : ByteArray) (k : Nat) (h : k < s.size) (z : UInt8) : s.data.toList[k]?.getD z = s[k] := by
  rw [List.getElem?_eq_getElem (by rw [Array.length_toList]; exact h)]; rfl
theorem drop_getD (s : ByteArray) (k i : Nat) (h : k + 1 + i < s.size) : (s.data.toList.drop (k + 1))[i]?.getD 48 = s[k + 1 + i] := by
  rw [List.getElem?_drop]; exact getD_list s (k + 1 + i) h 48
theorem take_step (T : ByteArray) (q : Nat) (h : q < T.size) (hd : isD (T[q]'h) = true) :
    Hid ((valW 0 (T.data.toList.take (q + 1)) : Int) = 10 * (valW 0 (T.data.toList.take q) : Int) + (((T[q]'h).toNat : Int) - 48)) := by
  show (valW 0 (T.data.toList.take (q + 1)) : Int) = _
  have := isD_yes hd
  rw [take_snoc' T q h, valW_snoc]; unfold dv; omega
theorem fracn_step (v j : Nat) : Hid ((frac ([] : List UInt8) v (j + 1) : Int) = 10 * (frac ([] : List UInt8) v j : Int)) := by
  show (frac ([] : List UInt8) v (j + 1) : Int) = _
  simp [frac, dv]; omega

theorem all_of_getD {l : List UInt8} (h : ∀ q, q < l.length → isD (l[q]?.getD 48) = true) : l.all isD = true := by
  rw [List.all_eq_true]
  intro x hx
  obtain ⟨q, hq, rfl⟩ := List.getElem_of_mem hx
  have := h q hq
  rwa [List.getElem?_eq_getElem hq] at this
theorem getD_of_all {l : List UInt8} (h : l.all isD = true) (q : Nat) : isD (l[q]?.getD 48) = true := by
  rcases Nat.lt_or_ge q l.length with hk | hk
  · rw [List.getElem?_eq_getElem hk]
    exact List.all_eq_true.1 h _ (List.getElem_mem hk)
  · rw [List.getElem?_eq_none hk]; rfl
theorem frac_upto (d : List UInt8) (n : Nat) (hn : n < 10000000000) : ∀ k, (∀ q, q < k → isD (d[q]?.getD 48) = true) → frac d n k < 10000000000 * 10 ^ k
  | 0, _ => by simpa [frac] using hn
  | k + 1, h => by
    have ih := frac_upto d n hn k (fun q hq => h q (by omega))
    have hd := dv_le (h k (by omega))
    simp only [frac]
    rw [Nat.pow_succ, ← Nat.mul_assoc]
    omega
theorem frac_small {y j : Nat} (h : y < 10000000000 * 10 ^ j) (hj : j ≤ 5) : y < 1000000000000000 := by
  have : 10 ^ j ≤ 10 ^ 5 := Nat.pow_le_pow_right (by omega) hj
  omega
theorem frac_six {y : Nat} (h : y < 10000000000 * 10 ^ 6) : y < 10000000000000000 := by omega

theorem whl_take {T : ByteArray} {k : Nat} (htl : T.data.toList.length = T.size) (hk : k ≤ T.size) (hdig : ∀ i (h : i < T.size), i < k → isD (T[i]'h) = true) :
    isWhL (T.data.toList.take k) = (decide (1 ≤ k) && decide (k ≤ 10) && (decide (T.data.toList[0]?.getD 0 ≠ 48) || decide (k = 1))) := by
  have hl : (T.data.toList.take k).length = k := by rw [List.length_take, htl]; omega
  have ha : (T.data.toList.take k).all isD = true := by
    apply all_of_getD
    intro q hq
    rw [hl] at hq
    rw [List.getElem?_take, if_pos hq, getD_list T q (by omega) 48]
    exact hdig q (by omega) hq
  unfold isWhL isDigL
  rw [hl, ha]
  cases k with
  | zero => simp
  | succ k => simp

/-- What the digits ahead of the point come to, as the loop meets it. -/
theorem hv_of {T : ByteArray} {k : Nat} (hw : isWhL (T.data.toList.take k) = true) :
    Hid (∀ q, q ≤ k → (0 : Int) ≤ (valW 0 (T.data.toList.take q) : Int) ∧ (valW 0 (T.data.toList.take q) : Int) < 10000000000) := fun q h => by
  have := valW_take_lt (isWhL_all hw).1 (isWhL_all hw).2.2 q
  rw [List.take_take, Nat.min_eq_left h] at this
  omega
theorem frn_of {v : Nat} (hv : v < 10000000000) :
    Hid (∀ j, j ≤ 6 → (0 : Int) ≤ (frac ([] : List UInt8) v j : Int) ∧ (j < 6 → (frac ([] : List UInt8) v j : Int) < 1000000000000000)) := fun j _ => by
  refine ⟨by omega, fun h => ?_⟩
  have := frac_small (frac_upto [] v hv j (fun _ _ => rfl)) (show j ≤ 5 by omega)
  omega
theorem getD_drop_none {T : ByteArray} {k p j : Nat} (hp : k + 1 + p = T.size) (hj : p ≤ j) : (T.data.toList.drop (k + 1))[j]?.getD 48 = 48 := by
  rw [List.getElem?_eq_none (by rw [List.length_drop, Array.length_toList]; show T.size - (k + 1) ≤ j; omega)]; rfl
theorem fracd_yes (T : ByteArray) (k v j : Nat) (h : k + 1 + j < T.size) (hd : isD (T[k + 1 + j]'h) = true) :
    Hid ((frac (T.data.toList.drop (k + 1)) v (j + 1) : Int) = 10 * (frac (T.data.toList.drop (k + 1)) v j : Int) + (((T[k + 1 + j]'h).toNat : Int) - 48)) := by
  show (frac (T.data.toList.drop (k + 1)) v (j + 1) : Int) = _
  have := isD_yes hd
  rw [frac, drop_getD T k j h]; unfold dv; omega
theorem fracd_end (T : ByteArray) (k v p j : Nat) (hp : k + 1 + p = T.size) (hj : p ≤ j) :
    Hid ((frac (T.data.toList.drop (k + 1)) v (j + 1) : Int) = 10 * (frac (T.data.toList.drop (k + 1)) v j : Int)) := by
  show (frac (T.data.toList.drop (k + 1)) v (j + 1) : Int) = _
  rw [frac, getD_drop_none hp hj]; simp [dv]; omega
theorem frd_of {A : List UInt8} {v : Nat} (hv : v < 10000000000) {j : Nat} (hj : j < 6) (h : ∀ z, z < j → isD (A[z]?.getD 48) = true) :
    (0 : Int) ≤ (frac A v j : Int) ∧ (frac A v j : Int) < 1000000000000000 := by
  have := frac_small (frac_upto A v hv j h) (show j ≤ 5 by omega)
  omega
theorem frd6_of {A : List UInt8} {v : Nat} (hv : v < 10000000000) (h : ∀ z, z < 6 → isD (A[z]?.getD 48) = true) :
    (0 : Int) ≤ (frac A v 6 : Int) ∧ (frac A v 6 : Int) < 10000000000000000 := by
  have := frac_six (frac_upto A v hv 6 h)
  omega
theorem all_next {A : List UInt8} {j : Nat} (h : ∀ z, z < j → isD (A[z]?.getD 48) = true) (hj : isD (A[j]?.getD 48) = true) : Hid (∀ z, z < j + 1 → isD (A[z]?.getD 48) = true) := fun z hz => by
  rcases Nat.lt_or_ge z j with h' | h'
  · exact h z h'
  · obtain rfl : z = j := by omega
    exact hj
theorem frn6_of {v : Nat} (hv : v < 10000000000) : Hid ((frac ([] : List UInt8) v 6 : Int) < 10000000000000000) := by
  show (frac ([] : List UInt8) v 6 : Int) < _
  have := frac_six (frac_upto [] v hv 6 (fun _ _ => rfl))
  omega
end Go.Proofs.YtehpnhmghfpjpaaDoor
