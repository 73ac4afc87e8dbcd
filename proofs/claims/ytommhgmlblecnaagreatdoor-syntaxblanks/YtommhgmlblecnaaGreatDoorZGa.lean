/- texts put together: Put Digits BackMath RefParse0 RefParseM RefParseNt RefParseNf RefParseDt RefParseDf RefParseBt RefParseBf RefParseCt RefParseCf RefParse YRefD -/
import Derived.Test.YtommhgmlblecnaaGreatDoorYGd
import Derived.Deep.RegionLaw
import Derived.Deep.AppendLies
import Derived.Lib.ItoaNum
import Derived.Lib.UnsafeStr
namespace Go.Proofs.YtommhgmlblecnaaGreatDoor
open Go.RowKit

end Go.Proofs.YtommhgmlblecnaaGreatDoor
namespace Go.Proofs.YtommhgmlblecnaaGreatDoor
open Go Go.RowKit

end Go.Proofs.YtommhgmlblecnaaGreatDoor
namespace Go.Proofs.YtommhgmlblecnaaGreatDoor

theorem not46 {l : List UInt8} (h : l.all isD = true) : ∀ c ∈ l, c ≠ 46 := fun c hc e => by
  have := List.all_eq_true.1 h c hc
  rw [e] at this; revert this; decide
theorem index_app : ∀ (x y : List UInt8), (∀ c ∈ x, c ≠ 46) → Lib.index (x ++ 46 :: y) [46] = x.length
  | [], y, _ => by simp [Lib.index, List.isPrefixOf]
  | c :: x, y, h => by
    have hc : c ≠ 46 := h c (by simp)
    have ih := index_app x y (fun d hd => h d (by simp [hd]))
    simp only [List.cons_append, Lib.index]
    rw [ih, if_neg (by simp [List.isPrefixOf, Ne.symm hc]), if_neg (by simp)]
    simp
theorem index_no : ∀ (x : List UInt8), (∀ c ∈ x, c ≠ 46) → Lib.index x [46] = -1
  | [], _ => by simp [Lib.index]
  | c :: x, h => by
    have hc : c ≠ 46 := h c (by simp)
    have ih := index_no x (fun d hd => h d (by simp [hd]))
    simp only [Lib.index]
    rw [ih, if_neg (by simp [List.isPrefixOf, Ne.symm hc])]
    simp
theorem cut_app {x : List UInt8} (y : List UInt8) (h : x.all isD = true) : Lib.cut (x ++ 46 :: y) [46] = (x, y, true) := by
  unfold Lib.cut
  rw [index_app x y (not46 h), if_pos (by omega)]
  simp
theorem cut_no {x : List UInt8} (h : x.all isD = true) : Lib.cut x [46] = (x, [], false) := by
  unfold Lib.cut
  rw [index_no x (not46 h), if_neg (by omega)]

end Go.Proofs.YtommhgmlblecnaaGreatDoor
namespace Go.Proofs.YtommhgmlblecnaaGreatDoor
open Go.RowKit

set_option maxHeartbeats 400000 in
theorem rdig_yes (c : Int) (w : World) (h0 : 48 ≤ c) (h1 : c ≤ 57) :
    Calls Tryz.prog 116 #[.int .u8 c] w fun e w' => e = .returned (.bool true) ∧ w' = w := by
  go_enter Tryz.func116, Tryz.ntmps116
  go_wp2
  go_ret
  exact ⟨rfl, rfl⟩
set_option maxHeartbeats 400000 in
theorem rdig_no (c : Int) (w : World) (h : c < 48 ∨ 57 < c) :
    Calls Tryz.prog 116 #[.int .u8 c] w fun e w' => e = .returned (.bool false) ∧ w' = w := by
  rcases h with h | h
  · have d1 : decide (48 ≤ c) = false := decide_eq_false (by omega)
    go_enter Tryz.func116, Tryz.ntmps116
    go_wp2
    go_ret
    exact ⟨rfl, rfl⟩
  · have d1 : decide (48 ≤ c) = true := decide_eq_true (by omega)
    have d2 : decide (c ≤ 57) = false := decide_eq_false (by omega)
    go_enter Tryz.func116, Tryz.ntmps116
    go_wp2
    go_ret
    exact ⟨rfl, rfl⟩

theorem isD_no {c : UInt8} (h : isD c = false) : (c.toNat : Int) < 48 ∨ 57 < (c.toNat : Int) := by
  unfold isD at h
  simp only [Bool.and_eq_false_iff, decide_eq_false_iff_not] at h
  omega
theorem isD_yes {c : UInt8} (h : isD c = true) : (48 : Int) ≤ (c.toNat : Int) ∧ (c.toNat : Int) ≤ 57 := by
  rw [isD_iff] at h; omega

/-- What the reference reads of a text behind its sign, k digits of which stand ahead. -/
def refR (bl : Bool) (t : List UInt8) (k : Nat) : Int × Bool :=
  coreR (isWhL (t.take k)) (decide (k < t.length)) (decide (t[k]?.getD 0 = 46) && isDigL (t.drop (k + 1)) 6) bl (milL (t.take k) (t.drop (k + 1)))

/-- The last tests. -/
def endI (bl : Bool) (n : Int) : Int × Bool := if decide (1000000000000000 < n) || (bl && decide (n = 0)) then (0, false) else (if bl then -n else n, true)

theorem coreR_good (id bl f : Bool) (n : Nat) (h : f = true → id = true) : coreR true f id bl n = endI bl (n : Int) := by
  unfold coreR endI
  rw [show decide ((1000000000000000 : Int) < (n : Int)) = decide (1000000000000000 < n) from decide_eq_decide.2 (by omega), show decide ((n : Int) = 0) = decide (n = 0) from decide_eq_decide.2 (by omega)]
  cases f
  · simp
  · rw [h rfl]; simp

theorem take_snoc' (s : ByteArray) (k : Nat) (h : k < s.size) : s.data.toList.take (k + 1) = s.data.toList.take k ++ [s[k]] := by
  rw [List.take_succ_eq_append_getElem (by rw [Array.length_toList]; exact h)]; rfl
theorem getD_list (s : ByteArray) (k : Nat) (h : k < s.size) (z : UInt8) : s.data.toList[k]?.getD z = s[k] := by
  rw [List.getElem?_eq_getElem (by rw [Array.length_toList]; exact h)]; rfl
theorem drop_getD (s : ByteArray) (k i : Nat) (h : k + 1 + i < s.size) : (s.data.toList.drop (k + 1))[i]?.getD 48 = s[k + 1 + i] := by
  rw [List.getElem?_drop]; exact getD_list s (k + 1 + i) h 48
theorem take_step (T : ByteArray) (q : Nat) (h : q < T.size) (hd : isD (T[q]'h) = true) :
    Hid ((valW 0 (T.data.toList.take (q + 1)) : Int) = 10 * (valW 0 (T.data.toList.take q) : Int) + (((T[q]'h).toNat : Int) - 48)) := by
  show (valW 0 (T.data.toList.take (q + 1)) : Int) = _
  have := isD_yes hd
  rw [take_snoc' T q h, valW_snoc]; unfold dv; omega
theorem fracn_step (v j : Nat) : Hid ((frac ([] : List UInt8) v (j + 1) : Int) = 10 * (frac ([] : List UInt8) v j : Int)) := by
  show (frac ([] : List UInt8) v (j + 1) : Int) = _
  simp [frac, dv]; omega

theorem all_of_getD {l : List UInt8} (h : ∀ q, q < l.length → isD (l[q]?.getD 48) = true) : l.all isD = true := by
  rw [List.all_eq_true]
  intro x hx
  obtain ⟨q, hq, rfl⟩ := List.getElem_of_mem hx
  have := h q hq
  rwa [List.getElem?_eq_getElem hq] at this
theorem getD_of_all {l : List UInt8} (h : l.all isD = true) (q : Nat) : isD (l[q]?.getD 48) = true := by
  rcases Nat.lt_or_ge q l.length with hk | hk
  · rw [List.getElem?_eq_getElem hk]
    exact List.all_eq_true.1 h _ (List.getElem_mem hk)
  · rw [List.getElem?_eq_none hk]; rfl
theorem frac_upto (d : List UInt8) (n : Nat) (hn : n < 10000000000) : ∀ k, (∀ q, q < k → isD (d[q]?.getD 48) = true) → frac d n k < 10000000000 * 10 ^ k
  | 0, _ => by simpa [frac] using hn
  | k + 1, h => by
    have ih := frac_upto d n hn k (fun q hq => h q (by omega))
    have hd := dv_le (h k (by omega))
    simp only [frac]
    rw [Nat.pow_succ, ← Nat.mul_assoc]
    omega
theorem frac_small {y j : Nat} (h : y < 10000000000 * 10 ^ j) (hj : j ≤ 5) : y < 1000000000000000 := by
  have : 10 ^ j ≤ 10 ^ 5 := Nat.pow_le_pow_right (by omega) hj
  omega
theorem frac_six {y : Nat} (h : y < 10000000000 * 10 ^ 6) : y < 10000000000000000 := by omega

theorem whl_take {T : ByteArray} {k : Nat} (htl : T.data.toList.length = T.size) (hk : k ≤ T.size) (hdig : ∀ i (h : i < T.size), i < k → isD (T[i]'h) = true) :
    isWhL (T.data.toList.take k) = (decide (1 ≤ k) && decide (k ≤ 10) && (decide (T.data.toList[0]?.getD 0 ≠ 48) || decide (k = 1))) := by
  have hl : (T.data.toList.take k).length = k := by rw [List.length_take, htl]; omega
  have ha : (T.data.toList.take k).all isD = true := by
    apply all_of_getD
    intro q hq
    rw [hl] at hq
    rw [List.getElem?_take, if_pos hq, getD_list T q (by omega) 48]
    exact hdig q (by omega) hq
  unfold isWhL isDigL
  rw [hl, ha]
  cases k with
  | zero => simp
  | succ k => simp

/-- What the digits ahead of the point come to, as the loop meets it. -/
theorem hv_of {T : ByteArray} {k : Nat} (hw : isWhL (T.data.toList.take k) = true) :
    Hid (∀ q, q ≤ k → (0 : Int) ≤ (valW 0 (T.data.toList.take q) : Int) ∧ (valW 0 (T.data.toList.take q) : Int) < 10000000000) := fun q h => by
  have := valW_take_lt (isWhL_all hw).1 (isWhL_all hw).2.2 q
  rw [List.take_take, Nat.min_eq_left h] at this
  omega
theorem frn_of {v : Nat} (hv : v < 10000000000) :
    Hid (∀ j, j ≤ 6 → (0 : Int) ≤ (frac ([] : List UInt8) v j : Int) ∧ (j < 6 → (frac ([] : List UInt8) v j : Int) < 1000000000000000)) := fun j _ => by
  refine ⟨by omega, fun h => ?_⟩
  have := frac_small (frac_upto [] v hv j (fun _ _ => rfl)) (show j ≤ 5 by omega)
  omega
theorem getD_drop_none {T : ByteArray} {k p j : Nat} (hp : k + 1 + p = T.size) (hj : p ≤ j) : (T.data.toList.drop (k + 1))[j]?.getD 48 = 48 := by
  rw [List.getElem?_eq_none (by rw [List.length_drop, Array.length_toList]; show T.size - (k + 1) ≤ j; omega)]; rfl
theorem fracd_yes (T : ByteArray) (k v j : Nat) (h : k + 1 + j < T.size) (hd : isD (T[k + 1 + j]'h) = true) :
    Hid ((frac (T.data.toList.drop (k + 1)) v (j + 1) : Int) = 10 * (frac (T.data.toList.drop (k + 1)) v j : Int) + (((T[k + 1 + j]'h).toNat : Int) - 48)) := by
  show (frac (T.data.toList.drop (k + 1)) v (j + 1) : Int) = _
  have := isD_yes hd
  rw [frac, drop_getD T k j h]; unfold dv; omega
theorem fracd_end (T : ByteArray) (k v p j : Nat) (hp : k + 1 + p = T.size) (hj : p ≤ j) :
    Hid ((frac (T.data.toList.drop (k + 1)) v (j + 1) : Int) = 10 * (frac (T.data.toList.drop (k + 1)) v j : Int)) := by
  show (frac (T.data.toList.drop (k + 1)) v (j + 1) : Int) = _
  rw [frac, getD_drop_none hp hj]; simp [dv]; omega
theorem frd_of {A : List UInt8} {v : Nat} (hv : v < 10000000000) {j : Nat} (hj : j < 6) (h : ∀ z, z < j → isD (A[z]?.getD 48) = true) :
    (0 : Int) ≤ (frac A v j : Int) ∧ (frac A v j : Int) < 1000000000000000 := by
  have := frac_small (frac_upto A v hv j h) (show j ≤ 5 by omega)
  omega
theorem frd6_of {A : List UInt8} {v : Nat} (hv : v < 10000000000) (h : ∀ z, z < 6 → isD (A[z]?.getD 48) = true) :
    (0 : Int) ≤ (frac A v 6 : Int) ∧ (frac A v 6 : Int) < 10000000000000000 := by
  have := frac_six (frac_upto A v hv 6 h)
  omega
theorem all_next {A : List UInt8} {j : Nat} (h : ∀ z, z < j → isD (A[z]?.getD 48) = true) (hj : isD (A[j]?.getD 48) = true) : Hid (∀ z, z < j + 1 → isD (A[z]?.getD 48) = true) := fun z hz => by
  rcases Nat.lt_or_ge z j with h' | h'
  · exact h z h'
  · obtain rfl : z = j := by omega
    exact hj
theorem frn6_of {v : Nat} (hv : v < 10000000000) : Hid ((frac ([] : List UInt8) v 6 : Int) < 10000000000000000) := by
  show (frac ([] : List UInt8) v 6 : Int) < _
  have := frac_six (frac_upto [] v hv 6 (fun _ _ => rfl))
  omega
end Go.Proofs.YtommhgmlblecnaaGreatDoor
namespace Go.Proofs.YtommhgmlblecnaaGreatDoor

theorem refR_noWh {bl : Bool} {t : List UInt8} {k : Nat} (h : isWhL (t.take k) = false) : refR bl t k = (0, false) := by
  unfold refR coreR; rw [h]; rfl
theorem refR_noId {bl : Bool} {t : List UInt8} {k : Nat} (hk : k < t.length) (h : (decide (t[k]?.getD 0 = 46) && isDigL (t.drop (k + 1)) 6) = false) : refR bl t k = (0, false) := by
  unfold refR coreR; rw [h, decide_eq_true hk]; simp
theorem refR_N {bl : Bool} {t : List UInt8} {k : Nat} (hw : isWhL (t.take k) = true) (hk : t.length ≤ k) : refR bl t k = endI bl (frac ([] : List UInt8) (valW 0 (t.take k)) 6 : Int) := by
  unfold refR
  rw [hw, List.drop_eq_nil_of_le (show t.length ≤ k + 1 by omega), decide_eq_false (show ¬ k < t.length by omega)]
  exact coreR_good _ bl false _ (fun h => by cases h)
theorem refR_D {bl : Bool} {t : List UInt8} {k : Nat} (hw : isWhL (t.take k) = true) (h : t[k]?.getD 0 = 46) (hd : isDigL (t.drop (k + 1)) 6 = true) :
    refR bl t k = endI bl (frac (t.drop (k + 1)) (valW 0 (t.take k)) 6 : Int) := by
  unfold refR
  rw [hw, hd, decide_eq_true h]
  exact coreR_good _ bl _ _ (fun _ => rfl)

theorem cut_app' {x : List UInt8} (y : List UInt8) (h : ∀ c ∈ x, c ≠ 46) : Lib.cut (x ++ 46 :: y) [46] = (x, y, true) := by
  unfold Lib.cut
  rw [index_app x y h, if_pos (by omega)]
  simp
theorem cut_no' {x : List UInt8} (h : ∀ c ∈ x, c ≠ 46) : Lib.cut x [46] = (x, [], false) := by
  unfold Lib.cut
  rw [index_no x h, if_neg (by omega)]
theorem noWh_of {l : List UInt8} {c : UInt8} (hc : c ∈ l) (h : isD c = false) : isWhL l = false := by
  cases hw : isWhL l with
  | false => rfl
  | true =>
    have := List.all_eq_true.1 (isWhL_all hw).1 c hc
    rw [h] at this; cases this
/-- A byte that is no digit and no point: what Cut gives ahead of the point holds it. -/
theorem cut_bad (d r : List UInt8) (c : UInt8) (hd : d.all isD = true) (hc : isD c = false) (h46 : c ≠ 46) : isWhL (Lib.cut (d ++ c :: r) [46]).1 = false := by
  by_cases hm : (46 : UInt8) ∈ r
  · obtain ⟨x, y, rfl, hx⟩ := List.eq_append_cons_of_mem hm
    have hno : ∀ b ∈ d ++ c :: x, b ≠ 46 := fun b hb => by
      rcases List.mem_append.1 hb with h | h
      · exact not46 hd b h
      · rcases List.mem_cons.1 h with rfl | h
        · exact h46
        · exact fun e => hx (e ▸ h)
    rw [show d ++ c :: (x ++ 46 :: y) = (d ++ c :: x) ++ 46 :: y by simp, cut_app' y hno]
    exact noWh_of (c := c) (by simp) hc
  · have hno : ∀ b ∈ d ++ c :: r, b ≠ 46 := fun b hb => by
      rcases List.mem_append.1 hb with h | h
      · exact not46 hd b h
      · rcases List.mem_cons.1 h with rfl | h
        · exact h46
        · exact fun e => hm (e ▸ h)
    rw [cut_no' hno]
    exact noWh_of (c := c) (by simp) hc

theorem parseT_ref (bl : Bool) (d r : List UInt8) (hd : d.all isD = true) (hr : ∀ c r', r = c :: r' → isD c = false) :
    parseT bl (Lib.cut (d ++ r) [46]) = refR bl (d ++ r) d.length := by
  cases r with
  | nil =>
    rw [List.append_nil, cut_no hd]
    unfold parseT refR
    rw [List.take_length, List.drop_eq_nil_of_le (show d.length ≤ d.length + 1 by omega), decide_eq_false (Nat.lt_irrefl _)]
    unfold coreR
    simp only [Bool.not_false, Bool.true_or]
  | cons c r =>
    by_cases h : c = 46
    · subst h
      rw [cut_app r hd]
      unfold parseT refR
      have e1 : (d ++ 46 :: r).take d.length = d := by simp
      have e2 : (d ++ 46 :: r).drop (d.length + 1) = r := by simp
      have e3 : (d ++ 46 :: r)[d.length]?.getD 0 = 46 := by simp
      have e4 : d.length < (d ++ 46 :: r).length := by simp
      rw [e1, e2, e3, decide_eq_true e4]
      simp only [decide_true, Bool.true_and]
    · have hw := cut_bad d r c hd (hr c r rfl) h
      rw [refR_noId (by simp) (by simp [h])]
      unfold parseT coreR
      rw [hw]; rfl

theorem digits_ahead : ∀ t : List UInt8, ∃ d r, t = d ++ r ∧ d.all isD = true ∧ ∀ c r', r = c :: r' → isD c = false
  | [] => ⟨[], [], rfl, rfl, fun _ _ h => by cases h⟩
  | c :: t => by
    by_cases h : isD c = true
    · obtain ⟨d, r, rfl, hd, hr⟩ := digits_ahead t
      exact ⟨c :: d, r, rfl, by rw [List.all_cons, h, hd]; rfl, hr⟩
    · exact ⟨[], c :: t, rfl, rfl, fun c' r' e => by cases e; simpa using h⟩

/-- The same of bytes. -/
theorem ahead_of (T : ByteArray) (bl : Bool) : ∃ k, k ≤ T.size ∧ (∀ i (h : i < T.size), i < k → isD (T[i]'h) = true) ∧ (∀ h : k < T.size, isD (T[k]'h) = false) ∧
    parseT bl (Lib.cut T.data.toList [46]) = refR bl T.data.toList k := by
  obtain ⟨d, r, ht, hd, hr⟩ := digits_ahead T.data.toList
  have hl : T.data.toList.length = T.size := Array.length_toList
  have hs : T.size = d.length + r.length := by rw [← hl, ht, List.length_append]
  refine ⟨d.length, by omega, fun i h hi => ?_, fun h => ?_, by rw [ht]; exact parseT_ref bl d r hd hr⟩
  · rw [← getD_list T i h 48, ht, List.getElem?_append_left hi]
    exact getD_of_all hd i
  · rw [← getD_list T d.length h 48, ht]
    cases r with
    | nil => simp at hs; omega
    | cons c r => simp; exact hr c r rfl
theorem parseL_nil : parseL [] = (0, false) := by decide
theorem parseL_neg (t : List UInt8) : parseL (45 :: t) = parseT true (Lib.cut t [46]) := by
  unfold parseL Lib.trimPrefix Lib.hasPrefix; simp [List.isPrefixOf]
theorem parseL_pos {c : UInt8} {t : List UInt8} (h : c ≠ 45) : parseL (c :: t) = parseT false (Lib.cut (c :: t) [46]) := by
  have e : (45 == c) = false := by simpa using Ne.symm h
  unfold parseL Lib.trimPrefix Lib.hasPrefix; simp [List.isPrefixOf, e]
end Go.Proofs.YtommhgmlblecnaaGreatDoor
namespace Go.Proofs.YtommhgmlblecnaaGreatDoor
open Go.RowKit

set_option maxRecDepth 100000 in
set_option maxHeartbeats 1600000 in
theorem rpN_t1 (s T : ByteArray) (k : Nat) (w : World) (R : Int × Bool) (hk : k ≤ T.size) (hTi : (T.size : Int) ≤ 9223372036854775807) (hp : 0 < s.size) (h45 : (s[0]'hp).toNat = 45) (hT : s.extract 1 s.size = T)
    (HDG : Hid (∀ i (h : i < T.size), i < k → isD (T[i]'h) = true)) (e1 : decide ((k : Int) < 1) = false) (e2 : decide (10 < (k : Int)) = false) (e3 : decide (1 < (k : Int)) = false) (hkT : T.size ≤ k) (HV : Hid (∀ q, q ≤ k → (0 : Int) ≤ (valW 0 (T.data.toList.take q) : Int) ∧ (valW 0 (T.data.toList.take q) : Int) < 10000000000)) (HR : Hid (R = endI true (frac ([] : List UInt8) (valW 0 (T.data.toList.take k)) 6 : Int))) :
    Calls Tryz.prog 81 #[.string s] w fun e w' => e = .returned (.tuple #[.int .i64 R.1, .bool R.2]) ∧ w' = w := by
  have d0 : (0 : Int) < (s.size : Int) := by omega
  have d45 : (((s[0]'hp).toNat : Int) == 45) = true := by rw [h45]; rfl
  have s1 : (1 : Int) ≤ (s.size : Int) := by omega
  clear h45
  go_enter Tryz.func81, Tryz.ntmps81
  go_wp2
  go_loop [5] (fun a => ∃ i : Nat, i ≤ k ∧ a = .int .i64 i) (fun a => k - (intOf a).toNat)
  case atStart => exact ⟨0, Nat.zero_le _, rfl⟩
  case round =>
    obtain ⟨i, hi, rfl⟩ := hrel
    by_cases hlt : i < k
    · have hin : i < T.size := by omega
      obtain ⟨hD0, hD1⟩ := isD_yes (HDG.out i hin hlt)
      have hii : (i : Int) < (T.size : Int) := by omega
      clear e1 e2 e3 HV HR
      go_wp2_with (go_at_call 116; refine (rdig_yes _ _ hD0 hD1).mono ?_; rintro e w ⟨rfl, rfl⟩)
      go_round
      case rel => exact ⟨i + 1, by omega, by go_num⟩
      case measure => simp [intOf]; omega
    · obtain rfl : i = k := by omega
      clear hi hlt
      have hszi : ¬ ((i : Int) < (T.size : Int)) := by omega
      go_wp2
      clear hszi e1 e2 e3
      go_loop [7, 8] (fun a b => ∃ q : Nat, q ≤ i ∧ b = .int .i64 q ∧ a = .int .i64 (valW 0 (T.data.toList.take q) : Int)) (fun _ b => i - (intOf b).toNat)
      case atStart => exact ⟨0, Nat.zero_le _, rfl, by simp [valW]⟩
      case round =>
        obtain ⟨q, hqi, rfl, rfl⟩ := hrel
        by_cases hlt2 : q < i
        · have hin : q < T.size := by omega
          obtain ⟨hD0, hD1⟩ := isD_yes (HDG.out q hin hlt2)
          have HN := take_step T q hin (HDG.out q hin hlt2)
          have hvi := HV.out q hqi
          have hii : (q : Int) < (T.size : Int) := by omega
          have hqq : (q : Int) < (i : Int) := by omega
          generalize (valW 0 (T.data.toList.take q) : Int) = v at *
          obtain ⟨hv0, hv1⟩ := hvi
          clear HR HV
          go_wp2
          go_round
          case rel => exact ⟨q + 1, by omega, by go_num, by rw [HN.out]⟩
          case measure => simp [intOf]; omega
        · obtain rfl : q = i := by omega
          clear hqi hlt2
          have hvl : valW 0 (T.data.toList.take q) < 10000000000 := by have := (HV.out q (Nat.le_refl _)).2; omega
          have HFR := frn_of hvl
          have HF6 := frn6_of hvl
          generalize valW 0 (T.data.toList.take q) = v at *
          clear hvl HV HDG
          go_wp2
          go_loop [7, 9] (fun a b => ∃ j : Nat, j ≤ 6 ∧ b = .int .i64 j ∧ a = .int .i64 (frac ([] : List UInt8) v j : Int)) (fun _ b => 6 - (intOf b).toNat)
          case atStart => exact ⟨0, Nat.zero_le _, rfl, rfl⟩
          case round =>
            obtain ⟨j, hj, rfl, rfl⟩ := hrel
            by_cases hlt3 : j < 6
            · have hy0 := (HFR.out j (by omega)).1
              have hy1 := (HFR.out j (by omega)).2 (by omega)
              have HN := fracn_step v j
              have hji : (j : Int) < 6 := by omega
              have hj0 : ¬ ((j : Int) < 0) := by omega
              generalize (frac ([] : List UInt8) v j : Int) = y at *
              clear HFR HR
              go_wp2
              go_round
              case rel => exact ⟨j + 1, by omega, by go_num, by rw [HN.out]⟩
              case measure => simp [intOf]; omega
            · obtain rfl : j = 6 := by omega
              have hy0 := (HFR.out 6 (by omega)).1
              have hy2 := HF6.out
              generalize (frac ([] : List UInt8) v 6 : Int) = y at *
              clear HFR HF6 hj hlt3
              by_cases hbig : 1000000000000000 < y
              · have d1 : decide ((1000000000000000 : Int) < y) = true := decide_eq_true hbig
                have HZ : Hid (R = (0, false)) := by show R = _; rw [HR.out]; unfold endI; simp [hbig]
                clear HR
                go_wp2
                go_ret2
                exact ⟨by rw [HZ.out]; rfl, rfl⟩
              · have d1 : decide ((1000000000000000 : Int) < y) = false := decide_eq_false hbig
                by_cases hz : y = 0
                · have d2 : (y == 0) = true := by rw [hz]; rfl
                  have HZ : Hid (R = (0, false)) := by show R = _; rw [HR.out]; unfold endI; simp [hz]
                  clear HR hz
                  go_wp2
                  go_ret2
                  exact ⟨by rw [HZ.out]; rfl, rfl⟩
                · have d2 : (y == 0) = false := by simpa using hz
                  have HZ : Hid (R = (-y, true)) := by show R = _; rw [HR.out]; unfold endI; simp [hz, hbig]
                  clear HR hz
                  go_wp2
                  go_ret2
                  exact ⟨by rw [HZ.out]; rfl, rfl⟩

set_option maxRecDepth 100000 in
set_option maxHeartbeats 1600000 in
theorem rpN_t2 (s T : ByteArray) (k : Nat) (w : World) (R : Int × Bool) (hk : k ≤ T.size) (hTi : (T.size : Int) ≤ 9223372036854775807) (hp : 0 < s.size) (h45 : (s[0]'hp).toNat = 45) (hT : s.extract 1 s.size = T)
    (HDG : Hid (∀ i (h : i < T.size), i < k → isD (T[i]'h) = true)) (e1 : decide ((k : Int) < 1) = false) (e2 : decide (10 < (k : Int)) = false) (e3 : decide (1 < (k : Int)) = true) (hT0 : 0 < T.size) (e4 : (((T[0]'hT0).toNat : Int) == 48) = false) (hkT : T.size ≤ k) (HV : Hid (∀ q, q ≤ k → (0 : Int) ≤ (valW 0 (T.data.toList.take q) : Int) ∧ (valW 0 (T.data.toList.take q) : Int) < 10000000000)) (HR : Hid (R = endI true (frac ([] : List UInt8) (valW 0 (T.data.toList.take k)) 6 : Int))) :
    Calls Tryz.prog 81 #[.string s] w fun e w' => e = .returned (.tuple #[.int .i64 R.1, .bool R.2]) ∧ w' = w := by
  have d0 : (0 : Int) < (s.size : Int) := by omega
  have d45 : (((s[0]'hp).toNat : Int) == 45) = true := by rw [h45]; rfl
  have s1 : (1 : Int) ≤ (s.size : Int) := by omega
  clear h45
  have hT0i : (0 : Int) < (T.size : Int) := by omega
  go_enter Tryz.func81, Tryz.ntmps81
  go_wp2
  go_loop [5] (fun a => ∃ i : Nat, i ≤ k ∧ a = .int .i64 i) (fun a => k - (intOf a).toNat)
  case atStart => exact ⟨0, Nat.zero_le _, rfl⟩
  case round =>
    obtain ⟨i, hi, rfl⟩ := hrel
    by_cases hlt : i < k
    · have hin : i < T.size := by omega
      obtain ⟨hD0, hD1⟩ := isD_yes (HDG.out i hin hlt)
      have hii : (i : Int) < (T.size : Int) := by omega
      clear e1 e2 e3 e4 HV HR
      go_wp2_with (go_at_call 116; refine (rdig_yes _ _ hD0 hD1).mono ?_; rintro e w ⟨rfl, rfl⟩)
      go_round
      case rel => exact ⟨i + 1, by omega, by go_num⟩
      case measure => simp [intOf]; omega
    · obtain rfl : i = k := by omega
      clear hi hlt
      have hszi : ¬ ((i : Int) < (T.size : Int)) := by omega
      go_wp2
      clear hszi e1 e2 e3 e4
      go_loop [7, 8] (fun a b => ∃ q : Nat, q ≤ i ∧ b = .int .i64 q ∧ a = .int .i64 (valW 0 (T.data.toList.take q) : Int)) (fun _ b => i - (intOf b).toNat)
      case atStart => exact ⟨0, Nat.zero_le _, rfl, by simp [valW]⟩
      case round =>
        obtain ⟨q, hqi, rfl, rfl⟩ := hrel
        by_cases hlt2 : q < i
        · have hin : q < T.size := by omega
          obtain ⟨hD0, hD1⟩ := isD_yes (HDG.out q hin hlt2)
          have HN := take_step T q hin (HDG.out q hin hlt2)
          have hvi := HV.out q hqi
          have hii : (q : Int) < (T.size : Int) := by omega
          have hqq : (q : Int) < (i : Int) := by omega
          generalize (valW 0 (T.data.toList.take q) : Int) = v at *
          obtain ⟨hv0, hv1⟩ := hvi
          clear HR HV
          go_wp2
          go_round
          case rel => exact ⟨q + 1, by omega, by go_num, by rw [HN.out]⟩
          case measure => simp [intOf]; omega
        · obtain rfl : q = i := by omega
          clear hqi hlt2
          have hvl : valW 0 (T.data.toList.take q) < 10000000000 := by have := (HV.out q (Nat.le_refl _)).2; omega
          have HFR := frn_of hvl
          have HF6 := frn6_of hvl
          generalize valW 0 (T.data.toList.take q) = v at *
          clear hvl HV HDG
          go_wp2
          go_loop [7, 9] (fun a b => ∃ j : Nat, j ≤ 6 ∧ b = .int .i64 j ∧ a = .int .i64 (frac ([] : List UInt8) v j : Int)) (fun _ b => 6 - (intOf b).toNat)
          case atStart => exact ⟨0, Nat.zero_le _, rfl, rfl⟩
          case round =>
            obtain ⟨j, hj, rfl, rfl⟩ := hrel
            by_cases hlt3 : j < 6
            · have hy0 := (HFR.out j (by omega)).1
              have hy1 := (HFR.out j (by omega)).2 (by omega)
              have HN := fracn_step v j
              have hji : (j : Int) < 6 := by omega
              have hj0 : ¬ ((j : Int) < 0) := by omega
              generalize (frac ([] : List UInt8) v j : Int) = y at *
              clear HFR HR
              go_wp2
              go_round
              case rel => exact ⟨j + 1, by omega, by go_num, by rw [HN.out]⟩
              case measure => simp [intOf]; omega
            · obtain rfl : j = 6 := by omega
              have hy0 := (HFR.out 6 (by omega)).1
              have hy2 := HF6.out
              generalize (frac ([] : List UInt8) v 6 : Int) = y at *
              clear HFR HF6 hj hlt3
              by_cases hbig : 1000000000000000 < y
              · have d1 : decide ((1000000000000000 : Int) < y) = true := decide_eq_true hbig
                have HZ : Hid (R = (0, false)) := by show R = _; rw [HR.out]; unfold endI; simp [hbig]
                clear HR
                go_wp2
                go_ret2
                exact ⟨by rw [HZ.out]; rfl, rfl⟩
              · have d1 : decide ((1000000000000000 : Int) < y) = false := decide_eq_false hbig
                by_cases hz : y = 0
                · have d2 : (y == 0) = true := by rw [hz]; rfl
                  have HZ : Hid (R = (0, false)) := by show R = _; rw [HR.out]; unfold endI; simp [hz]
                  clear HR hz
                  go_wp2
                  go_ret2
                  exact ⟨by rw [HZ.out]; rfl, rfl⟩
                · have d2 : (y == 0) = false := by simpa using hz
                  have HZ : Hid (R = (-y, true)) := by show R = _; rw [HR.out]; unfold endI; simp [hz, hbig]
                  clear HR hz
                  go_wp2
                  go_ret2
                  exact ⟨by rw [HZ.out]; rfl, rfl⟩
end Go.Proofs.YtommhgmlblecnaaGreatDoor
namespace Go.Proofs.YtommhgmlblecnaaGreatDoor
open Go.RowKit

set_option maxRecDepth 100000 in
set_option maxHeartbeats 1600000 in
theorem rpN_f1 (s T : ByteArray) (k : Nat) (w : World) (R : Int × Bool) (hk : k ≤ T.size) (hTi : (T.size : Int) ≤ 9223372036854775807) (hp : 0 < s.size) (h45 : (s[0]'hp).toNat ≠ 45) (hT : s = T)
    (HDG : Hid (∀ i (h : i < T.size), i < k → isD (T[i]'h) = true)) (e1 : decide ((k : Int) < 1) = false) (e2 : decide (10 < (k : Int)) = false) (e3 : decide (1 < (k : Int)) = false) (hkT : T.size ≤ k) (HV : Hid (∀ q, q ≤ k → (0 : Int) ≤ (valW 0 (T.data.toList.take q) : Int) ∧ (valW 0 (T.data.toList.take q) : Int) < 10000000000)) (HR : Hid (R = endI false (frac ([] : List UInt8) (valW 0 (T.data.toList.take k)) 6 : Int))) :
    Calls Tryz.prog 81 #[.string s] w fun e w' => e = .returned (.tuple #[.int .i64 R.1, .bool R.2]) ∧ w' = w := by
  have d0 : (0 : Int) < (s.size : Int) := by omega
  subst hT
  have d45 : (((s[0]'hp).toNat : Int) == 45) = false := by simp; omega
  clear h45
  go_enter Tryz.func81, Tryz.ntmps81
  go_wp2
  go_loop [5] (fun a => ∃ i : Nat, i ≤ k ∧ a = .int .i64 i) (fun a => k - (intOf a).toNat)
  case atStart => exact ⟨0, Nat.zero_le _, rfl⟩
  case round =>
    obtain ⟨i, hi, rfl⟩ := hrel
    by_cases hlt : i < k
    · have hin : i < s.size := by omega
      obtain ⟨hD0, hD1⟩ := isD_yes (HDG.out i hin hlt)
      have hii : (i : Int) < (s.size : Int) := by omega
      clear e1 e2 e3 HV HR
      go_wp2_with (go_at_call 116; refine (rdig_yes _ _ hD0 hD1).mono ?_; rintro e w ⟨rfl, rfl⟩)
      go_round
      case rel => exact ⟨i + 1, by omega, by go_num⟩
      case measure => simp [intOf]; omega
    · obtain rfl : i = k := by omega
      clear hi hlt
      have hszi : ¬ ((i : Int) < (s.size : Int)) := by omega
      go_wp2
      clear hszi e1 e2 e3
      go_loop [7, 8] (fun a b => ∃ q : Nat, q ≤ i ∧ b = .int .i64 q ∧ a = .int .i64 (valW 0 (s.data.toList.take q) : Int)) (fun _ b => i - (intOf b).toNat)
      case atStart => exact ⟨0, Nat.zero_le _, rfl, by simp [valW]⟩
      case round =>
        obtain ⟨q, hqi, rfl, rfl⟩ := hrel
        by_cases hlt2 : q < i
        · have hin : q < s.size := by omega
          obtain ⟨hD0, hD1⟩ := isD_yes (HDG.out q hin hlt2)
          have HN := take_step s q hin (HDG.out q hin hlt2)
          have hvi := HV.out q hqi
          have hii : (q : Int) < (s.size : Int) := by omega
          have hqq : (q : Int) < (i : Int) := by omega
          generalize (valW 0 (s.data.toList.take q) : Int) = v at *
          obtain ⟨hv0, hv1⟩ := hvi
          clear HR HV
          go_wp2
          go_round
          case rel => exact ⟨q + 1, by omega, by go_num, by rw [HN.out]⟩
          case measure => simp [intOf]; omega
        · obtain rfl : q = i := by omega
          clear hqi hlt2
          have hvl : valW 0 (s.data.toList.take q) < 10000000000 := by have := (HV.out q (Nat.le_refl _)).2; omega
          have HFR := frn_of hvl
          have HF6 := frn6_of hvl
          generalize valW 0 (s.data.toList.take q) = v at *
          clear hvl HV HDG
          go_wp2
          go_loop [7, 9] (fun a b => ∃ j : Nat, j ≤ 6 ∧ b = .int .i64 j ∧ a = .int .i64 (frac ([] : List UInt8) v j : Int)) (fun _ b => 6 - (intOf b).toNat)
          case atStart => exact ⟨0, Nat.zero_le _, rfl, rfl⟩
          case round =>
            obtain ⟨j, hj, rfl, rfl⟩ := hrel
            by_cases hlt3 : j < 6
            · have hy0 := (HFR.out j (by omega)).1
              have hy1 := (HFR.out j (by omega)).2 (by omega)
              have HN := fracn_step v j
              have hji : (j : Int) < 6 := by omega
              have hj0 : ¬ ((j : Int) < 0) := by omega
              generalize (frac ([] : List UInt8) v j : Int) = y at *
              clear HFR HR
              go_wp2
              go_round
              case rel => exact ⟨j + 1, by omega, by go_num, by rw [HN.out]⟩
              case measure => simp [intOf]; omega
            · obtain rfl : j = 6 := by omega
              have hy0 := (HFR.out 6 (by omega)).1
              have hy2 := HF6.out
              generalize (frac ([] : List UInt8) v 6 : Int) = y at *
              clear HFR HF6 hj hlt3
              by_cases hbig : 1000000000000000 < y
              · have d1 : decide ((1000000000000000 : Int) < y) = true := decide_eq_true hbig
                have HZ : Hid (R = (0, false)) := by show R = _; rw [HR.out]; unfold endI; simp [hbig]
                clear HR
                go_wp2
                go_ret2
                exact ⟨by rw [HZ.out]; rfl, rfl⟩
              · have d1 : decide ((1000000000000000 : Int) < y) = false := decide_eq_false hbig
                have HZ : Hid (R = (y, true)) := by show R = _; rw [HR.out]; unfold endI; simp [hbig]
                clear HR
                go_wp2
                go_ret2
                exact ⟨by rw [HZ.out]; rfl, rfl⟩

set_option maxRecDepth 100000 in
set_option maxHeartbeats 1600000 in
theorem rpN_f2 (s T : ByteArray) (k : Nat) (w : World) (R : Int × Bool) (hk : k ≤ T.size) (hTi : (T.size : Int) ≤ 9223372036854775807) (hp : 0 < s.size) (h45 : (s[0]'hp).toNat ≠ 45) (hT : s = T)
    (HDG : Hid (∀ i (h : i < T.size), i < k → isD (T[i]'h) = true)) (e1 : decide ((k : Int) < 1) = false) (e2 : decide (10 < (k : Int)) = false) (e3 : decide (1 < (k : Int)) = true) (hT0 : 0 < T.size) (e4 : (((T[0]'hT0).toNat : Int) == 48) = false) (hkT : T.size ≤ k) (HV : Hid (∀ q, q ≤ k → (0 : Int) ≤ (valW 0 (T.data.toList.take q) : Int) ∧ (valW 0 (T.data.toList.take q) : Int) < 10000000000)) (HR : Hid (R = endI false (frac ([] : List UInt8) (valW 0 (T.data.toList.take k)) 6 : Int))) :
    Calls Tryz.prog 81 #[.string s] w fun e w' => e = .returned (.tuple #[.int .i64 R.1, .bool R.2]) ∧ w' = w := by
  have d0 : (0 : Int) < (s.size : Int) := by omega
  subst hT
  have d45 : (((s[0]'hp).toNat : Int) == 45) = false := by simp; omega
  clear h45
  have hT0i : (0 : Int) < (s.size : Int) := by omega
  go_enter Tryz.func81, Tryz.ntmps81
  go_wp2
  go_loop [5] (fun a => ∃ i : Nat, i ≤ k ∧ a = .int .i64 i) (fun a => k - (intOf a).toNat)
  case atStart => exact ⟨0, Nat.zero_le _, rfl⟩
  case round =>
    obtain ⟨i, hi, rfl⟩ := hrel
    by_cases hlt : i < k
    · have hin : i < s.size := by omega
      obtain ⟨hD0, hD1⟩ := isD_yes (HDG.out i hin hlt)
      have hii : (i : Int) < (s.size : Int) := by omega
      clear e1 e2 e3 e4 HV HR
      go_wp2_with (go_at_call 116; refine (rdig_yes _ _ hD0 hD1).mono ?_; rintro e w ⟨rfl, rfl⟩)
      go_round
      case rel => exact ⟨i + 1, by omega, by go_num⟩
      case measure => simp [intOf]; omega
    · obtain rfl : i = k := by omega
      clear hi hlt
      have hszi : ¬ ((i : Int) < (s.size : Int)) := by omega
      go_wp2
      clear hszi e1 e2 e3 e4
      go_loop [7, 8] (fun a b => ∃ q : Nat, q ≤ i ∧ b = .int .i64 q ∧ a = .int .i64 (valW 0 (s.data.toList.take q) : Int)) (fun _ b => i - (intOf b).toNat)
      case atStart => exact ⟨0, Nat.zero_le _, rfl, by simp [valW]⟩
      case round =>
        obtain ⟨q, hqi, rfl, rfl⟩ := hrel
        by_cases hlt2 : q < i
        · have hin : q < s.size := by omega
          obtain ⟨hD0, hD1⟩ := isD_yes (HDG.out q hin hlt2)
          have HN := take_step s q hin (HDG.out q hin hlt2)
          have hvi := HV.out q hqi
          have hii : (q : Int) < (s.size : Int) := by omega
          have hqq : (q : Int) < (i : Int) := by omega
          generalize (valW 0 (s.data.toList.take q) : Int) = v at *
          obtain ⟨hv0, hv1⟩ := hvi
          clear HR HV
          go_wp2
          go_round
          case rel => exact ⟨q + 1, by omega, by go_num, by rw [HN.out]⟩
          case measure => simp [intOf]; omega
        · obtain rfl : q = i := by omega
          clear hqi hlt2
          have hvl : valW 0 (s.data.toList.take q) < 10000000000 := by have := (HV.out q (Nat.le_refl _)).2; omega
          have HFR := frn_of hvl
          have HF6 := frn6_of hvl
          generalize valW 0 (s.data.toList.take q) = v at *
          clear hvl HV HDG
          go_wp2
          go_loop [7, 9] (fun a b => ∃ j : Nat, j ≤ 6 ∧ b = .int .i64 j ∧ a = .int .i64 (frac ([] : List UInt8) v j : Int)) (fun _ b => 6 - (intOf b).toNat)
          case atStart => exact ⟨0, Nat.zero_le _, rfl, rfl⟩
          case round =>
            obtain ⟨j, hj, rfl, rfl⟩ := hrel
            by_cases hlt3 : j < 6
            · have hy0 := (HFR.out j (by omega)).1
              have hy1 := (HFR.out j (by omega)).2 (by omega)
              have HN := fracn_step v j
              have hji : (j : Int) < 6 := by omega
              have hj0 : ¬ ((j : Int) < 0) := by omega
              generalize (frac ([] : List UInt8) v j : Int) = y at *
              clear HFR HR
              go_wp2
              go_round
              case rel => exact ⟨j + 1, by omega, by go_num, by rw [HN.out]⟩
              case measure => simp [intOf]; omega
            · obtain rfl : j = 6 := by omega
              have hy0 := (HFR.out 6 (by omega)).1
              have hy2 := HF6.out
              generalize (frac ([] : List UInt8) v 6 : Int) = y at *
              clear HFR HF6 hj hlt3
              by_cases hbig : 1000000000000000 < y
              · have d1 : decide ((1000000000000000 : Int) < y) = true := decide_eq_true hbig
                have HZ : Hid (R = (0, false)) := by show R = _; rw [HR.out]; unfold endI; simp [hbig]
                clear HR
                go_wp2
                go_ret2
                exact ⟨by rw [HZ.out]; rfl, rfl⟩
              · have d1 : decide ((1000000000000000 : Int) < y) = false := decide_eq_false hbig
                have HZ : Hid (R = (y, true)) := by show R = _; rw [HR.out]; unfold endI; simp [hbig]
                clear HR
                go_wp2
                go_ret2
                exact ⟨by rw [HZ.out]; rfl, rfl⟩
end Go.Proofs.YtommhgmlblecnaaGreatDoor
namespace Go.Proofs.YtommhgmlblecnaaGreatDoor
open Go.RowKit

set_option maxRecDepth 100000 in
set_option maxHeartbeats 1600000 in
theorem rpD_t1 (s T : ByteArray) (k : Nat) (w : World) (R : Int × Bool) (hk : k ≤ T.size) (hTi : (T.size : Int) ≤ 9223372036854775807) (hp : 0 < s.size) (h45 : (s[0]'hp).toNat = 45) (hT : s.extract 1 s.size = T)
    (HDG : Hid (∀ i (h : i < T.size), i < k → isD (T[i]'h) = true)) (e1 : decide ((k : Int) < 1) = false) (e2 : decide (10 < (k : Int)) = false) (e3 : decide (1 < (k : Int)) = false) (hsz : k < T.size) (hno : ((T[k]'hsz).toNat : Int) < 48 ∨ 57 < ((T[k]'hsz).toNat : Int)) (e5 : (((T[k]'hsz).toNat : Int) != 46) = false) (p : Nat) (rp : (T.size : Int) - (k : Int) - 1 = (p : Int)) (e6 : decide ((p : Int) < 1) = false) (e7 : decide (6 < (p : Int)) = false)
         (HV : Hid (∀ q, q ≤ k → (0 : Int) ≤ (valW 0 (T.data.toList.take q) : Int) ∧ (valW 0 (T.data.toList.take q) : Int) < 10000000000))
         (HG : Hid ((∀ z, z < 6 → isD ((T.data.toList.drop (k + 1))[z]?.getD 48) = true) → R = endI true (frac (T.data.toList.drop (k + 1)) (valW 0 (T.data.toList.take k)) 6 : Int)))
         (HBAD : Hid (∀ z, z < p → isD ((T.data.toList.drop (k + 1))[z]?.getD 48) = false → R = (0, false))) :
    Calls Tryz.prog 81 #[.string s] w fun e w' => e = .returned (.tuple #[.int .i64 R.1, .bool R.2]) ∧ w' = w := by
  have HPT : Hid (k + 1 + p = T.size) := show k + 1 + p = T.size by omega
  have d0 : (0 : Int) < (s.size : Int) := by omega
  have d45 : (((s[0]'hp).toNat : Int) == 45) = true := by rw [h45]; rfl
  have s1 : (1 : Int) ≤ (s.size : Int) := by omega
  clear h45
  have hszi : (k : Int) < (T.size : Int) := by omega
  go_enter Tryz.func81, Tryz.ntmps81
  go_wp2
  go_loop [5] (fun a => ∃ i : Nat, i ≤ k ∧ a = .int .i64 i) (fun a => k - (intOf a).toNat)
  case atStart => exact ⟨0, Nat.zero_le _, rfl⟩
  case round =>
    obtain ⟨i, hi, rfl⟩ := hrel
    by_cases hlt : i < k
    · have hin : i < T.size := by omega
      obtain ⟨hD0, hD1⟩ := isD_yes (HDG.out i hin hlt)
      have hii : (i : Int) < (T.size : Int) := by omega
      clear e1 e2 e3 e5 e6 e7 HV HG HBAD HPT rp hno
      go_wp2_with (go_at_call 116; refine (rdig_yes _ _ hD0 hD1).mono ?_; rintro e w ⟨rfl, rfl⟩)
      go_round
      case rel => exact ⟨i + 1, by omega, by go_num⟩
      case measure => simp [intOf]; omega
    · obtain rfl : i = k := by omega
      clear hi hlt
      go_wp2_with (go_at_call 116; refine (rdig_no _ _ hno).mono ?_; rintro e w ⟨rfl, rfl⟩)
      clear e1 e2 e3 e5 e6 e7 rp hno
      go_loop [7, 8] (fun a b => ∃ q : Nat, q ≤ i ∧ b = .int .i64 q ∧ a = .int .i64 (valW 0 (T.data.toList.take q) : Int)) (fun _ b => i - (intOf b).toNat)
      case atStart => exact ⟨0, Nat.zero_le _, rfl, by simp [valW]⟩
      case round =>
        obtain ⟨q, hqi, rfl, rfl⟩ := hrel
        by_cases hlt2 : q < i
        · have hin : q < T.size := by omega
          obtain ⟨hD0, hD1⟩ := isD_yes (HDG.out q hin hlt2)
          have HN := take_step T q hin (HDG.out q hin hlt2)
          have hvi := HV.out q hqi
          have hii : (q : Int) < (T.size : Int) := by omega
          have hqq : (q : Int) < (i : Int) := by omega
          generalize (valW 0 (T.data.toList.take q) : Int) = v at *
          obtain ⟨hv0, hv1⟩ := hvi
          clear HG HBAD HV HPT
          go_wp2
          go_round
          case rel => exact ⟨q + 1, by omega, by go_num, by rw [HN.out]⟩
          case measure => simp [intOf]; omega
        · obtain rfl : q = i := by omega
          clear hqi hlt2
          have hvl : valW 0 (T.data.toList.take q) < 10000000000 := by have := (HV.out q (Nat.le_refl _)).2; omega
          have HVL : Hid (valW 0 (T.data.toList.take q) < 10000000000) := hvl
          have HGOOD : Hid ((∀ z, z < 6 → isD ((T.data.toList.drop (q + 1))[z]?.getD 48) = true) → R = endI true (frac (T.data.toList.drop (q + 1)) (valW 0 (T.data.toList.take q)) 6 : Int)) := HG
          clear HG hvl HV HDG
          generalize valW 0 (T.data.toList.take q) = v at *
          go_wp2
          go_loop [7, 9] (fun a b => ∃ j : Nat, j ≤ 6 ∧ b = .int .i64 j ∧ a = .int .i64 (frac (T.data.toList.drop (q + 1)) v j : Int) ∧ ∀ z, z < j → isD ((T.data.toList.drop (q + 1))[z]?.getD 48) = true) (fun _ b => 6 - (intOf b).toNat)
          case atStart => exact ⟨0, Nat.zero_le _, rfl, rfl, fun z h => absurd h (Nat.not_lt_zero _)⟩
          case round =>
            obtain ⟨j, hj, rfl, rfl, hall⟩ := hrel
            have HALL : Hid (∀ z, z < j → isD ((T.data.toList.drop (q + 1))[z]?.getD 48) = true) := hall
            clear hall
            have hpT := HPT.out
            by_cases hlt3 : j < 6
            · have hji : (j : Int) < 6 := by omega
              obtain ⟨hy0, hy1⟩ := frd_of HVL.out hlt3 HALL.out
              by_cases hpj : j < p
              · have hidx : q + 1 + j < T.size := by omega
                have hgd := drop_getD T q j hidx
                have c1 : (q : Int) + 1 + (j : Int) < (T.size : Int) := by omega
                have hpi : (j : Int) < (p : Int) := by omega
                by_cases hdg : isD (T[q + 1 + j]'hidx) = true
                · obtain ⟨hD0, hD1⟩ := isD_yes hdg
                  have HN := fracd_yes T q v j hidx hdg
                  have HA := all_next HALL.out (by rw [hgd]; exact hdg)
                  generalize (frac (T.data.toList.drop (q + 1)) v j : Int) = y at *
                  clear hgd hdg HALL HGOOD HBAD HVL HPT hpT hpj
                  go_wp2_with (go_at_call 116; refine (rdig_yes _ _ hD0 hD1).mono ?_; rintro e w ⟨rfl, rfl⟩)
                  go_round
                  case rel => exact ⟨j + 1, by omega, by go_num, by rw [HN.out], HA.out⟩
                  case measure => simp [intOf]; omega
                · have hdf : isD (T[q + 1 + j]'hidx) = false := by simpa using hdg
                  have hno2 := isD_no hdf
                  have HZ : Hid (R = (0, false)) := HBAD.out j hpj (by rw [hgd]; exact hdf)
                  generalize (frac (T.data.toList.drop (q + 1)) v j : Int) = y at *
                  clear hgd hdg hdf HALL HGOOD HBAD HVL HPT hpT hpj
                  go_wp2_with (go_at_call 116; refine (rdig_no _ _ hno2).mono ?_; rintro e w ⟨rfl, rfl⟩)
                  go_ret2
                  exact ⟨by rw [HZ.out]; rfl, rfl⟩
              · have hpi : ¬ ((j : Int) < (p : Int)) := by omega
                have HN := fracd_end T q v p j hpT (by omega)
                have HA := all_next HALL.out (by rw [getD_drop_none hpT (by omega)]; rfl)
                generalize (frac (T.data.toList.drop (q + 1)) v j : Int) = y at *
                clear HALL HGOOD HBAD HVL HPT hpT hpj
                go_wp2
                go_round
                case rel => exact ⟨j + 1, by omega, by go_num, by rw [HN.out], HA.out⟩
                case measure => simp [intOf]; omega
            · obtain rfl : j = 6 := by omega
              obtain ⟨hy0, hy2⟩ := frd6_of HVL.out HALL.out
              have HR : Hid (R = endI true (frac (T.data.toList.drop (q + 1)) v 6 : Int)) := HGOOD.out HALL.out
              generalize (frac (T.data.toList.drop (q + 1)) v 6 : Int) = y at *
              clear HALL HGOOD HBAD HVL HPT hpT hj hlt3
              by_cases hbig : 1000000000000000 < y
              · have d1 : decide ((1000000000000000 : Int) < y) = true := decide_eq_true hbig
                have HZ : Hid (R = (0, false)) := by show R = _; rw [HR.out]; unfold endI; simp [hbig]
                clear HR
                go_wp2
                go_ret2
                exact ⟨by rw [HZ.out]; rfl, rfl⟩
              · have d1 : decide ((1000000000000000 : Int) < y) = false := decide_eq_false hbig
                by_cases hz : y = 0
                · have d2 : (y == 0) = true := by rw [hz]; rfl
                  have HZ : Hid (R = (0, false)) := by show R = _; rw [HR.out]; unfold endI; simp [hz]
                  clear HR hz
                  go_wp2
                  go_ret2
                  exact ⟨by rw [HZ.out]; rfl, rfl⟩
                · have d2 : (y == 0) = false := by simpa using hz
                  have HZ : Hid (R = (-y, true)) := by show R = _; rw [HR.out]; unfold endI; simp [hz, hbig]
                  clear HR hz
                  go_wp2
                  go_ret2
                  exact ⟨by rw [HZ.out]; rfl, rfl⟩

set_option maxRecDepth 100000 in
set_option maxHeartbeats 1600000 in
theorem rpD_t2 (s T : ByteArray) (k : Nat) (w : World) (R : Int × Bool) (hk : k ≤ T.size) (hTi : (T.size : Int) ≤ 9223372036854775807) (hp : 0 < s.size) (h45 : (s[0]'hp).toNat = 45) (hT : s.extract 1 s.size = T)
    (HDG : Hid (∀ i (h : i < T.size), i < k → isD (T[i]'h) = true)) (e1 : decide ((k : Int) < 1) = false) (e2 : decide (10 < (k : Int)) = false) (e3 : decide (1 < (k : Int)) = true) (hT0 : 0 < T.size) (e4 : (((T[0]'hT0).toNat : Int) == 48) = false) (hsz : k < T.size) (hno : ((T[k]'hsz).toNat : Int) < 48 ∨ 57 < ((T[k]'hsz).toNat : Int)) (e5 : (((T[k]'hsz).toNat : Int) != 46) = false) (p : Nat) (rp : (T.size : Int) - (k : Int) - 1 = (p : Int)) (e6 : decide ((p : Int) < 1) = false) (e7 : decide (6 < (p : Int)) = false)
         (HV : Hid (∀ q, q ≤ k → (0 : Int) ≤ (valW 0 (T.data.toList.take q) : Int) ∧ (valW 0 (T.data.toList.take q) : Int) < 10000000000))
         (HG : Hid ((∀ z, z < 6 → isD ((T.data.toList.drop (k + 1))[z]?.getD 48) = true) → R = endI true (frac (T.data.toList.drop (k + 1)) (valW 0 (T.data.toList.take k)) 6 : Int)))
         (HBAD : Hid (∀ z, z < p → isD ((T.data.toList.drop (k + 1))[z]?.getD 48) = false → R = (0, false))) :
    Calls Tryz.prog 81 #[.string s] w fun e w' => e = .returned (.tuple #[.int .i64 R.1, .bool R.2]) ∧ w' = w := by
  have HPT : Hid (k + 1 + p = T.size) := show k + 1 + p = T.size by omega
  have d0 : (0 : Int) < (s.size : Int) := by omega
  have d45 : (((s[0]'hp).toNat : Int) == 45) = true := by rw [h45]; rfl
  have s1 : (1 : Int) ≤ (s.size : Int) := by omega
  clear h45
  have hT0i : (0 : Int) < (T.size : Int) := by omega
  have hszi : (k : Int) < (T.size : Int) := by omega
  go_enter Tryz.func81, Tryz.ntmps81
  go_wp2
  go_loop [5] (fun a => ∃ i : Nat, i ≤ k ∧ a = .int .i64 i) (fun a => k - (intOf a).toNat)
  case atStart => exact ⟨0, Nat.zero_le _, rfl⟩
  case round =>
    obtain ⟨i, hi, rfl⟩ := hrel
    by_cases hlt : i < k
    · have hin : i < T.size := by omega
      obtain ⟨hD0, hD1⟩ := isD_yes (HDG.out i hin hlt)
      have hii : (i : Int) < (T.size : Int) := by omega
      clear e1 e2 e3 e4 e5 e6 e7 HV HG HBAD HPT rp hno
      go_wp2_with (go_at_call 116; refine (rdig_yes _ _ hD0 hD1).mono ?_; rintro e w ⟨rfl, rfl⟩)
      go_round
      case rel => exact ⟨i + 1, by omega, by go_num⟩
      case measure => simp [intOf]; omega
    · obtain rfl : i = k := by omega
      clear hi hlt
      go_wp2_with (go_at_call 116; refine (rdig_no _ _ hno).mono ?_; rintro e w ⟨rfl, rfl⟩)
      clear e1 e2 e3 e4 e5 e6 e7 rp hno
      go_loop [7, 8] (fun a b => ∃ q : Nat, q ≤ i ∧ b = .int .i64 q ∧ a = .int .i64 (valW 0 (T.data.toList.take q) : Int)) (fun _ b => i - (intOf b).toNat)
      case atStart => exact ⟨0, Nat.zero_le _, rfl, by simp [valW]⟩
      case round =>
        obtain ⟨q, hqi, rfl, rfl⟩ := hrel
        by_cases hlt2 : q < i
        · have hin : q < T.size := by omega
          obtain ⟨hD0, hD1⟩ := isD_yes (HDG.out q hin hlt2)
          have HN := take_step T q hin (HDG.out q hin hlt2)
          have hvi := HV.out q hqi
          have hii : (q : Int) < (T.size : Int) := by omega
          have hqq : (q : Int) < (i : Int) := by omega
          generalize (valW 0 (T.data.toList.take q) : Int) = v at *
          obtain ⟨hv0, hv1⟩ := hvi
          clear HG HBAD HV HPT
          go_wp2
          go_round
          case rel => exact ⟨q + 1, by omega, by go_num, by rw [HN.out]⟩
          case measure => simp [intOf]; omega
        · obtain rfl : q = i := by omega
          clear hqi hlt2
          have hvl : valW 0 (T.data.toList.take q) < 10000000000 := by have := (HV.out q (Nat.le_refl _)).2; omega
          have HVL : Hid (valW 0 (T.data.toList.take q) < 10000000000) := hvl
          have HGOOD : Hid ((∀ z, z < 6 → isD ((T.data.toList.drop (q + 1))[z]?.getD 48) = true) → R = endI true (frac (T.data.toList.drop (q + 1)) (valW 0 (T.data.toList.take q)) 6 : Int)) := HG
          clear HG hvl HV HDG
          generalize valW 0 (T.data.toList.take q) = v at *
          go_wp2
          go_loop [7, 9] (fun a b => ∃ j : Nat, j ≤ 6 ∧ b = .int .i64 j ∧ a = .int .i64 (frac (T.data.toList.drop (q + 1)) v j : Int) ∧ ∀ z, z < j → isD ((T.data.toList.drop (q + 1))[z]?.getD 48) = true) (fun _ b => 6 - (intOf b).toNat)
          case atStart => exact ⟨0, Nat.zero_le _, rfl, rfl, fun z h => absurd h (Nat.not_lt_zero _)⟩
          case round =>
            obtain ⟨j, hj, rfl, rfl, hall⟩ := hrel
            have HALL : Hid (∀ z, z < j → isD ((T.data.toList.drop (q + 1))[z]?.getD 48) = true) := hall
            clear hall
            have hpT := HPT.out
            by_cases hlt3 : j < 6
            · have hji : (j : Int) < 6 := by omega
              obtain ⟨hy0, hy1⟩ := frd_of HVL.out hlt3 HALL.out
              by_cases hpj : j < p
              · have hidx : q + 1 + j < T.size := by omega
                have hgd := drop_getD T q j hidx
                have c1 : (q : Int) + 1 + (j : Int) < (T.size : Int) := by omega
                have hpi : (j : Int) < (p : Int) := by omega
                by_cases hdg : isD (T[q + 1 + j]'hidx) = true
                · obtain ⟨hD0, hD1⟩ := isD_yes hdg
                  have HN := fracd_yes T q v j hidx hdg
                  have HA := all_next HALL.out (by rw [hgd]; exact hdg)
                  generalize (frac (T.data.toList.drop (q + 1)) v j : Int) = y at *
                  clear hgd hdg HALL HGOOD HBAD HVL HPT hpT hpj
                  go_wp2_with (go_at_call 116; refine (rdig_yes _ _ hD0 hD1).mono ?_; rintro e w ⟨rfl, rfl⟩)
                  go_round
                  case rel => exact ⟨j + 1, by omega, by go_num, by rw [HN.out], HA.out⟩
                  case measure => simp [intOf]; omega
                · have hdf : isD (T[q + 1 + j]'hidx) = false := by simpa using hdg
                  have hno2 := isD_no hdf
                  have HZ : Hid (R = (0, false)) := HBAD.out j hpj (by rw [hgd]; exact hdf)
                  generalize (frac (T.data.toList.drop (q + 1)) v j : Int) = y at *
                  clear hgd hdg hdf HALL HGOOD HBAD HVL HPT hpT hpj
                  go_wp2_with (go_at_call 116; refine (rdig_no _ _ hno2).mono ?_; rintro e w ⟨rfl, rfl⟩)
                  go_ret2
                  exact ⟨by rw [HZ.out]; rfl, rfl⟩
              · have hpi : ¬ ((j : Int) < (p : Int)) := by omega
                have HN := fracd_end T q v p j hpT (by omega)
                have HA := all_next HALL.out (by rw [getD_drop_none hpT (by omega)]; rfl)
                generalize (frac (T.data.toList.drop (q + 1)) v j : Int) = y at *
                clear HALL HGOOD HBAD HVL HPT hpT hpj
                go_wp2
                go_round
                case rel => exact ⟨j + 1, by omega, by go_num, by rw [HN.out], HA.out⟩
                case measure => simp [intOf]; omega
            · obtain rfl : j = 6 := by omega
              obtain ⟨hy0, hy2⟩ := frd6_of HVL.out HALL.out
              have HR : Hid (R = endI true (frac (T.data.toList.drop (q + 1)) v 6 : Int)) := HGOOD.out HALL.out
              generalize (frac (T.data.toList.drop (q + 1)) v 6 : Int) = y at *
              clear HALL HGOOD HBAD HVL HPT hpT hj hlt3
              by_cases hbig : 1000000000000000 < y
              · have d1 : decide ((1000000000000000 : Int) < y) = true := decide_eq_true hbig
                have HZ : Hid (R = (0, false)) := by show R = _; rw [HR.out]; unfold endI; simp [hbig]
                clear HR
                go_wp2
                go_ret2
                exact ⟨by rw [HZ.out]; rfl, rfl⟩
              · have d1 : decide ((1000000000000000 : Int) < y) = false := decide_eq_false hbig
                by_cases hz : y = 0
                · have d2 : (y == 0) = true := by rw [hz]; rfl
                  have HZ : Hid (R = (0, false)) := by show R = _; rw [HR.out]; unfold endI; simp [hz]
                  clear HR hz
                  go_wp2
                  go_ret2
                  exact ⟨by rw [HZ.out]; rfl, rfl⟩
                · have d2 : (y == 0) = false := by simpa using hz
                  have HZ : Hid (R = (-y, true)) := by show R = _; rw [HR.out]; unfold endI; simp [hz, hbig]
                  clear HR hz
                  go_wp2
                  go_ret2
                  exact ⟨by rw [HZ.out]; rfl, rfl⟩
end Go.Proofs.YtommhgmlblecnaaGreatDoor
namespace Go.Proofs.YtommhgmlblecnaaGreatDoor
open Go.RowKit

set_option maxRecDepth 100000 in
set_option maxHeartbeats 1600000 in
theorem rpD_f1 (s T : ByteArray) (k : Nat) (w : World) (R : Int × Bool) (hk : k ≤ T.size) (hTi : (T.size : Int) ≤ 9223372036854775807) (hp : 0 < s.size) (h45 : (s[0]'hp).toNat ≠ 45) (hT : s = T)
    (HDG : Hid (∀ i (h : i < T.size), i < k → isD (T[i]'h) = true)) (e1 : decide ((k : Int) < 1) = false) (e2 : decide (10 < (k : Int)) = false) (e3 : decide (1 < (k : Int)) = false) (hsz : k < T.size) (hno : ((T[k]'hsz).toNat : Int) < 48 ∨ 57 < ((T[k]'hsz).toNat : Int)) (e5 : (((T[k]'hsz).toNat : Int) != 46) = false) (p : Nat) (rp : (T.size : Int) - (k : Int) - 1 = (p : Int)) (e6 : decide ((p : Int) < 1) = false) (e7 : decide (6 < (p : Int)) = false)
         (HV : Hid (∀ q, q ≤ k → (0 : Int) ≤ (valW 0 (T.data.toList.take q) : Int) ∧ (valW 0 (T.data.toList.take q) : Int) < 10000000000))
         (HG : Hid ((∀ z, z < 6 → isD ((T.data.toList.drop (k + 1))[z]?.getD 48) = true) → R = endI false (frac (T.data.toList.drop (k + 1)) (valW 0 (T.data.toList.take k)) 6 : Int)))
         (HBAD : Hid (∀ z, z < p → isD ((T.data.toList.drop (k + 1))[z]?.getD 48) = false → R = (0, false))) :
    Calls Tryz.prog 81 #[.string s] w fun e w' => e = .returned (.tuple #[.int .i64 R.1, .bool R.2]) ∧ w' = w := by
  have HPT : Hid (k + 1 + p = T.size) := show k + 1 + p = T.size by omega
  have d0 : (0 : Int) < (s.size : Int) := by omega
  subst hT
  have d45 : (((s[0]'hp).toNat : Int) == 45) = false := by simp; omega
  clear h45
  have hszi : (k : Int) < (s.size : Int) := by omega
  go_enter Tryz.func81, Tryz.ntmps81
  go_wp2
  go_loop [5] (fun a => ∃ i : Nat, i ≤ k ∧ a = .int .i64 i) (fun a => k - (intOf a).toNat)
  case atStart => exact ⟨0, Nat.zero_le _, rfl⟩
  case round =>
    obtain ⟨i, hi, rfl⟩ := hrel
    by_cases hlt : i < k
    · have hin : i < s.size := by omega
      obtain ⟨hD0, hD1⟩ := isD_yes (HDG.out i hin hlt)
      have hii : (i : Int) < (s.size : Int) := by omega
      clear e1 e2 e3 e5 e6 e7 HV HG HBAD HPT rp hno
      go_wp2_with (go_at_call 116; refine (rdig_yes _ _ hD0 hD1).mono ?_; rintro e w ⟨rfl, rfl⟩)
      go_round
      case rel => exact ⟨i + 1, by omega, by go_num⟩
      case measure => simp [intOf]; omega
    · obtain rfl : i = k := by omega
      clear hi hlt
      go_wp2_with (go_at_call 116; refine (rdig_no _ _ hno).mono ?_; rintro e w ⟨rfl, rfl⟩)
      clear e1 e2 e3 e5 e6 e7 rp hno
      go_loop [7, 8] (fun a b => ∃ q : Nat, q ≤ i ∧ b = .int .i64 q ∧ a = .int .i64 (valW 0 (s.data.toList.take q) : Int)) (fun _ b => i - (intOf b).toNat)
      case atStart => exact ⟨0, Nat.zero_le _, rfl, by simp [valW]⟩
      case round =>
        obtain ⟨q, hqi, rfl, rfl⟩ := hrel
        by_cases hlt2 : q < i
        · have hin : q < s.size := by omega
          obtain ⟨hD0, hD1⟩ := isD_yes (HDG.out q hin hlt2)
          have HN := take_step s q hin (HDG.out q hin hlt2)
          have hvi := HV.out q hqi
          have hii : (q : Int) < (s.size : Int) := by omega
          have hqq : (q : Int) < (i : Int) := by omega
          generalize (valW 0 (s.data.toList.take q) : Int) = v at *
          obtain ⟨hv0, hv1⟩ := hvi
          clear HG HBAD HV HPT
          go_wp2
          go_round
          case rel => exact ⟨q + 1, by omega, by go_num, by rw [HN.out]⟩
          case measure => simp [intOf]; omega
        · obtain rfl : q = i := by omega
          clear hqi hlt2
          have hvl : valW 0 (s.data.toList.take q) < 10000000000 := by have := (HV.out q (Nat.le_refl _)).2; omega
          have HVL : Hid (valW 0 (s.data.toList.take q) < 10000000000) := hvl
          have HGOOD : Hid ((∀ z, z < 6 → isD ((s.data.toList.drop (q + 1))[z]?.getD 48) = true) → R = endI false (frac (s.data.toList.drop (q + 1)) (valW 0 (s.data.toList.take q)) 6 : Int)) := HG
          clear HG hvl HV HDG
          generalize valW 0 (s.data.toList.take q) = v at *
          go_wp2
          go_loop [7, 9] (fun a b => ∃ j : Nat, j ≤ 6 ∧ b = .int .i64 j ∧ a = .int .i64 (frac (s.data.toList.drop (q + 1)) v j : Int) ∧ ∀ z, z < j → isD ((s.data.toList.drop (q + 1))[z]?.getD 48) = true) (fun _ b => 6 - (intOf b).toNat)
          case atStart => exact ⟨0, Nat.zero_le _, rfl, rfl, fun z h => absurd h (Nat.not_lt_zero _)⟩
          case round =>
            obtain ⟨j, hj, rfl, rfl, hall⟩ := hrel
            have HALL : Hid (∀ z, z < j → isD ((s.data.toList.drop (q + 1))[z]?.getD 48) = true) := hall
            clear hall
            have hpT := HPT.out
            by_cases hlt3 : j < 6
            · have hji : (j : Int) < 6 := by omega
              obtain ⟨hy0, hy1⟩ := frd_of HVL.out hlt3 HALL.out
              by_cases hpj : j < p
              · have hidx : q + 1 + j < s.size := by omega
                have hgd := drop_getD s q j hidx
                have c1 : (q : Int) + 1 + (j : Int) < (s.size : Int) := by omega
                have hpi : (j : Int) < (p : Int) := by omega
                by_cases hdg : isD (s[q + 1 + j]'hidx) = true
                · obtain ⟨hD0, hD1⟩ := isD_yes hdg
                  have HN := fracd_yes s q v j hidx hdg
                  have HA := all_next HALL.out (by rw [hgd]; exact hdg)
                  generalize (frac (s.data.toList.drop (q + 1)) v j : Int) = y at *
                  clear hgd hdg HALL HGOOD HBAD HVL HPT hpT hpj
                  go_wp2_with (go_at_call 116; refine (rdig_yes _ _ hD0 hD1).mono ?_; rintro e w ⟨rfl, rfl⟩)
                  go_round
                  case rel => exact ⟨j + 1, by omega, by go_num, by rw [HN.out], HA.out⟩
                  case measure => simp [intOf]; omega
                · have hdf : isD (s[q + 1 + j]'hidx) = false := by simpa using hdg
                  have hno2 := isD_no hdf
                  have HZ : Hid (R = (0, false)) := HBAD.out j hpj (by rw [hgd]; exact hdf)
                  generalize (frac (s.data.toList.drop (q + 1)) v j : Int) = y at *
                  clear hgd hdg hdf HALL HGOOD HBAD HVL HPT hpT hpj
                  go_wp2_with (go_at_call 116; refine (rdig_no _ _ hno2).mono ?_; rintro e w ⟨rfl, rfl⟩)
                  go_ret2
                  exact ⟨by rw [HZ.out]; rfl, rfl⟩
              · have hpi : ¬ ((j : Int) < (p : Int)) := by omega
                have HN := fracd_end s q v p j hpT (by omega)
                have HA := all_next HALL.out (by rw [getD_drop_none hpT (by omega)]; rfl)
                generalize (frac (s.data.toList.drop (q + 1)) v j : Int) = y at *
                clear HALL HGOOD HBAD HVL HPT hpT hpj
                go_wp2
                go_round
                case rel => exact ⟨j + 1, by omega, by go_num, by rw [HN.out], HA.out⟩
                case measure => simp [intOf]; omega
            · obtain rfl : j = 6 := by omega
              obtain ⟨hy0, hy2⟩ := frd6_of HVL.out HALL.out
              have HR : Hid (R = endI false (frac (s.data.toList.drop (q + 1)) v 6 : Int)) := HGOOD.out HALL.out
              generalize (frac (s.data.toList.drop (q + 1)) v 6 : Int) = y at *
              clear HALL HGOOD HBAD HVL HPT hpT hj hlt3
              by_cases hbig : 1000000000000000 < y
              · have d1 : decide ((1000000000000000 : Int) < y) = true := decide_eq_true hbig
                have HZ : Hid (R = (0, false)) := by show R = _; rw [HR.out]; unfold endI; simp [hbig]
                clear HR
                go_wp2
                go_ret2
                exact ⟨by rw [HZ.out]; rfl, rfl⟩
              · have d1 : decide ((1000000000000000 : Int) < y) = false := decide_eq_false hbig
                have HZ : Hid (R = (y, true)) := by show R = _; rw [HR.out]; unfold endI; simp [hbig]
                clear HR
                go_wp2
                go_ret2
                exact ⟨by rw [HZ.out]; rfl, rfl⟩

set_option maxRecDepth 100000 in
set_option maxHeartbeats 1600000 in
theorem rpD_f2 (s T : ByteArray) (k : Nat) (w : World) (R : Int × Bool) (hk : k ≤ T.size) (hTi : (T.size : Int) ≤ 9223372036854775807) (hp : 0 < s.size) (h45 : (s[0]'hp).toNat ≠ 45) (hT : s = T)
    (HDG : Hid (∀ i (h : i < T.size), i < k → isD (T[i]'h) = true)) (e1 : decide ((k : Int) < 1) = false) (e2 : decide (10 < (k : Int)) = false) (e3 : decide (1 < (k : Int)) = true) (hT0 : 0 < T.size) (e4 : (((T[0]'hT0).toNat : Int) == 48) = false) (hsz : k < T.size) (hno : ((T[k]'hsz).toNat : Int) < 48 ∨ 57 < ((T[k]'hsz).toNat : Int)) (e5 : (((T[k]'hsz).toNat : Int) != 46) = false) (p : Nat) (rp : (T.size : Int) - (k : Int) - 1 = (p : Int)) (e6 : decide ((p : Int) < 1) = false) (e7 : decide (6 < (p : Int)) = false)
         (HV : Hid (∀ q, q ≤ k → (0 : Int) ≤ (valW 0 (T.data.toList.take q) : Int) ∧ (valW 0 (T.data.toList.take q) : Int) < 10000000000))
         (HG : Hid ((∀ z, z < 6 → isD ((T.data.toList.drop (k + 1))[z]?.getD 48) = true) → R = endI false (frac (T.data.toList.drop (k + 1)) (valW 0 (T.data.toList.take k)) 6 : Int)))
         (HBAD : Hid (∀ z, z < p → isD ((T.data.toList.drop (k + 1))[z]?.getD 48) = false → R = (0, false))) :
    Calls Tryz.prog 81 #[.string s] w fun e w' => e = .returned (.tuple #[.int .i64 R.1, .bool R.2]) ∧ w' = w := by
  have HPT : Hid (k + 1 + p = T.size) := show k + 1 + p = T.size by omega
  have d0 : (0 : Int) < (s.size : Int) := by omega
  subst hT
  have d45 : (((s[0]'hp).toNat : Int) == 45) = false := by simp; omega
  clear h45
  have hT0i : (0 : Int) < (s.size : Int) := by omega
  have hszi : (k : Int) < (s.size : Int) := by omega
  go_enter Tryz.func81, Tryz.ntmps81
  go_wp2
  go_loop [5] (fun a => ∃ i : Nat, i ≤ k ∧ a = .int .i64 i) (fun a => k - (intOf a).toNat)
  case atStart => exact ⟨0, Nat.zero_le _, rfl⟩
  case round =>
    obtain ⟨i, hi, rfl⟩ := hrel
    by_cases hlt : i < k
    · have hin : i < s.size := by omega
      obtain ⟨hD0, hD1⟩ := isD_yes (HDG.out i hin hlt)
      have hii : (i : Int) < (s.size : Int) := by omega
      clear e1 e2 e3 e4 e5 e6 e7 HV HG HBAD HPT rp hno
      go_wp2_with (go_at_call 116; refine (rdig_yes _ _ hD0 hD1).mono ?_; rintro e w ⟨rfl, rfl⟩)
      go_round
      case rel => exact ⟨i + 1, by omega, by go_num⟩
      case measure => simp [intOf]; omega
    · obtain rfl : i = k := by omega
      clear hi hlt
      go_wp2_with (go_at_call 116; refine (rdig_no _ _ hno).mono ?_; rintro e w ⟨rfl, rfl⟩)
      clear e1 e2 e3 e4 e5 e6 e7 rp hno
      go_loop [7, 8] (fun a b => ∃ q : Nat, q ≤ i ∧ b = .int .i64 q ∧ a = .int .i64 (valW 0 (s.data.toList.take q) : Int)) (fun _ b => i - (intOf b).toNat)
      case atStart => exact ⟨0, Nat.zero_le _, rfl, by simp [valW]⟩
      case round =>
        obtain ⟨q, hqi, rfl, rfl⟩ := hrel
        by_cases hlt2 : q < i
        · have hin : q < s.size := by omega
          obtain ⟨hD0, hD1⟩ := isD_yes (HDG.out q hin hlt2)
          have HN := take_step s q hin (HDG.out q hin hlt2)
          have hvi := HV.out q hqi
          have hii : (q : Int) < (s.size : Int) := by omega
          have hqq : (q : Int) < (i : Int) := by omega
          generalize (valW 0 (s.data.toList.take q) : Int) = v at *
          obtain ⟨hv0, hv1⟩ := hvi
          clear HG HBAD HV HPT
          go_wp2
          go_round
          case rel => exact ⟨q + 1, by omega, by go_num, by rw [HN.out]⟩
          case measure => simp [intOf]; omega
        · obtain rfl : q = i := by omega
          clear hqi hlt2
          have hvl : valW 0 (s.data.toList.take q) < 10000000000 := by have := (HV.out q (Nat.le_refl _)).2; omega
          have HVL : Hid (valW 0 (s.data.toList.take q) < 10000000000) := hvl
          have HGOOD : Hid ((∀ z, z < 6 → isD ((s.data.toList.drop (q + 1))[z]?.getD 48) = true) → R = endI false (frac (s.data.toList.drop (q + 1)) (valW 0 (s.data.toList.take q)) 6 : Int)) := HG
          clear HG hvl HV HDG
          generalize valW 0 (s.data.toList.take q) = v at *
          go_wp2
          go_loop [7, 9] (fun a b => ∃ j : Nat, j ≤ 6 ∧ b = .int .i64 j ∧ a = .int .i64 (frac (s.data.toList.drop (q + 1)) v j : Int) ∧ ∀ z, z < j → isD ((s.data.toList.drop (q + 1))[z]?.getD 48) = true) (fun _ b => 6 - (intOf b).toNat)
          case atStart => exact ⟨0, Nat.zero_le _, rfl, rfl, fun z h => absurd h (Nat.not_lt_zero _)⟩
          case round =>
            obtain ⟨j, hj, rfl, rfl, hall⟩ := hrel
            have HALL : Hid (∀ z, z < j → isD ((s.data.toList.drop (q + 1))[z]?.getD 48) = true) := hall
            clear hall
            have hpT := HPT.out
            by_cases hlt3 : j < 6
            · have hji : (j : Int) < 6 := by omega
              obtain ⟨hy0, hy1⟩ := frd_of HVL.out hlt3 HALL.out
              by_cases hpj : j < p
              · have hidx : q + 1 + j < s.size := by omega
                have hgd := drop_getD s q j hidx
                have c1 : (q : Int) + 1 + (j : Int) < (s.size : Int) := by omega
                have hpi : (j : Int) < (p : Int) := by omega
                by_cases hdg : isD (s[q + 1 + j]'hidx) = true
                · obtain ⟨hD0, hD1⟩ := isD_yes hdg
                  have HN := fracd_yes s q v j hidx hdg
                  have HA := all_next HALL.out (by rw [hgd]; exact hdg)
                  generalize (frac (s.data.toList.drop (q + 1)) v j : Int) = y at *
                  clear hgd hdg HALL HGOOD HBAD HVL HPT hpT hpj
                  go_wp2_with (go_at_call 116; refine (rdig_yes _ _ hD0 hD1).mono ?_; rintro e w ⟨rfl, rfl⟩)
                  go_round
                  case rel => exact ⟨j + 1, by omega, by go_num, by rw [HN.out], HA.out⟩
                  case measure => simp [intOf]; omega
                · have hdf : isD (s[q + 1 + j]'hidx) = false := by simpa using hdg
                  have hno2 := isD_no hdf
                  have HZ : Hid (R = (0, false)) := HBAD.out j hpj (by rw [hgd]; exact hdf)
                  generalize (frac (s.data.toList.drop (q + 1)) v j : Int) = y at *
                  clear hgd hdg hdf HALL HGOOD HBAD HVL HPT hpT hpj
                  go_wp2_with (go_at_call 116; refine (rdig_no _ _ hno2).mono ?_; rintro e w ⟨rfl, rfl⟩)
                  go_ret2
                  exact ⟨by rw [HZ.out]; rfl, rfl⟩
              · have hpi : ¬ ((j : Int) < (p : Int)) := by omega
                have HN := fracd_end s q v p j hpT (by omega)
                have HA := all_next HALL.out (by rw [getD_drop_none hpT (by omega)]; rfl)
                generalize (frac (s.data.toList.drop (q + 1)) v j : Int) = y at *
                clear HALL HGOOD HBAD HVL HPT hpT hpj
                go_wp2
                go_round
                case rel => exact ⟨j + 1, by omega, by go_num, by rw [HN.out], HA.out⟩
                case measure => simp [intOf]; omega
            · obtain rfl : j = 6 := by omega
              obtain ⟨hy0, hy2⟩ := frd6_of HVL.out HALL.out
              have HR : Hid (R = endI false (frac (s.data.toList.drop (q + 1)) v 6 : Int)) := HGOOD.out HALL.out
              generalize (frac (s.data.toList.drop (q + 1)) v 6 : Int) = y at *
              clear HALL HGOOD HBAD HVL HPT hpT hj hlt3
              by_cases hbig : 1000000000000000 < y
              · have d1 : decide ((1000000000000000 : Int) < y) = true := decide_eq_true hbig
                have HZ : Hid (R = (0, false)) := by show R = _; rw [HR.out]; unfold endI; simp [hbig]
                clear HR
                go_wp2
                go_ret2
                exact ⟨by rw [HZ.out]; rfl, rfl⟩
              · have d1 : decide ((1000000000000000 : Int) < y) = false := decide_eq_false hbig
                have HZ : Hid (R = (y, true)) := by show R = _; rw [HR.out]; unfold endI; simp [hbig]
                clear HR
                go_wp2
                go_ret2
                exact ⟨by rw [HZ.out]; rfl, rfl⟩
end Go.Proofs.YtommhgmlblecnaaGreatDoor
namespace Go.Proofs.YtommhgmlblecnaaGreatDoor
open Go.RowKit

set_option maxRecDepth 100000 in
set_option maxHeartbeats 1600000 in
theorem rpB1h_t (s T : ByteArray) (k : Nat) (w : World) (R : Int × Bool) (hk : k ≤ T.size) (hTi : (T.size : Int) ≤ 9223372036854775807) (hp : 0 < s.size) (h45 : (s[0]'hp).toNat = 45) (hT : s.extract 1 s.size = T)
    (HDG : Hid (∀ i (h : i < T.size), i < k → isD (T[i]'h) = true)) (e1 : decide ((k : Int) < 1) = true) (hsz : k < T.size) (hno : ((T[k]'hsz).toNat : Int) < 48 ∨ 57 < ((T[k]'hsz).toNat : Int)) (HZ : Hid (R = (0, false))) :
    Calls Tryz.prog 81 #[.string s] w fun e w' => e = .returned (.tuple #[.int .i64 R.1, .bool R.2]) ∧ w' = w := by
  have d0 : (0 : Int) < (s.size : Int) := by omega
  have d45 : (((s[0]'hp).toNat : Int) == 45) = true := by rw [h45]; rfl
  have s1 : (1 : Int) ≤ (s.size : Int) := by omega
  clear h45
  have hszi : (k : Int) < (T.size : Int) := by omega
  go_enter Tryz.func81, Tryz.ntmps81
  go_wp2
  go_loop [5] (fun a => ∃ i : Nat, i ≤ k ∧ a = .int .i64 i) (fun a => k - (intOf a).toNat)
  case atStart => exact ⟨0, Nat.zero_le _, rfl⟩
  case round =>
    obtain ⟨i, hi, rfl⟩ := hrel
    by_cases hlt : i < k
    · have hin : i < T.size := by omega
      obtain ⟨hD0, hD1⟩ := isD_yes (HDG.out i hin hlt)
      have hii : (i : Int) < (T.size : Int) := by omega
      clear e1 HZ hno
      go_wp2_with (go_at_call 116; refine (rdig_yes _ _ hD0 hD1).mono ?_; rintro e w ⟨rfl, rfl⟩)
      go_round
      case rel => exact ⟨i + 1, by omega, by go_num⟩
      case measure => simp [intOf]; omega
    · obtain rfl : i = k := by omega
      clear hi hlt
      go_wp2_with (go_at_call 116; refine (rdig_no _ _ hno).mono ?_; rintro e w ⟨rfl, rfl⟩)
      go_ret2
      exact ⟨by rw [HZ.out]; rfl, rfl⟩

set_option maxRecDepth 100000 in
set_option maxHeartbeats 1600000 in
theorem rpB2h_t (s T : ByteArray) (k : Nat) (w : World) (R : Int × Bool) (hk : k ≤ T.size) (hTi : (T.size : Int) ≤ 9223372036854775807) (hp : 0 < s.size) (h45 : (s[0]'hp).toNat = 45) (hT : s.extract 1 s.size = T)
    (HDG : Hid (∀ i (h : i < T.size), i < k → isD (T[i]'h) = true)) (e1 : decide ((k : Int) < 1) = false) (e2 : decide (10 < (k : Int)) = true) (hsz : k < T.size) (hno : ((T[k]'hsz).toNat : Int) < 48 ∨ 57 < ((T[k]'hsz).toNat : Int)) (HZ : Hid (R = (0, false))) :
    Calls Tryz.prog 81 #[.string s] w fun e w' => e = .returned (.tuple #[.int .i64 R.1, .bool R.2]) ∧ w' = w := by
  have d0 : (0 : Int) < (s.size : Int) := by omega
  have d45 : (((s[0]'hp).toNat : Int) == 45) = true := by rw [h45]; rfl
  have s1 : (1 : Int) ≤ (s.size : Int) := by omega
  clear h45
  have hszi : (k : Int) < (T.size : Int) := by omega
  go_enter Tryz.func81, Tryz.ntmps81
  go_wp2
  go_loop [5] (fun a => ∃ i : Nat, i ≤ k ∧ a = .int .i64 i) (fun a => k - (intOf a).toNat)
  case atStart => exact ⟨0, Nat.zero_le _, rfl⟩
  case round =>
    obtain ⟨i, hi, rfl⟩ := hrel
    by_cases hlt : i < k
    · have hin : i < T.size := by omega
      obtain ⟨hD0, hD1⟩ := isD_yes (HDG.out i hin hlt)
      have hii : (i : Int) < (T.size : Int) := by omega
      clear e1 e2 HZ hno
      go_wp2_with (go_at_call 116; refine (rdig_yes _ _ hD0 hD1).mono ?_; rintro e w ⟨rfl, rfl⟩)
      go_round
      case rel => exact ⟨i + 1, by omega, by go_num⟩
      case measure => simp [intOf]; omega
    · obtain rfl : i = k := by omega
      clear hi hlt
      go_wp2_with (go_at_call 116; refine (rdig_no _ _ hno).mono ?_; rintro e w ⟨rfl, rfl⟩)
      go_ret2
      exact ⟨by rw [HZ.out]; rfl, rfl⟩

set_option maxRecDepth 100000 in
set_option maxHeartbeats 1600000 in
theorem rpB3h_t (s T : ByteArray) (k : Nat) (w : World) (R : Int × Bool) (hk : k ≤ T.size) (hTi : (T.size : Int) ≤ 9223372036854775807) (hp : 0 < s.size) (h45 : (s[0]'hp).toNat = 45) (hT : s.extract 1 s.size = T)
    (HDG : Hid (∀ i (h : i < T.size), i < k → isD (T[i]'h) = true)) (e1 : decide ((k : Int) < 1) = false) (e2 : decide (10 < (k : Int)) = false) (e3 : decide (1 < (k : Int)) = true) (hT0 : 0 < T.size) (e4 : (((T[0]'hT0).toNat : Int) == 48) = true) (hsz : k < T.size) (hno : ((T[k]'hsz).toNat : Int) < 48 ∨ 57 < ((T[k]'hsz).toNat : Int)) (HZ : Hid (R = (0, false))) :
    Calls Tryz.prog 81 #[.string s] w fun e w' => e = .returned (.tuple #[.int .i64 R.1, .bool R.2]) ∧ w' = w := by
  have d0 : (0 : Int) < (s.size : Int) := by omega
  have d45 : (((s[0]'hp).toNat : Int) == 45) = true := by rw [h45]; rfl
  have s1 : (1 : Int) ≤ (s.size : Int) := by omega
  clear h45
  have hT0i : (0 : Int) < (T.size : Int) := by omega
  have hszi : (k : Int) < (T.size : Int) := by omega
  go_enter Tryz.func81, Tryz.ntmps81
  go_wp2
  go_loop [5] (fun a => ∃ i : Nat, i ≤ k ∧ a = .int .i64 i) (fun a => k - (intOf a).toNat)
  case atStart => exact ⟨0, Nat.zero_le _, rfl⟩
  case round =>
    obtain ⟨i, hi, rfl⟩ := hrel
    by_cases hlt : i < k
    · have hin : i < T.size := by omega
      obtain ⟨hD0, hD1⟩ := isD_yes (HDG.out i hin hlt)
      have hii : (i : Int) < (T.size : Int) := by omega
      clear e1 e2 e3 e4 HZ hno
      go_wp2_with (go_at_call 116; refine (rdig_yes _ _ hD0 hD1).mono ?_; rintro e w ⟨rfl, rfl⟩)
      go_round
      case rel => exact ⟨i + 1, by omega, by go_num⟩
      case measure => simp [intOf]; omega
    · obtain rfl : i = k := by omega
      clear hi hlt
      go_wp2_with (go_at_call 116; refine (rdig_no _ _ hno).mono ?_; rintro e w ⟨rfl, rfl⟩)
      go_ret2
      exact ⟨by rw [HZ.out]; rfl, rfl⟩

set_option maxRecDepth 100000 in
set_option maxHeartbeats 1600000 in
theorem rpB1n_t (s T : ByteArray) (k : Nat) (w : World) (R : Int × Bool) (hk : k ≤ T.size) (hTi : (T.size : Int) ≤ 9223372036854775807) (hp : 0 < s.size) (h45 : (s[0]'hp).toNat = 45) (hT : s.extract 1 s.size = T)
    (HDG : Hid (∀ i (h : i < T.size), i < k → isD (T[i]'h) = true)) (e1 : decide ((k : Int) < 1) = true) (hkT : T.size ≤ k) (HZ : Hid (R = (0, false))) :
    Calls Tryz.prog 81 #[.string s] w fun e w' => e = .returned (.tuple #[.int .i64 R.1, .bool R.2]) ∧ w' = w := by
  have d0 : (0 : Int) < (s.size : Int) := by omega
  have d45 : (((s[0]'hp).toNat : Int) == 45) = true := by rw [h45]; rfl
  have s1 : (1 : Int) ≤ (s.size : Int) := by omega
  clear h45
  go_enter Tryz.func81, Tryz.ntmps81
  go_wp2
  go_loop [5] (fun a => ∃ i : Nat, i ≤ k ∧ a = .int .i64 i) (fun a => k - (intOf a).toNat)
  case atStart => exact ⟨0, Nat.zero_le _, rfl⟩
  case round =>
    obtain ⟨i, hi, rfl⟩ := hrel
    by_cases hlt : i < k
    · have hin : i < T.size := by omega
      obtain ⟨hD0, hD1⟩ := isD_yes (HDG.out i hin hlt)
      have hii : (i : Int) < (T.size : Int) := by omega
      clear e1 HZ
      go_wp2_with (go_at_call 116; refine (rdig_yes _ _ hD0 hD1).mono ?_; rintro e w ⟨rfl, rfl⟩)
      go_round
      case rel => exact ⟨i + 1, by omega, by go_num⟩
      case measure => simp [intOf]; omega
    · obtain rfl : i = k := by omega
      clear hi hlt
      have hszi : ¬ ((i : Int) < (T.size : Int)) := by omega
      go_wp2
      go_ret2
      exact ⟨by rw [HZ.out]; rfl, rfl⟩

set_option maxRecDepth 100000 in
set_option maxHeartbeats 1600000 in
theorem rpB2n_t (s T : ByteArray) (k : Nat) (w : World) (R : Int × Bool) (hk : k ≤ T.size) (hTi : (T.size : Int) ≤ 9223372036854775807) (hp : 0 < s.size) (h45 : (s[0]'hp).toNat = 45) (hT : s.extract 1 s.size = T)
    (HDG : Hid (∀ i (h : i < T.size), i < k → isD (T[i]'h) = true)) (e1 : decide ((k : Int) < 1) = false) (e2 : decide (10 < (k : Int)) = true) (hkT : T.size ≤ k) (HZ : Hid (R = (0, false))) :
    Calls Tryz.prog 81 #[.string s] w fun e w' => e = .returned (.tuple #[.int .i64 R.1, .bool R.2]) ∧ w' = w := by
  have d0 : (0 : Int) < (s.size : Int) := by omega
  have d45 : (((s[0]'hp).toNat : Int) == 45) = true := by rw [h45]; rfl
  have s1 : (1 : Int) ≤ (s.size : Int) := by omega
  clear h45
  go_enter Tryz.func81, Tryz.ntmps81
  go_wp2
  go_loop [5] (fun a => ∃ i : Nat, i ≤ k ∧ a = .int .i64 i) (fun a => k - (intOf a).toNat)
  case atStart => exact ⟨0, Nat.zero_le _, rfl⟩
  case round =>
    obtain ⟨i, hi, rfl⟩ := hrel
    by_cases hlt : i < k
    · have hin : i < T.size := by omega
      obtain ⟨hD0, hD1⟩ := isD_yes (HDG.out i hin hlt)
      have hii : (i : Int) < (T.size : Int) := by omega
      clear e1 e2 HZ
      go_wp2_with (go_at_call 116; refine (rdig_yes _ _ hD0 hD1).mono ?_; rintro e w ⟨rfl, rfl⟩)
      go_round
      case rel => exact ⟨i + 1, by omega, by go_num⟩
      case measure => simp [intOf]; omega
    · obtain rfl : i = k := by omega
      clear hi hlt
      have hszi : ¬ ((i : Int) < (T.size : Int)) := by omega
      go_wp2
      go_ret2
      exact ⟨by rw [HZ.out]; rfl, rfl⟩

set_option maxRecDepth 100000 in
set_option maxHeartbeats 1600000 in
theorem rpB3n_t (s T : ByteArray) (k : Nat) (w : World) (R : Int × Bool) (hk : k ≤ T.size) (hTi : (T.size : Int) ≤ 9223372036854775807) (hp : 0 < s.size) (h45 : (s[0]'hp).toNat = 45) (hT : s.extract 1 s.size = T)
    (HDG : Hid (∀ i (h : i < T.size), i < k → isD (T[i]'h) = true)) (e1 : decide ((k : Int) < 1) = false) (e2 : decide (10 < (k : Int)) = false) (e3 : decide (1 < (k : Int)) = true) (hT0 : 0 < T.size) (e4 : (((T[0]'hT0).toNat : Int) == 48) = true) (hkT : T.size ≤ k) (HZ : Hid (R = (0, false))) :
    Calls Tryz.prog 81 #[.string s] w fun e w' => e = .returned (.tuple #[.int .i64 R.1, .bool R.2]) ∧ w' = w := by
  have d0 : (0 : Int) < (s.size : Int) := by omega
  have d45 : (((s[0]'hp).toNat : Int) == 45) = true := by rw [h45]; rfl
  have s1 : (1 : Int) ≤ (s.size : Int) := by omega
  clear h45
  have hT0i : (0 : Int) < (T.size : Int) := by omega
  go_enter Tryz.func81, Tryz.ntmps81
  go_wp2
  go_loop [5] (fun a => ∃ i : Nat, i ≤ k ∧ a = .int .i64 i) (fun a => k - (intOf a).toNat)
  case atStart => exact ⟨0, Nat.zero_le _, rfl⟩
  case round =>
    obtain ⟨i, hi, rfl⟩ := hrel
    by_cases hlt : i < k
    · have hin : i < T.size := by omega
      obtain ⟨hD0, hD1⟩ := isD_yes (HDG.out i hin hlt)
      have hii : (i : Int) < (T.size : Int) := by omega
      clear e1 e2 e3 e4 HZ
      go_wp2_with (go_at_call 116; refine (rdig_yes _ _ hD0 hD1).mono ?_; rintro e w ⟨rfl, rfl⟩)
      go_round
      case rel => exact ⟨i + 1, by omega, by go_num⟩
      case measure => simp [intOf]; omega
    · obtain rfl : i = k := by omega
      clear hi hlt
      have hszi : ¬ ((i : Int) < (T.size : Int)) := by omega
      go_wp2
      go_ret2
      exact ⟨by rw [HZ.out]; rfl, rfl⟩
end Go.Proofs.YtommhgmlblecnaaGreatDoor
namespace Go.Proofs.YtommhgmlblecnaaGreatDoor
open Go.RowKit

set_option maxRecDepth 100000 in
set_option maxHeartbeats 1600000 in
theorem rpB1h_f (s T : ByteArray) (k : Nat) (w : World) (R : Int × Bool) (hk : k ≤ T.size) (hTi : (T.size : Int) ≤ 9223372036854775807) (hp : 0 < s.size) (h45 : (s[0]'hp).toNat ≠ 45) (hT : s = T)
    (HDG : Hid (∀ i (h : i < T.size), i < k → isD (T[i]'h) = true)) (e1 : decide ((k : Int) < 1) = true) (hsz : k < T.size) (hno : ((T[k]'hsz).toNat : Int) < 48 ∨ 57 < ((T[k]'hsz).toNat : Int)) (HZ : Hid (R = (0, false))) :
    Calls Tryz.prog 81 #[.string s] w fun e w' => e = .returned (.tuple #[.int .i64 R.1, .bool R.2]) ∧ w' = w := by
  have d0 : (0 : Int) < (s.size : Int) := by omega
  subst hT
  have d45 : (((s[0]'hp).toNat : Int) == 45) = false := by simp; omega
  clear h45
  have hszi : (k : Int) < (s.size : Int) := by omega
  go_enter Tryz.func81, Tryz.ntmps81
  go_wp2
  go_loop [5] (fun a => ∃ i : Nat, i ≤ k ∧ a = .int .i64 i) (fun a => k - (intOf a).toNat)
  case atStart => exact ⟨0, Nat.zero_le _, rfl⟩
  case round =>
    obtain ⟨i, hi, rfl⟩ := hrel
    by_cases hlt : i < k
    · have hin : i < s.size := by omega
      obtain ⟨hD0, hD1⟩ := isD_yes (HDG.out i hin hlt)
      have hii : (i : Int) < (s.size : Int) := by omega
      clear e1 HZ hno
      go_wp2_with (go_at_call 116; refine (rdig_yes _ _ hD0 hD1).mono ?_; rintro e w ⟨rfl, rfl⟩)
      go_round
      case rel => exact ⟨i + 1, by omega, by go_num⟩
      case measure => simp [intOf]; omega
    · obtain rfl : i = k := by omega
      clear hi hlt
      go_wp2_with (go_at_call 116; refine (rdig_no _ _ hno).mono ?_; rintro e w ⟨rfl, rfl⟩)
      go_ret2
      exact ⟨by rw [HZ.out]; rfl, rfl⟩

set_option maxRecDepth 100000 in
set_option maxHeartbeats 1600000 in
theorem rpB2h_f (s T : ByteArray) (k : Nat) (w : World) (R : Int × Bool) (hk : k ≤ T.size) (hTi : (T.size : Int) ≤ 9223372036854775807) (hp : 0 < s.size) (h45 : (s[0]'hp).toNat ≠ 45) (hT : s = T)
    (HDG : Hid (∀ i (h : i < T.size), i < k → isD (T[i]'h) = true)) (e1 : decide ((k : Int) < 1) = false) (e2 : decide (10 < (k : Int)) = true) (hsz : k < T.size) (hno : ((T[k]'hsz).toNat : Int) < 48 ∨ 57 < ((T[k]'hsz).toNat : Int)) (HZ : Hid (R = (0, false))) :
    Calls Tryz.prog 81 #[.string s] w fun e w' => e = .returned (.tuple #[.int .i64 R.1, .bool R.2]) ∧ w' = w := by
  have d0 : (0 : Int) < (s.size : Int) := by omega
  subst hT
  have d45 : (((s[0]'hp).toNat : Int) == 45) = false := by simp; omega
  clear h45
  have hszi : (k : Int) < (s.size : Int) := by omega
  go_enter Tryz.func81, Tryz.ntmps81
  go_wp2
  go_loop [5] (fun a => ∃ i : Nat, i ≤ k ∧ a = .int .i64 i) (fun a => k - (intOf a).toNat)
  case atStart => exact ⟨0, Nat.zero_le _, rfl⟩
  case round =>
    obtain ⟨i, hi, rfl⟩ := hrel
    by_cases hlt : i < k
    · have hin : i < s.size := by omega
      obtain ⟨hD0, hD1⟩ := isD_yes (HDG.out i hin hlt)
      have hii : (i : Int) < (s.size : Int) := by omega
      clear e1 e2 HZ hno
      go_wp2_with (go_at_call 116; refine (rdig_yes _ _ hD0 hD1).mono ?_; rintro e w ⟨rfl, rfl⟩)
      go_round
      case rel => exact ⟨i + 1, by omega, by go_num⟩
      case measure => simp [intOf]; omega
    · obtain rfl : i = k := by omega
      clear hi hlt
      go_wp2_with (go_at_call 116; refine (rdig_no _ _ hno).mono ?_; rintro e w ⟨rfl, rfl⟩)
      go_ret2
      exact ⟨by rw [HZ.out]; rfl, rfl⟩

set_option maxRecDepth 100000 in
set_option maxHeartbeats 1600000 in
theorem rpB3h_f (s T : ByteArray) (k : Nat) (w : World) (R : Int × Bool) (hk : k ≤ T.size) (hTi : (T.size : Int) ≤ 9223372036854775807) (hp : 0 < s.size) (h45 : (s[0]'hp).toNat ≠ 45) (hT : s = T)
    (HDG : Hid (∀ i (h : i < T.size), i < k → isD (T[i]'h) = true)) (e1 : decide ((k : Int) < 1) = false) (e2 : decide (10 < (k : Int)) = false) (e3 : decide (1 < (k : Int)) = true) (hT0 : 0 < T.size) (e4 : (((T[0]'hT0).toNat : Int) == 48) = true) (hsz : k < T.size) (hno : ((T[k]'hsz).toNat : Int) < 48 ∨ 57 < ((T[k]'hsz).toNat : Int)) (HZ : Hid (R = (0, false))) :
    Calls Tryz.prog 81 #[.string s] w fun e w' => e = .returned (.tuple #[.int .i64 R.1, .bool R.2]) ∧ w' = w := by
  have d0 : (0 : Int) < (s.size : Int) := by omega
  subst hT
  have d45 : (((s[0]'hp).toNat : Int) == 45) = false := by simp; omega
  clear h45
  have hT0i : (0 : Int) < (s.size : Int) := by omega
  have hszi : (k : Int) < (s.size : Int) := by omega
  go_enter Tryz.func81, Tryz.ntmps81
  go_wp2
  go_loop [5] (fun a => ∃ i : Nat, i ≤ k ∧ a = .int .i64 i) (fun a => k - (intOf a).toNat)
  case atStart => exact ⟨0, Nat.zero_le _, rfl⟩
  case round =>
    obtain ⟨i, hi, rfl⟩ := hrel
    by_cases hlt : i < k
    · have hin : i < s.size := by omega
      obtain ⟨hD0, hD1⟩ := isD_yes (HDG.out i hin hlt)
      have hii : (i : Int) < (s.size : Int) := by omega
      clear e1 e2 e3 e4 HZ hno
      go_wp2_with (go_at_call 116; refine (rdig_yes _ _ hD0 hD1).mono ?_; rintro e w ⟨rfl, rfl⟩)
      go_round
      case rel => exact ⟨i + 1, by omega, by go_num⟩
      case measure => simp [intOf]; omega
    · obtain rfl : i = k := by omega
      clear hi hlt
      go_wp2_with (go_at_call 116; refine (rdig_no _ _ hno).mono ?_; rintro e w ⟨rfl, rfl⟩)
      go_ret2
      exact ⟨by rw [HZ.out]; rfl, rfl⟩

set_option maxRecDepth 100000 in
set_option maxHeartbeats 1600000 in
theorem rpB1n_f (s T : ByteArray) (k : Nat) (w : World) (R : Int × Bool) (hk : k ≤ T.size) (hTi : (T.size : Int) ≤ 9223372036854775807) (hp : 0 < s.size) (h45 : (s[0]'hp).toNat ≠ 45) (hT : s = T)
    (HDG : Hid (∀ i (h : i < T.size), i < k → isD (T[i]'h) = true)) (e1 : decide ((k : Int) < 1) = true) (hkT : T.size ≤ k) (HZ : Hid (R = (0, false))) :
    Calls Tryz.prog 81 #[.string s] w fun e w' => e = .returned (.tuple #[.int .i64 R.1, .bool R.2]) ∧ w' = w := by
  have d0 : (0 : Int) < (s.size : Int) := by omega
  subst hT
  have d45 : (((s[0]'hp).toNat : Int) == 45) = false := by simp; omega
  clear h45
  go_enter Tryz.func81, Tryz.ntmps81
  go_wp2
  go_loop [5] (fun a => ∃ i : Nat, i ≤ k ∧ a = .int .i64 i) (fun a => k - (intOf a).toNat)
  case atStart => exact ⟨0, Nat.zero_le _, rfl⟩
  case round =>
    obtain ⟨i, hi, rfl⟩ := hrel
    by_cases hlt : i < k
    · have hin : i < s.size := by omega
      obtain ⟨hD0, hD1⟩ := isD_yes (HDG.out i hin hlt)
      have hii : (i : Int) < (s.size : Int) := by omega
      clear e1 HZ
      go_wp2_with (go_at_call 116; refine (rdig_yes _ _ hD0 hD1).mono ?_; rintro e w ⟨rfl, rfl⟩)
      go_round
      case rel => exact ⟨i + 1, by omega, by go_num⟩
      case measure => simp [intOf]; omega
    · obtain rfl : i = k := by omega
      clear hi hlt
      have hszi : ¬ ((i : Int) < (s.size : Int)) := by omega
      go_wp2
      go_ret2
      exact ⟨by rw [HZ.out]; rfl, rfl⟩

set_option maxRecDepth 100000 in
set_option maxHeartbeats 1600000 in
theorem rpB2n_f (s T : ByteArray) (k : Nat) (w : World) (R : Int × Bool) (hk : k ≤ T.size) (hTi : (T.size : Int) ≤ 9223372036854775807) (hp : 0 < s.size) (h45 : (s[0]'hp).toNat ≠ 45) (hT : s = T)
    (HDG : Hid (∀ i (h : i < T.size), i < k → isD (T[i]'h) = true)) (e1 : decide ((k : Int) < 1) = false) (e2 : decide (10 < (k : Int)) = true) (hkT : T.size ≤ k) (HZ : Hid (R = (0, false))) :
    Calls Tryz.prog 81 #[.string s] w fun e w' => e = .returned (.tuple #[.int .i64 R.1, .bool R.2]) ∧ w' = w := by
  have d0 : (0 : Int) < (s.size : Int) := by omega
  subst hT
  have d45 : (((s[0]'hp).toNat : Int) == 45) = false := by simp; omega
  clear h45
  go_enter Tryz.func81, Tryz.ntmps81
  go_wp2
  go_loop [5] (fun a => ∃ i : Nat, i ≤ k ∧ a = .int .i64 i) (fun a => k - (intOf a).toNat)
  case atStart => exact ⟨0, Nat.zero_le _, rfl⟩
  case round =>
    obtain ⟨i, hi, rfl⟩ := hrel
    by_cases hlt : i < k
    · have hin : i < s.size := by omega
      obtain ⟨hD0, hD1⟩ := isD_yes (HDG.out i hin hlt)
      have hii : (i : Int) < (s.size : Int) := by omega
      clear e1 e2 HZ
      go_wp2_with (go_at_call 116; refine (rdig_yes _ _ hD0 hD1).mono ?_; rintro e w ⟨rfl, rfl⟩)
      go_round
      case rel => exact ⟨i + 1, by omega, by go_num⟩
      case measure => simp [intOf]; omega
    · obtain rfl : i = k := by omega
      clear hi hlt
      have hszi : ¬ ((i : Int) < (s.size : Int)) := by omega
      go_wp2
      go_ret2
      exact ⟨by rw [HZ.out]; rfl, rfl⟩

set_option maxRecDepth 100000 in
set_option maxHeartbeats 1600000 in
theorem rpB3n_f (s T : ByteArray) (k : Nat) (w : World) (R : Int × Bool) (hk : k ≤ T.size) (hTi : (T.size : Int) ≤ 9223372036854775807) (hp : 0 < s.size) (h45 : (s[0]'hp).toNat ≠ 45) (hT : s = T)
    (HDG : Hid (∀ i (h : i < T.size), i < k → isD (T[i]'h) = true)) (e1 : decide ((k : Int) < 1) = false) (e2 : decide (10 < (k : Int)) = false) (e3 : decide (1 < (k : Int)) = true) (hT0 : 0 < T.size) (e4 : (((T[0]'hT0).toNat : Int) == 48) = true) (hkT : T.size ≤ k) (HZ : Hid (R = (0, false))) :
    Calls Tryz.prog 81 #[.string s] w fun e w' => e = .returned (.tuple #[.int .i64 R.1, .bool R.2]) ∧ w' = w := by
  have d0 : (0 : Int) < (s.size : Int) := by omega
  subst hT
  have d45 : (((s[0]'hp).toNat : Int) == 45) = false := by simp; omega
  clear h45
  have hT0i : (0 : Int) < (s.size : Int) := by omega
  go_enter Tryz.func81, Tryz.ntmps81
  go_wp2
  go_loop [5] (fun a => ∃ i : Nat, i ≤ k ∧ a = .int .i64 i) (fun a => k - (intOf a).toNat)
  case atStart => exact ⟨0, Nat.zero_le _, rfl⟩
  case round =>
    obtain ⟨i, hi, rfl⟩ := hrel
    by_cases hlt : i < k
    · have hin : i < s.size := by omega
      obtain ⟨hD0, hD1⟩ := isD_yes (HDG.out i hin hlt)
      have hii : (i : Int) < (s.size : Int) := by omega
      clear e1 e2 e3 e4 HZ
      go_wp2_with (go_at_call 116; refine (rdig_yes _ _ hD0 hD1).mono ?_; rintro e w ⟨rfl, rfl⟩)
      go_round
      case rel => exact ⟨i + 1, by omega, by go_num⟩
      case measure => simp [intOf]; omega
    · obtain rfl : i = k := by omega
      clear hi hlt
      have hszi : ¬ ((i : Int) < (s.size : Int)) := by omega
      go_wp2
      go_ret2
      exact ⟨by rw [HZ.out]; rfl, rfl⟩
end Go.Proofs.YtommhgmlblecnaaGreatDoor
namespace Go.Proofs.YtommhgmlblecnaaGreatDoor
open Go.RowKit

set_option maxRecDepth 100000 in
set_option maxHeartbeats 1600000 in
theorem rpB51_t (s T : ByteArray) (k : Nat) (w : World) (R : Int × Bool) (hk : k ≤ T.size) (hTi : (T.size : Int) ≤ 9223372036854775807) (hp : 0 < s.size) (h45 : (s[0]'hp).toNat = 45) (hT : s.extract 1 s.size = T)
    (HDG : Hid (∀ i (h : i < T.size), i < k → isD (T[i]'h) = true)) (e1 : decide ((k : Int) < 1) = false) (e2 : decide (10 < (k : Int)) = false) (e3 : decide (1 < (k : Int)) = false) (hsz : k < T.size) (hno : ((T[k]'hsz).toNat : Int) < 48 ∨ 57 < ((T[k]'hsz).toNat : Int)) (e5 : (((T[k]'hsz).toNat : Int) != 46) = true) (HZ : Hid (R = (0, false))) :
    Calls Tryz.prog 81 #[.string s] w fun e w' => e = .returned (.tuple #[.int .i64 R.1, .bool R.2]) ∧ w' = w := by
  have d0 : (0 : Int) < (s.size : Int) := by omega
  have d45 : (((s[0]'hp).toNat : Int) == 45) = true := by rw [h45]; rfl
  have s1 : (1 : Int) ≤ (s.size : Int) := by omega
  clear h45
  have hszi : (k : Int) < (T.size : Int) := by omega
  go_enter Tryz.func81, Tryz.ntmps81
  go_wp2
  go_loop [5] (fun a => ∃ i : Nat, i ≤ k ∧ a = .int .i64 i) (fun a => k - (intOf a).toNat)
  case atStart => exact ⟨0, Nat.zero_le _, rfl⟩
  case round =>
    obtain ⟨i, hi, rfl⟩ := hrel
    by_cases hlt : i < k
    · have hin : i < T.size := by omega
      obtain ⟨hD0, hD1⟩ := isD_yes (HDG.out i hin hlt)
      have hii : (i : Int) < (T.size : Int) := by omega
      clear e1 e2 e3 e5 HZ hno
      go_wp2_with (go_at_call 116; refine (rdig_yes _ _ hD0 hD1).mono ?_; rintro e w ⟨rfl, rfl⟩)
      go_round
      case rel => exact ⟨i + 1, by omega, by go_num⟩
      case measure => simp [intOf]; omega
    · obtain rfl : i = k := by omega
      clear hi hlt
      go_wp2_with (go_at_call 116; refine (rdig_no _ _ hno).mono ?_; rintro e w ⟨rfl, rfl⟩)
      go_ret2
      exact ⟨by rw [HZ.out]; rfl, rfl⟩

set_option maxRecDepth 100000 in
set_option maxHeartbeats 1600000 in
theorem rpB61_t (s T : ByteArray) (k : Nat) (w : World) (R : Int × Bool) (hk : k ≤ T.size) (hTi : (T.size : Int) ≤ 9223372036854775807) (hp : 0 < s.size) (h45 : (s[0]'hp).toNat = 45) (hT : s.extract 1 s.size = T)
    (HDG : Hid (∀ i (h : i < T.size), i < k → isD (T[i]'h) = true)) (e1 : decide ((k : Int) < 1) = false) (e2 : decide (10 < (k : Int)) = false) (e3 : decide (1 < (k : Int)) = false) (hsz : k < T.size) (hno : ((T[k]'hsz).toNat : Int) < 48 ∨ 57 < ((T[k]'hsz).toNat : Int)) (e5 : (((T[k]'hsz).toNat : Int) != 46) = false) (p : Nat) (rp : (T.size : Int) - (k : Int) - 1 = (p : Int)) (e6 : decide ((p : Int) < 1) = true) (HZ : Hid (R = (0, false))) :
    Calls Tryz.prog 81 #[.string s] w fun e w' => e = .returned (.tuple #[.int .i64 R.1, .bool R.2]) ∧ w' = w := by
  have d0 : (0 : Int) < (s.size : Int) := by omega
  have d45 : (((s[0]'hp).toNat : Int) == 45) = true := by rw [h45]; rfl
  have s1 : (1 : Int) ≤ (s.size : Int) := by omega
  clear h45
  have hszi : (k : Int) < (T.size : Int) := by omega
  go_enter Tryz.func81, Tryz.ntmps81
  go_wp2
  go_loop [5] (fun a => ∃ i : Nat, i ≤ k ∧ a = .int .i64 i) (fun a => k - (intOf a).toNat)
  case atStart => exact ⟨0, Nat.zero_le _, rfl⟩
  case round =>
    obtain ⟨i, hi, rfl⟩ := hrel
    by_cases hlt : i < k
    · have hin : i < T.size := by omega
      obtain ⟨hD0, hD1⟩ := isD_yes (HDG.out i hin hlt)
      have hii : (i : Int) < (T.size : Int) := by omega
      clear e1 e2 e3 e5 rp e6 HZ hno
      go_wp2_with (go_at_call 116; refine (rdig_yes _ _ hD0 hD1).mono ?_; rintro e w ⟨rfl, rfl⟩)
      go_round
      case rel => exact ⟨i + 1, by omega, by go_num⟩
      case measure => simp [intOf]; omega
    · obtain rfl : i = k := by omega
      clear hi hlt
      go_wp2_with (go_at_call 116; refine (rdig_no _ _ hno).mono ?_; rintro e w ⟨rfl, rfl⟩)
      go_ret2
      exact ⟨by rw [HZ.out]; rfl, rfl⟩

set_option maxRecDepth 100000 in
set_option maxHeartbeats 1600000 in
theorem rpB71_t (s T : ByteArray) (k : Nat) (w : World) (R : Int × Bool) (hk : k ≤ T.size) (hTi : (T.size : Int) ≤ 9223372036854775807) (hp : 0 < s.size) (h45 : (s[0]'hp).toNat = 45) (hT : s.extract 1 s.size = T)
    (HDG : Hid (∀ i (h : i < T.size), i < k → isD (T[i]'h) = true)) (e1 : decide ((k : Int) < 1) = false) (e2 : decide (10 < (k : Int)) = false) (e3 : decide (1 < (k : Int)) = false) (hsz : k < T.size) (hno : ((T[k]'hsz).toNat : Int) < 48 ∨ 57 < ((T[k]'hsz).toNat : Int)) (e5 : (((T[k]'hsz).toNat : Int) != 46) = false) (p : Nat) (rp : (T.size : Int) - (k : Int) - 1 = (p : Int)) (e6 : decide ((p : Int) < 1) = false) (e7 : decide (6 < (p : Int)) = true) (HZ : Hid (R = (0, false))) :
    Calls Tryz.prog 81 #[.string s] w fun e w' => e = .returned (.tuple #[.int .i64 R.1, .bool R.2]) ∧ w' = w := by
  have d0 : (0 : Int) < (s.size : Int) := by omega
  have d45 : (((s[0]'hp).toNat : Int) == 45) = true := by rw [h45]; rfl
  have s1 : (1 : Int) ≤ (s.size : Int) := by omega
  clear h45
  have hszi : (k : Int) < (T.size : Int) := by omega
  go_enter Tryz.func81, Tryz.ntmps81
  go_wp2
  go_loop [5] (fun a => ∃ i : Nat, i ≤ k ∧ a = .int .i64 i) (fun a => k - (intOf a).toNat)
  case atStart => exact ⟨0, Nat.zero_le _, rfl⟩
  case round =>
    obtain ⟨i, hi, rfl⟩ := hrel
    by_cases hlt : i < k
    · have hin : i < T.size := by omega
      obtain ⟨hD0, hD1⟩ := isD_yes (HDG.out i hin hlt)
      have hii : (i : Int) < (T.size : Int) := by omega
      clear e1 e2 e3 e5 rp e6 e7 HZ hno
      go_wp2_with (go_at_call 116; refine (rdig_yes _ _ hD0 hD1).mono ?_; rintro e w ⟨rfl, rfl⟩)
      go_round
      case rel => exact ⟨i + 1, by omega, by go_num⟩
      case measure => simp [intOf]; omega
    · obtain rfl : i = k := by omega
      clear hi hlt
      go_wp2_with (go_at_call 116; refine (rdig_no _ _ hno).mono ?_; rintro e w ⟨rfl, rfl⟩)
      go_ret2
      exact ⟨by rw [HZ.out]; rfl, rfl⟩

set_option maxRecDepth 100000 in
set_option maxHeartbeats 1600000 in
theorem rpB52_t (s T : ByteArray) (k : Nat) (w : World) (R : Int × Bool) (hk : k ≤ T.size) (hTi : (T.size : Int) ≤ 9223372036854775807) (hp : 0 < s.size) (h45 : (s[0]'hp).toNat = 45) (hT : s.extract 1 s.size = T)
    (HDG : Hid (∀ i (h : i < T.size), i < k → isD (T[i]'h) = true)) (e1 : decide ((k : Int) < 1) = false) (e2 : decide (10 < (k : Int)) = false) (e3 : decide (1 < (k : Int)) = true) (hT0 : 0 < T.size) (e4 : (((T[0]'hT0).toNat : Int) == 48) = false) (hsz : k < T.size) (hno : ((T[k]'hsz).toNat : Int) < 48 ∨ 57 < ((T[k]'hsz).toNat : Int)) (e5 : (((T[k]'hsz).toNat : Int) != 46) = true) (HZ : Hid (R = (0, false))) :
    Calls Tryz.prog 81 #[.string s] w fun e w' => e = .returned (.tuple #[.int .i64 R.1, .bool R.2]) ∧ w' = w := by
  have d0 : (0 : Int) < (s.size : Int) := by omega
  have d45 : (((s[0]'hp).toNat : Int) == 45) = true := by rw [h45]; rfl
  have s1 : (1 : Int) ≤ (s.size : Int) := by omega
  clear h45
  have hT0i : (0 : Int) < (T.size : Int) := by omega
  have hszi : (k : Int) < (T.size : Int) := by omega
  go_enter Tryz.func81, Tryz.ntmps81
  go_wp2
  go_loop [5] (fun a => ∃ i : Nat, i ≤ k ∧ a = .int .i64 i) (fun a => k - (intOf a).toNat)
  case atStart => exact ⟨0, Nat.zero_le _, rfl⟩
  case round =>
    obtain ⟨i, hi, rfl⟩ := hrel
    by_cases hlt : i < k
    · have hin : i < T.size := by omega
      obtain ⟨hD0, hD1⟩ := isD_yes (HDG.out i hin hlt)
      have hii : (i : Int) < (T.size : Int) := by omega
      clear e1 e2 e3 e4 e5 HZ hno
      go_wp2_with (go_at_call 116; refine (rdig_yes _ _ hD0 hD1).mono ?_; rintro e w ⟨rfl, rfl⟩)
      go_round
      case rel => exact ⟨i + 1, by omega, by go_num⟩
      case measure => simp [intOf]; omega
    · obtain rfl : i = k := by omega
      clear hi hlt
      go_wp2_with (go_at_call 116; refine (rdig_no _ _ hno).mono ?_; rintro e w ⟨rfl, rfl⟩)
      go_ret2
      exact ⟨by rw [HZ.out]; rfl, rfl⟩

set_option maxRecDepth 100000 in
set_option maxHeartbeats 1600000 in
theorem rpB62_t (s T : ByteArray) (k : Nat) (w : World) (R : Int × Bool) (hk : k ≤ T.size) (hTi : (T.size : Int) ≤ 9223372036854775807) (hp : 0 < s.size) (h45 : (s[0]'hp).toNat = 45) (hT : s.extract 1 s.size = T)
    (HDG : Hid (∀ i (h : i < T.size), i < k → isD (T[i]'h) = true)) (e1 : decide ((k : Int) < 1) = false) (e2 : decide (10 < (k : Int)) = false) (e3 : decide (1 < (k : Int)) = true) (hT0 : 0 < T.size) (e4 : (((T[0]'hT0).toNat : Int) == 48) = false) (hsz : k < T.size) (hno : ((T[k]'hsz).toNat : Int) < 48 ∨ 57 < ((T[k]'hsz).toNat : Int)) (e5 : (((T[k]'hsz).toNat : Int) != 46) = false) (p : Nat) (rp : (T.size : Int) - (k : Int) - 1 = (p : Int)) (e6 : decide ((p : Int) < 1) = true) (HZ : Hid (R = (0, false))) :
    Calls Tryz.prog 81 #[.string s] w fun e w' => e = .returned (.tuple #[.int .i64 R.1, .bool R.2]) ∧ w' = w := by
  have d0 : (0 : Int) < (s.size : Int) := by omega
  have d45 : (((s[0]'hp).toNat : Int) == 45) = true := by rw [h45]; rfl
  have s1 : (1 : Int) ≤ (s.size : Int) := by omega
  clear h45
  have hT0i : (0 : Int) < (T.size : Int) := by omega
  have hszi : (k : Int) < (T.size : Int) := by omega
  go_enter Tryz.func81, Tryz.ntmps81
  go_wp2
  go_loop [5] (fun a => ∃ i : Nat, i ≤ k ∧ a = .int .i64 i) (fun a => k - (intOf a).toNat)
  case atStart => exact ⟨0, Nat.zero_le _, rfl⟩
  case round =>
    obtain ⟨i, hi, rfl⟩ := hrel
    by_cases hlt : i < k
    · have hin : i < T.size := by omega
      obtain ⟨hD0, hD1⟩ := isD_yes (HDG.out i hin hlt)
      have hii : (i : Int) < (T.size : Int) := by omega
      clear e1 e2 e3 e4 e5 rp e6 HZ hno
      go_wp2_with (go_at_call 116; refine (rdig_yes _ _ hD0 hD1).mono ?_; rintro e w ⟨rfl, rfl⟩)
      go_round
      case rel => exact ⟨i + 1, by omega, by go_num⟩
      case measure => simp [intOf]; omega
    · obtain rfl : i = k := by omega
      clear hi hlt
      go_wp2_with (go_at_call 116; refine (rdig_no _ _ hno).mono ?_; rintro e w ⟨rfl, rfl⟩)
      go_ret2
      exact ⟨by rw [HZ.out]; rfl, rfl⟩

set_option maxRecDepth 100000 in
set_option maxHeartbeats 1600000 in
theorem rpB72_t (s T : ByteArray) (k : Nat) (w : World) (R : Int × Bool) (hk : k ≤ T.size) (hTi : (T.size : Int) ≤ 9223372036854775807) (hp : 0 < s.size) (h45 : (s[0]'hp).toNat = 45) (hT : s.extract 1 s.size = T)
    (HDG : Hid (∀ i (h : i < T.size), i < k → isD (T[i]'h) = true)) (e1 : decide ((k : Int) < 1) = false) (e2 : decide (10 < (k : Int)) = false) (e3 : decide (1 < (k : Int)) = true) (hT0 : 0 < T.size) (e4 : (((T[0]'hT0).toNat : Int) == 48) = false) (hsz : k < T.size) (hno : ((T[k]'hsz).toNat : Int) < 48 ∨ 57 < ((T[k]'hsz).toNat : Int)) (e5 : (((T[k]'hsz).toNat : Int) != 46) = false) (p : Nat) (rp : (T.size : Int) - (k : Int) - 1 = (p : Int)) (e6 : decide ((p : Int) < 1) = false) (e7 : decide (6 < (p : Int)) = true) (HZ : Hid (R = (0, false))) :
    Calls Tryz.prog 81 #[.string s] w fun e w' => e = .returned (.tuple #[.int .i64 R.1, .bool R.2]) ∧ w' = w := by
  have d0 : (0 : Int) < (s.size : Int) := by omega
  have d45 : (((s[0]'hp).toNat : Int) == 45) = true := by rw [h45]; rfl
  have s1 : (1 : Int) ≤ (s.size : Int) := by omega
  clear h45
  have hT0i : (0 : Int) < (T.size : Int) := by omega
  have hszi : (k : Int) < (T.size : Int) := by omega
  go_enter Tryz.func81, Tryz.ntmps81
  go_wp2
  go_loop [5] (fun a => ∃ i : Nat, i ≤ k ∧ a = .int .i64 i) (fun a => k - (intOf a).toNat)
  case atStart => exact ⟨0, Nat.zero_le _, rfl⟩
  case round =>
    obtain ⟨i, hi, rfl⟩ := hrel
    by_cases hlt : i < k
    · have hin : i < T.size := by omega
      obtain ⟨hD0, hD1⟩ := isD_yes (HDG.out i hin hlt)
      have hii : (i : Int) < (T.size : Int) := by omega
      clear e1 e2 e3 e4 e5 rp e6 e7 HZ hno
      go_wp2_with (go_at_call 116; refine (rdig_yes _ _ hD0 hD1).mono ?_; rintro e w ⟨rfl, rfl⟩)
      go_round
      case rel => exact ⟨i + 1, by omega, by go_num⟩
      case measure => simp [intOf]; omega
    · obtain rfl : i = k := by omega
      clear hi hlt
      go_wp2_with (go_at_call 116; refine (rdig_no _ _ hno).mono ?_; rintro e w ⟨rfl, rfl⟩)
      go_ret2
      exact ⟨by rw [HZ.out]; rfl, rfl⟩
end Go.Proofs.YtommhgmlblecnaaGreatDoor
namespace Go.Proofs.YtommhgmlblecnaaGreatDoor
open Go.RowKit

set_option maxRecDepth 100000 in
set_option maxHeartbeats 1600000 in
theorem rpB51_f (s T : ByteArray) (k : Nat) (w : World) (R : Int × Bool) (hk : k ≤ T.size) (hTi : (T.size : Int) ≤ 9223372036854775807) (hp : 0 < s.size) (h45 : (s[0]'hp).toNat ≠ 45) (hT : s = T)
    (HDG : Hid (∀ i (h : i < T.size), i < k → isD (T[i]'h) = true)) (e1 : decide ((k : Int) < 1) = false) (e2 : decide (10 < (k : Int)) = false) (e3 : decide (1 < (k : Int)) = false) (hsz : k < T.size) (hno : ((T[k]'hsz).toNat : Int) < 48 ∨ 57 < ((T[k]'hsz).toNat : Int)) (e5 : (((T[k]'hsz).toNat : Int) != 46) = true) (HZ : Hid (R = (0, false))) :
    Calls Tryz.prog 81 #[.string s] w fun e w' => e = .returned (.tuple #[.int .i64 R.1, .bool R.2]) ∧ w' = w := by
  have d0 : (0 : Int) < (s.size : Int) := by omega
  subst hT
  have d45 : (((s[0]'hp).toNat : Int) == 45) = false := by simp; omega
  clear h45
  have hszi : (k : Int) < (s.size : Int) := by omega
  go_enter Tryz.func81, Tryz.ntmps81
  go_wp2
  go_loop [5] (fun a => ∃ i : Nat, i ≤ k ∧ a = .int .i64 i) (fun a => k - (intOf a).toNat)
  case atStart => exact ⟨0, Nat.zero_le _, rfl⟩
  case round =>
    obtain ⟨i, hi, rfl⟩ := hrel
    by_cases hlt : i < k
    · have hin : i < s.size := by omega
      obtain ⟨hD0, hD1⟩ := isD_yes (HDG.out i hin hlt)
      have hii : (i : Int) < (s.size : Int) := by omega
      clear e1 e2 e3 e5 HZ hno
      go_wp2_with (go_at_call 116; refine (rdig_yes _ _ hD0 hD1).mono ?_; rintro e w ⟨rfl, rfl⟩)
      go_round
      case rel => exact ⟨i + 1, by omega, by go_num⟩
      case measure => simp [intOf]; omega
    · obtain rfl : i = k := by omega
      clear hi hlt
      go_wp2_with (go_at_call 116; refine (rdig_no _ _ hno).mono ?_; rintro e w ⟨rfl, rfl⟩)
      go_ret2
      exact ⟨by rw [HZ.out]; rfl, rfl⟩

set_option maxRecDepth 100000 in
set_option maxHeartbeats 1600000 in
theorem rpB61_f (s T : ByteArray) (k : Nat) (w : World) (R : Int × Bool) (hk : k ≤ T.size) (hTi : (T.size : Int) ≤ 9223372036854775807) (hp : 0 < s.size) (h45 : (s[0]'hp).toNat ≠ 45) (hT : s = T)
    (HDG : Hid (∀ i (h : i < T.size), i < k → isD (T[i]'h) = true)) (e1 : decide ((k : Int) < 1) = false) (e2 : decide (10 < (k : Int)) = false) (e3 : decide (1 < (k : Int)) = false) (hsz : k < T.size) (hno : ((T[k]'hsz).toNat : Int) < 48 ∨ 57 < ((T[k]'hsz).toNat : Int)) (e5 : (((T[k]'hsz).toNat : Int) != 46) = false) (p : Nat) (rp : (T.size : Int) - (k : Int) - 1 = (p : Int)) (e6 : decide ((p : Int) < 1) = true) (HZ : Hid (R = (0, false))) :
    Calls Tryz.prog 81 #[.string s] w fun e w' => e = .returned (.tuple #[.int .i64 R.1, .bool R.2]) ∧ w' = w := by
  have d0 : (0 : Int) < (s.size : Int) := by omega
  subst hT
  have d45 : (((s[0]'hp).toNat : Int) == 45) = false := by simp; omega
  clear h45
  have hszi : (k : Int) < (s.size : Int) := by omega
  go_enter Tryz.func81, Tryz.ntmps81
  go_wp2
  go_loop [5] (fun a => ∃ i : Nat, i ≤ k ∧ a = .int .i64 i) (fun a => k - (intOf a).toNat)
  case atStart => exact ⟨0, Nat.zero_le _, rfl⟩
  case round =>
    obtain ⟨i, hi, rfl⟩ := hrel
    by_cases hlt : i < k
    · have hin : i < s.size := by omega
      obtain ⟨hD0, hD1⟩ := isD_yes (HDG.out i hin hlt)
      have hii : (i : Int) < (s.size : Int) := by omega
      clear e1 e2 e3 e5 rp e6 HZ hno
      go_wp2_with (go_at_call 116; refine (rdig_yes _ _ hD0 hD1).mono ?_; rintro e w ⟨rfl, rfl⟩)
      go_round
      case rel => exact ⟨i + 1, by omega, by go_num⟩
      case measure => simp [intOf]; omega
    · obtain rfl : i = k := by omega
      clear hi hlt
      go_wp2_with (go_at_call 116; refine (rdig_no _ _ hno).mono ?_; rintro e w ⟨rfl, rfl⟩)
      go_ret2
      exact ⟨by rw [HZ.out]; rfl, rfl⟩

set_option maxRecDepth 100000 in
set_option maxHeartbeats 1600000 in
theorem rpB71_f (s T : ByteArray) (k : Nat) (w : World) (R : Int × Bool) (hk : k ≤ T.size) (hTi : (T.size : Int) ≤ 9223372036854775807) (hp : 0 < s.size) (h45 : (s[0]'hp).toNat ≠ 45) (hT : s = T)
    (HDG : Hid (∀ i (h : i < T.size), i < k → isD (T[i]'h) = true)) (e1 : decide ((k : Int) < 1) = false) (e2 : decide (10 < (k : Int)) = false) (e3 : decide (1 < (k : Int)) = false) (hsz : k < T.size) (hno : ((T[k]'hsz).toNat : Int) < 48 ∨ 57 < ((T[k]'hsz).toNat : Int)) (e5 : (((T[k]'hsz).toNat : Int) != 46) = false) (p : Nat) (rp : (T.size : Int) - (k : Int) - 1 = (p : Int)) (e6 : decide ((p : Int) < 1) = false) (e7 : decide (6 < (p : Int)) = true) (HZ : Hid (R = (0, false))) :
    Calls Tryz.prog 81 #[.string s] w fun e w' => e = .returned (.tuple #[.int .i64 R.1, .bool R.2]) ∧ w' = w := by
  have d0 : (0 : Int) < (s.size : Int) := by omega
  subst hT
  have d45 : (((s[0]'hp).toNat : Int) == 45) = false := by simp; omega
  clear h45
  have hszi : (k : Int) < (s.size : Int) := by omega
  go_enter Tryz.func81, Tryz.ntmps81
  go_wp2
  go_loop [5] (fun a => ∃ i : Nat, i ≤ k ∧ a = .int .i64 i) (fun a => k - (intOf a).toNat)
  case atStart => exact ⟨0, Nat.zero_le _, rfl⟩
  case round =>
    obtain ⟨i, hi, rfl⟩ := hrel
    by_cases hlt : i < k
    · have hin : i < s.size := by omega
      obtain ⟨hD0, hD1⟩ := isD_yes (HDG.out i hin hlt)
      have hii : (i : Int) < (s.size : Int) := by omega
      clear e1 e2 e3 e5 rp e6 e7 HZ hno
      go_wp2_with (go_at_call 116; refine (rdig_yes _ _ hD0 hD1).mono ?_; rintro e w ⟨rfl, rfl⟩)
      go_round
      case rel => exact ⟨i + 1, by omega, by go_num⟩
      case measure => simp [intOf]; omega
    · obtain rfl : i = k := by omega
      clear hi hlt
      go_wp2_with (go_at_call 116; refine (rdig_no _ _ hno).mono ?_; rintro e w ⟨rfl, rfl⟩)
      go_ret2
      exact ⟨by rw [HZ.out]; rfl, rfl⟩

set_option maxRecDepth 100000 in
set_option maxHeartbeats 1600000 in
theorem rpB52_f (s T : ByteArray) (k : Nat) (w : World) (R : Int × Bool) (hk : k ≤ T.size) (hTi : (T.size : Int) ≤ 9223372036854775807) (hp : 0 < s.size) (h45 : (s[0]'hp).toNat ≠ 45) (hT : s = T)
    (HDG : Hid (∀ i (h : i < T.size), i < k → isD (T[i]'h) = true)) (e1 : decide ((k : Int) < 1) = false) (e2 : decide (10 < (k : Int)) = false) (e3 : decide (1 < (k : Int)) = true) (hT0 : 0 < T.size) (e4 : (((T[0]'hT0).toNat : Int) == 48) = false) (hsz : k < T.size) (hno : ((T[k]'hsz).toNat : Int) < 48 ∨ 57 < ((T[k]'hsz).toNat : Int)) (e5 : (((T[k]'hsz).toNat : Int) != 46) = true) (HZ : Hid (R = (0, false))) :
    Calls Tryz.prog 81 #[.string s] w fun e w' => e = .returned (.tuple #[.int .i64 R.1, .bool R.2]) ∧ w' = w := by
  have d0 : (0 : Int) < (s.size : Int) := by omega
  subst hT
  have d45 : (((s[0]'hp).toNat : Int) == 45) = false := by simp; omega
  clear h45
  have hT0i : (0 : Int) < (s.size : Int) := by omega
  have hszi : (k : Int) < (s.size : Int) := by omega
  go_enter Tryz.func81, Tryz.ntmps81
  go_wp2
  go_loop [5] (fun a => ∃ i : Nat, i ≤ k ∧ a = .int .i64 i) (fun a => k - (intOf a).toNat)
  case atStart => exact ⟨0, Nat.zero_le _, rfl⟩
  case round =>
    obtain ⟨i, hi, rfl⟩ := hrel
    by_cases hlt : i < k
    · have hin : i < s.size := by omega
      obtain ⟨hD0, hD1⟩ := isD_yes (HDG.out i hin hlt)
      have hii : (i : Int) < (s.size : Int) := by omega
      clear e1 e2 e3 e4 e5 HZ hno
      go_wp2_with (go_at_call 116; refine (rdig_yes _ _ hD0 hD1).mono ?_; rintro e w ⟨rfl, rfl⟩)
      go_round
      case rel => exact ⟨i + 1, by omega, by go_num⟩
      case measure => simp [intOf]; omega
    · obtain rfl : i = k := by omega
      clear hi hlt
      go_wp2_with (go_at_call 116; refine (rdig_no _ _ hno).mono ?_; rintro e w ⟨rfl, rfl⟩)
      go_ret2
      exact ⟨by rw [HZ.out]; rfl, rfl⟩

set_option maxRecDepth 100000 in
set_option maxHeartbeats 1600000 in
theorem rpB62_f (s T : ByteArray) (k : Nat) (w : World) (R : Int × Bool) (hk : k ≤ T.size) (hTi : (T.size : Int) ≤ 9223372036854775807) (hp : 0 < s.size) (h45 : (s[0]'hp).toNat ≠ 45) (hT : s = T)
    (HDG : Hid (∀ i (h : i < T.size), i < k → isD (T[i]'h) = true)) (e1 : decide ((k : Int) < 1) = false) (e2 : decide (10 < (k : Int)) = false) (e3 : decide (1 < (k : Int)) = true) (hT0 : 0 < T.size) (e4 : (((T[0]'hT0).toNat : Int) == 48) = false) (hsz : k < T.size) (hno : ((T[k]'hsz).toNat : Int) < 48 ∨ 57 < ((T[k]'hsz).toNat : Int)) (e5 : (((T[k]'hsz).toNat : Int) != 46) = false) (p : Nat) (rp : (T.size : Int) - (k : Int) - 1 = (p : Int)) (e6 : decide ((p : Int) < 1) = true) (HZ : Hid (R = (0, false))) :
    Calls Tryz.prog 81 #[.string s] w fun e w' => e = .returned (.tuple #[.int .i64 R.1, .bool R.2]) ∧ w' = w := by
  have d0 : (0 : Int) < (s.size : Int) := by omega
  subst hT
  have d45 : (((s[0]'hp).toNat : Int) == 45) = false := by simp; omega
  clear h45
  have hT0i : (0 : Int) < (s.size : Int) := by omega
  have hszi : (k : Int) < (s.size : Int) := by omega
  go_enter Tryz.func81, Tryz.ntmps81
  go_wp2
  go_loop [5] (fun a => ∃ i : Nat, i ≤ k ∧ a = .int .i64 i) (fun a => k - (intOf a).toNat)
  case atStart => exact ⟨0, Nat.zero_le _, rfl⟩
  case round =>
    obtain ⟨i, hi, rfl⟩ := hrel
    by_cases hlt : i < k
    · have hin : i < s.size := by omega
      obtain ⟨hD0, hD1⟩ := isD_yes (HDG.out i hin hlt)
      have hii : (i : Int) < (s.size : Int) := by omega
      clear e1 e2 e3 e4 e5 rp e6 HZ hno
      go_wp2_with (go_at_call 116; refine (rdig_yes _ _ hD0 hD1).mono ?_; rintro e w ⟨rfl, rfl⟩)
      go_round
      case rel => exact ⟨i + 1, by omega, by go_num⟩
      case measure => simp [intOf]; omega
    · obtain rfl : i = k := by omega
      clear hi hlt
      go_wp2_with (go_at_call 116; refine (rdig_no _ _ hno).mono ?_; rintro e w ⟨rfl, rfl⟩)
      go_ret2
      exact ⟨by rw [HZ.out]; rfl, rfl⟩

set_option maxRecDepth 100000 in
set_option maxHeartbeats 1600000 in
theorem rpB72_f (s T : ByteArray) (k : Nat) (w : World) (R : Int × Bool) (hk : k ≤ T.size) (hTi : (T.size : Int) ≤ 9223372036854775807) (hp : 0 < s.size) (h45 : (s[0]'hp).toNat ≠ 45) (hT : s = T)
    (HDG : Hid (∀ i (h : i < T.size), i < k → isD (T[i]'h) = true)) (e1 : decide ((k : Int) < 1) = false) (e2 : decide (10 < (k : Int)) = false) (e3 : decide (1 < (k : Int)) = true) (hT0 : 0 < T.size) (e4 : (((T[0]'hT0).toNat : Int) == 48) = false) (hsz : k < T.size) (hno : ((T[k]'hsz).toNat : Int) < 48 ∨ 57 < ((T[k]'hsz).toNat : Int)) (e5 : (((T[k]'hsz).toNat : Int) != 46) = false) (p : Nat) (rp : (T.size : Int) - (k : Int) - 1 = (p : Int)) (e6 : decide ((p : Int) < 1) = false) (e7 : decide (6 < (p : Int)) = true) (HZ : Hid (R = (0, false))) :
    Calls Tryz.prog 81 #[.string s] w fun e w' => e = .returned (.tuple #[.int .i64 R.1, .bool R.2]) ∧ w' = w := by
  have d0 : (0 : Int) < (s.size : Int) := by omega
  subst hT
  have d45 : (((s[0]'hp).toNat : Int) == 45) = false := by simp; omega
  clear h45
  have hT0i : (0 : Int) < (s.size : Int) := by omega
  have hszi : (k : Int) < (s.size : Int) := by omega
  go_enter Tryz.func81, Tryz.ntmps81
  go_wp2
  go_loop [5] (fun a => ∃ i : Nat, i ≤ k ∧ a = .int .i64 i) (fun a => k - (intOf a).toNat)
  case atStart => exact ⟨0, Nat.zero_le _, rfl⟩
  case round =>
    obtain ⟨i, hi, rfl⟩ := hrel
    by_cases hlt : i < k
    · have hin : i < s.size := by omega
      obtain ⟨hD0, hD1⟩ := isD_yes (HDG.out i hin hlt)
      have hii : (i : Int) < (s.size : Int) := by omega
      clear e1 e2 e3 e4 e5 rp e6 e7 HZ hno
      go_wp2_with (go_at_call 116; refine (rdig_yes _ _ hD0 hD1).mono ?_; rintro e w ⟨rfl, rfl⟩)
      go_round
      case rel => exact ⟨i + 1, by omega, by go_num⟩
      case measure => simp [intOf]; omega
    · obtain rfl : i = k := by omega
      clear hi hlt
      go_wp2_with (go_at_call 116; refine (rdig_no _ _ hno).mono ?_; rintro e w ⟨rfl, rfl⟩)
      go_ret2
      exact ⟨by rw [HZ.out]; rfl, rfl⟩
end Go.Proofs.YtommhgmlblecnaaGreatDoor
namespace Go.Proofs.YtommhgmlblecnaaGreatDoor
open Go.RowKit

set_option maxHeartbeats 400000 in
theorem rp_empty (s : ByteArray) (w : World) (h : s.size = 0) :
    Calls Tryz.prog 81 #[.string s] w fun e w' => e = .returned (.tuple #[.int .i64 0, .bool false]) ∧ w' = w := by
  go_enter Tryz.func81, Tryz.ntmps81
  go_wp2
  go_loop [5] (fun a => a = .int .i64 0) (fun _ => 0)
  case atStart => rfl
  case round =>
    subst hrel
    go_wp2
    go_ret2
    exact ⟨rfl, rfl⟩

set_option maxHeartbeats 800000 in
theorem rparse_t (s T : ByteArray) (k : Nat) (w : World) (hk : k ≤ T.size) (hTi : (T.size : Int) ≤ 9223372036854775807) (hp : 0 < s.size) (h45 : (s[0]'hp).toNat = 45) (hT : s.extract 1 s.size = T)
    (hdig : ∀ i (h : i < T.size), i < k → isD (T[i]'h) = true) (hend : ∀ h : k < T.size, isD (T[k]'h) = false) :
    Calls Tryz.prog 81 #[.string s] w fun e w' => e = .returned (.tuple #[.int .i64 (refR true T.data.toList k).1, .bool (refR true T.data.toList k).2]) ∧ w' = w := by
  have htl : T.data.toList.length = T.size := Array.length_toList
  have hw := whl_take htl hk hdig
  by_cases hsz : k < T.size
  · have hno := isD_no (hend hsz)
    by_cases c1 : k < 1
    · exact rpB1h_t s T k w _ hk hTi hp h45 hT hdig (decide_eq_true (by omega)) hsz hno (refR_noWh (by rw [hw, decide_eq_false (show ¬ 1 ≤ k by omega)]; rfl))
    · have e1 : decide ((k : Int) < 1) = false := decide_eq_false (by omega)
      by_cases c2 : 10 < k
      · exact rpB2h_t s T k w _ hk hTi hp h45 hT hdig e1 (decide_eq_true (by omega)) hsz hno (refR_noWh (by rw [hw, decide_eq_false (show ¬ k ≤ 10 by omega)]; simp))
      · have e2 : decide (10 < (k : Int)) = false := decide_eq_false (by omega)
        have hT0 : 0 < T.size := by omega
        have h0 : T.data.toList[0]?.getD 0 = T[0]'hT0 := getD_list T 0 hT0 0
        by_cases c3 : 1 < k
        · by_cases c4 : (T[0]'hT0).toNat = 48
          · have g4 : T[0]'hT0 = 48 := UInt8.toNat_inj.1 c4
            exact rpB3h_t s T k w _ hk hTi hp h45 hT hdig e1 e2 (decide_eq_true (by omega)) hT0 (by rw [c4]; rfl) hsz hno (refR_noWh (by rw [hw, h0, g4, decide_eq_false (show ¬ k = 1 by omega)]; simp))
          · have e4 : (((T[0]'hT0).toNat : Int) == 48) = false := by simp; omega
            have c4' : T[0]'hT0 ≠ 48 := fun h => c4 (by rw [h]; rfl)
            have hwt : isWhL (T.data.toList.take k) = true := by rw [hw, h0]; simp [c4']; omega
            by_cases c5 : (T[k]'hsz).toNat = 46
            · have e5 : (((T[k]'hsz).toNat : Int) != 46) = false := by rw [c5]; rfl
              have g5 : T.data.toList[k]?.getD 0 = 46 := by rw [getD_list T k hsz]; exact UInt8.toNat_inj.1 c5
              obtain ⟨p, hpp⟩ : ∃ p, k + 1 + p = T.size := ⟨T.size - (k + 1), by omega⟩
              have rp : (T.size : Int) - (k : Int) - 1 = (p : Int) := by omega
              have hdl : (T.data.toList.drop (k + 1)).length = p := by rw [List.length_drop, htl]; omega
              by_cases c6 : p < 1
              · exact rpB62_t s T k w _ hk hTi hp h45 hT hdig e1 e2 (decide_eq_true (by omega)) hT0 e4 hsz hno e5 p rp (decide_eq_true (by omega)) (refR_noId (by omega) (by unfold isDigL; rw [hdl, decide_eq_false (show ¬ 1 ≤ p by omega)]; simp))
              · by_cases c7 : 6 < p
                · exact rpB72_t s T k w _ hk hTi hp h45 hT hdig e1 e2 (decide_eq_true (by omega)) hT0 e4 hsz hno e5 p rp (decide_eq_false (by omega)) (decide_eq_true (by omega)) (refR_noId (by omega) (by unfold isDigL; rw [hdl, decide_eq_false (show ¬ p ≤ 6 by omega)]; simp))
                · refine rpD_t2 s T k w _ hk hTi hp h45 hT hdig e1 e2 (decide_eq_true (by omega)) hT0 e4 hsz hno e5 p rp (decide_eq_false (by omega)) (decide_eq_false (by omega)) (hv_of hwt) ?_ ?_
                  · intro ha
                    refine refR_D hwt g5 ?_
                    unfold isDigL
                    rw [hdl, all_of_getD (fun q hq => ha q (by omega))]; simp; omega
                  · intro z hz hf
                    refine refR_noId (by omega) ?_
                    unfold isDigL
                    cases hal : (T.data.toList.drop (k + 1)).all isD with
                    | false => simp
                    | true => have := getD_of_all hal z; rw [hf] at this; cases this
            · have e5 : (((T[k]'hsz).toNat : Int) != 46) = true := by simp; omega
              exact rpB52_t s T k w _ hk hTi hp h45 hT hdig e1 e2 (decide_eq_true (by omega)) hT0 e4 hsz hno e5 (refR_noId (by omega) (by
                rw [getD_list T k hsz, decide_eq_false (fun h => c5 (by rw [h]; rfl))]; rfl))
        · have hwt : isWhL (T.data.toList.take k) = true := by rw [hw]; simp; omega
          by_cases c5 : (T[k]'hsz).toNat = 46
          · have e5 : (((T[k]'hsz).toNat : Int) != 46) = false := by rw [c5]; rfl
            have g5 : T.data.toList[k]?.getD 0 = 46 := by rw [getD_list T k hsz]; exact UInt8.toNat_inj.1 c5
            obtain ⟨p, hpp⟩ : ∃ p, k + 1 + p = T.size := ⟨T.size - (k + 1), by omega⟩
            have rp : (T.size : Int) - (k : Int) - 1 = (p : Int) := by omega
            have hdl : (T.data.toList.drop (k + 1)).length = p := by rw [List.length_drop, htl]; omega
            by_cases c6 : p < 1
            · exact rpB61_t s T k w _ hk hTi hp h45 hT hdig e1 e2 (decide_eq_false (by omega)) hsz hno e5 p rp (decide_eq_true (by omega)) (refR_noId (by omega) (by unfold isDigL; rw [hdl, decide_eq_false (show ¬ 1 ≤ p by omega)]; simp))
            · by_cases c7 : 6 < p
              · exact rpB71_t s T k w _ hk hTi hp h45 hT hdig e1 e2 (decide_eq_false (by omega)) hsz hno e5 p rp (decide_eq_false (by omega)) (decide_eq_true (by omega)) (refR_noId (by omega) (by unfold isDigL; rw [hdl, decide_eq_false (show ¬ p ≤ 6 by omega)]; simp))
              · refine rpD_t1 s T k w _ hk hTi hp h45 hT hdig e1 e2 (decide_eq_false (by omega)) hsz hno e5 p rp (decide_eq_false (by omega)) (decide_eq_false (by omega)) (hv_of hwt) ?_ ?_
                · intro ha
                  refine refR_D hwt g5 ?_
                  unfold isDigL
                  rw [hdl, all_of_getD (fun q hq => ha q (by omega))]; simp; omega
                · intro z hz hf
                  refine refR_noId (by omega) ?_
                  unfold isDigL
                  cases hal : (T.data.toList.drop (k + 1)).all isD with
                  | false => simp
                  | true => have := getD_of_all hal z; rw [hf] at this; cases this
          · have e5 : (((T[k]'hsz).toNat : Int) != 46) = true := by simp; omega
            exact rpB51_t s T k w _ hk hTi hp h45 hT hdig e1 e2 (decide_eq_false (by omega)) hsz hno e5 (refR_noId (by omega) (by
              rw [getD_list T k hsz, decide_eq_false (fun h => c5 (by rw [h]; rfl))]; rfl))
  · have hkT : T.size ≤ k := by omega
    by_cases c1 : k < 1
    · exact rpB1n_t s T k w _ hk hTi hp h45 hT hdig (decide_eq_true (by omega)) hkT (refR_noWh (by rw [hw, decide_eq_false (show ¬ 1 ≤ k by omega)]; rfl))
    · have e1 : decide ((k : Int) < 1) = false := decide_eq_false (by omega)
      by_cases c2 : 10 < k
      · exact rpB2n_t s T k w _ hk hTi hp h45 hT hdig e1 (decide_eq_true (by omega)) hkT (refR_noWh (by rw [hw, decide_eq_false (show ¬ k ≤ 10 by omega)]; simp))
      · have e2 : decide (10 < (k : Int)) = false := decide_eq_false (by omega)
        have hT0 : 0 < T.size := by omega
        have h0 : T.data.toList[0]?.getD 0 = T[0]'hT0 := getD_list T 0 hT0 0
        by_cases c3 : 1 < k
        · by_cases c4 : (T[0]'hT0).toNat = 48
          · have g4 : T[0]'hT0 = 48 := UInt8.toNat_inj.1 c4
            exact rpB3n_t s T k w _ hk hTi hp h45 hT hdig e1 e2 (decide_eq_true (by omega)) hT0 (by rw [c4]; rfl) hkT (refR_noWh (by rw [hw, h0, g4, decide_eq_false (show ¬ k = 1 by omega)]; simp))
          · have e4 : (((T[0]'hT0).toNat : Int) == 48) = false := by simp; omega
            have c4' : T[0]'hT0 ≠ 48 := fun h => c4 (by rw [h]; rfl)
            have hwt : isWhL (T.data.toList.take k) = true := by rw [hw, h0]; simp [c4']; omega
            exact rpN_t2 s T k w _ hk hTi hp h45 hT hdig e1 e2 (decide_eq_true (by omega)) hT0 e4 hkT (hv_of hwt) (refR_N hwt (by omega))
        · have hwt : isWhL (T.data.toList.take k) = true := by rw [hw]; simp; omega
          exact rpN_t1 s T k w _ hk hTi hp h45 hT hdig e1 e2 (decide_eq_false (by omega)) hkT (hv_of hwt) (refR_N hwt (by omega))

set_option maxHeartbeats 800000 in
theorem rparse_f (s T : ByteArray) (k : Nat) (w : World) (hk : k ≤ T.size) (hTi : (T.size : Int) ≤ 9223372036854775807) (hp : 0 < s.size) (h45 : (s[0]'hp).toNat ≠ 45) (hT : s = T)
    (hdig : ∀ i (h : i < T.size), i < k → isD (T[i]'h) = true) (hend : ∀ h : k < T.size, isD (T[k]'h) = false) :
    Calls Tryz.prog 81 #[.string s] w fun e w' => e = .returned (.tuple #[.int .i64 (refR false T.data.toList k).1, .bool (refR false T.data.toList k).2]) ∧ w' = w := by
  have htl : T.data.toList.length = T.size := Array.length_toList
  have hw := whl_take htl hk hdig
  by_cases hsz : k < T.size
  · have hno := isD_no (hend hsz)
    by_cases c1 : k < 1
    · exact rpB1h_f s T k w _ hk hTi hp h45 hT hdig (decide_eq_true (by omega)) hsz hno (refR_noWh (by rw [hw, decide_eq_false (show ¬ 1 ≤ k by omega)]; rfl))
    · have e1 : decide ((k : Int) < 1) = false := decide_eq_false (by omega)
      by_cases c2 : 10 < k
      · exact rpB2h_f s T k w _ hk hTi hp h45 hT hdig e1 (decide_eq_true (by omega)) hsz hno (refR_noWh (by rw [hw, decide_eq_false (show ¬ k ≤ 10 by omega)]; simp))
      · have e2 : decide (10 < (k : Int)) = false := decide_eq_false (by omega)
        have hT0 : 0 < T.size := by omega
        have h0 : T.data.toList[0]?.getD 0 = T[0]'hT0 := getD_list T 0 hT0 0
        by_cases c3 : 1 < k
        · by_cases c4 : (T[0]'hT0).toNat = 48
          · have g4 : T[0]'hT0 = 48 := UInt8.toNat_inj.1 c4
            exact rpB3h_f s T k w _ hk hTi hp h45 hT hdig e1 e2 (decide_eq_true (by omega)) hT0 (by rw [c4]; rfl) hsz hno (refR_noWh (by rw [hw, h0, g4, decide_eq_false (show ¬ k = 1 by omega)]; simp))
          · have e4 : (((T[0]'hT0).toNat : Int) == 48) = false := by simp; omega
            have c4' : T[0]'hT0 ≠ 48 := fun h => c4 (by rw [h]; rfl)
            have hwt : isWhL (T.data.toList.take k) = true := by rw [hw, h0]; simp [c4']; omega
            by_cases c5 : (T[k]'hsz).toNat = 46
            · have e5 : (((T[k]'hsz).toNat : Int) != 46) = false := by rw [c5]; rfl
              have g5 : T.data.toList[k]?.getD 0 = 46 := by rw [getD_list T k hsz]; exact UInt8.toNat_inj.1 c5
              obtain ⟨p, hpp⟩ : ∃ p, k + 1 + p = T.size := ⟨T.size - (k + 1), by omega⟩
              have rp : (T.size : Int) - (k : Int) - 1 = (p : Int) := by omega
              have hdl : (T.data.toList.drop (k + 1)).length = p := by rw [List.length_drop, htl]; omega
              by_cases c6 : p < 1
              · exact rpB62_f s T k w _ hk hTi hp h45 hT hdig e1 e2 (decide_eq_true (by omega)) hT0 e4 hsz hno e5 p rp (decide_eq_true (by omega)) (refR_noId (by omega) (by unfold isDigL; rw [hdl, decide_eq_false (show ¬ 1 ≤ p by omega)]; simp))
              · by_cases c7 : 6 < p
                · exact rpB72_f s T k w _ hk hTi hp h45 hT hdig e1 e2 (decide_eq_true (by omega)) hT0 e4 hsz hno e5 p rp (decide_eq_false (by omega)) (decide_eq_true (by omega)) (refR_noId (by omega) (by unfold isDigL; rw [hdl, decide_eq_false (show ¬ p ≤ 6 by omega)]; simp))
                · refine rpD_f2 s T k w _ hk hTi hp h45 hT hdig e1 e2 (decide_eq_true (by omega)) hT0 e4 hsz hno e5 p rp (decide_eq_false (by omega)) (decide_eq_false (by omega)) (hv_of hwt) ?_ ?_
                  · intro ha
                    refine refR_D hwt g5 ?_
                    unfold isDigL
                    rw [hdl, all_of_getD (fun q hq => ha q (by omega))]; simp; omega
                  · intro z hz hf
                    refine refR_noId (by omega) ?_
                    unfold isDigL
                    cases hal : (T.data.toList.drop (k + 1)).all isD with
                    | false => simp
                    | true => have := getD_of_all hal z; rw [hf] at this; cases this
            · have e5 : (((T[k]'hsz).toNat : Int) != 46) = true := by simp; omega
              exact rpB52_f s T k w _ hk hTi hp h45 hT hdig e1 e2 (decide_eq_true (by omega)) hT0 e4 hsz hno e5 (refR_noId (by omega) (by
                rw [getD_list T k hsz, decide_eq_false (fun h => c5 (by rw [h]; rfl))]; rfl))
        · have hwt : isWhL (T.data.toList.take k) = true := by rw [hw]; simp; omega
          by_cases c5 : (T[k]'hsz).toNat = 46
          · have e5 : (((T[k]'hsz).toNat : Int) != 46) = false := by rw [c5]; rfl
            have g5 : T.data.toList[k]?.getD 0 = 46 := by rw [getD_list T k hsz]; exact UInt8.toNat_inj.1 c5
            obtain ⟨p, hpp⟩ : ∃ p, k + 1 + p = T.size := ⟨T.size - (k + 1), by omega⟩
            have rp : (T.size : Int) - (k : Int) - 1 = (p : Int) := by omega
            have hdl : (T.data.toList.drop (k + 1)).length = p := by rw [List.length_drop, htl]; omega
            by_cases c6 : p < 1
            · exact rpB61_f s T k w _ hk hTi hp h45 hT hdig e1 e2 (decide_eq_false (by omega)) hsz hno e5 p rp (decide_eq_true (by omega)) (refR_noId (by omega) (by unfold isDigL; rw [hdl, decide_eq_false (show ¬ 1 ≤ p by omega)]; simp))
            · by_cases c7 : 6 < p
              · exact rpB71_f s T k w _ hk hTi hp h45 hT hdig e1 e2 (decide_eq_false (by omega)) hsz hno e5 p rp (decide_eq_false (by omega)) (decide_eq_true (by omega)) (refR_noId (by omega) (by unfold isDigL; rw [hdl, decide_eq_false (show ¬ p ≤ 6 by omega)]; simp))
              · refine rpD_f1 s T k w _ hk hTi hp h45 hT hdig e1 e2 (decide_eq_false (by omega)) hsz hno e5 p rp (decide_eq_false (by omega)) (decide_eq_false (by omega)) (hv_of hwt) ?_ ?_
                · intro ha
                  refine refR_D hwt g5 ?_
                  unfold isDigL
                  rw [hdl, all_of_getD (fun q hq => ha q (by omega))]; simp; omega
                · intro z hz hf
                  refine refR_noId (by omega) ?_
                  unfold isDigL
                  cases hal : (T.data.toList.drop (k + 1)).all isD with
                  | false => simp
                  | true => have := getD_of_all hal z; rw [hf] at this; cases this
          · have e5 : (((T[k]'hsz).toNat : Int) != 46) = true := by simp; omega
            exact rpB51_f s T k w _ hk hTi hp h45 hT hdig e1 e2 (decide_eq_false (by omega)) hsz hno e5 (refR_noId (by omega) (by
              rw [getD_list T k hsz, decide_eq_false (fun h => c5 (by rw [h]; rfl))]; rfl))
  · have hkT : T.size ≤ k := by omega
    by_cases c1 : k < 1
    · exact rpB1n_f s T k w _ hk hTi hp h45 hT hdig (decide_eq_true (by omega)) hkT (refR_noWh (by rw [hw, decide_eq_false (show ¬ 1 ≤ k by omega)]; rfl))
    · have e1 : decide ((k : Int) < 1) = false := decide_eq_false (by omega)
      by_cases c2 : 10 < k
      · exact rpB2n_f s T k w _ hk hTi hp h45 hT hdig e1 (decide_eq_true (by omega)) hkT (refR_noWh (by rw [hw, decide_eq_false (show ¬ k ≤ 10 by omega)]; simp))
      · have e2 : decide (10 < (k : Int)) = false := decide_eq_false (by omega)
        have hT0 : 0 < T.size := by omega
        have h0 : T.data.toList[0]?.getD 0 = T[0]'hT0 := getD_list T 0 hT0 0
        by_cases c3 : 1 < k
        · by_cases c4 : (T[0]'hT0).toNat = 48
          · have g4 : T[0]'hT0 = 48 := UInt8.toNat_inj.1 c4
            exact rpB3n_f s T k w _ hk hTi hp h45 hT hdig e1 e2 (decide_eq_true (by omega)) hT0 (by rw [c4]; rfl) hkT (refR_noWh (by rw [hw, h0, g4, decide_eq_false (show ¬ k = 1 by omega)]; simp))
          · have e4 : (((T[0]'hT0).toNat : Int) == 48) = false := by simp; omega
            have c4' : T[0]'hT0 ≠ 48 := fun h => c4 (by rw [h]; rfl)
            have hwt : isWhL (T.data.toList.take k) = true := by rw [hw, h0]; simp [c4']; omega
            exact rpN_f2 s T k w _ hk hTi hp h45 hT hdig e1 e2 (decide_eq_true (by omega)) hT0 e4 hkT (hv_of hwt) (refR_N hwt (by omega))
        · have hwt : isWhL (T.data.toList.take k) = true := by rw [hw]; simp; omega
          exact rpN_f1 s T k w _ hk hTi hp h45 hT hdig e1 e2 (decide_eq_false (by omega)) hkT (hv_of hwt) (refR_N hwt (by omega))

theorem rparse_any (s : ByteArray) (w : World) (hs : s.size ≤ maxLen) :
    Calls Tryz.prog 81 #[.string s] w fun e w' => e = .returned (.tuple #[.int .i64 (parseL s.data.toList).1, .bool (parseL s.data.toList).2]) ∧ w' = w := by
  have hl : s.data.toList.length = s.size := Array.length_toList
  by_cases hp : 0 < s.size
  · have h0 : s.data.toList[0]?.getD 0 = s[0]'hp := getD_list s 0 hp 0
    by_cases h45 : (s[0]'hp).toNat = 45
    · have e0 : s.data.toList = 45 :: (s.extract 1 s.size).data.toList := by
        rw [Lib.extract_to_end]
        have g : s[0]'hp = 45 := UInt8.toNat_inj.1 h45
        rw [g] at h0
        cases hc : s.data.toList with
        | nil => rw [hc] at hl; simp at hl; omega
        | cons c t => rw [hc] at h0; simp at h0; rw [h0]; rfl
      have hz : (s.extract 1 s.size).size ≤ s.size := by simp
      obtain ⟨k, hk, hd, he, hR⟩ := ahead_of (s.extract 1 s.size) true
      rw [e0, parseL_neg, hR]
      exact rparse_t s _ k w hk (by unfold maxLen at hs; omega) hp h45 rfl hd he
    · have e0 : parseL s.data.toList = parseT false (Lib.cut s.data.toList [46]) := by
        cases hc : s.data.toList with
        | nil => rw [hc] at hl; simp at hl; omega
        | cons c t =>
          refine parseL_pos (fun e => h45 ?_)
          rw [hc, e] at h0
          simp at h0
          rw [← h0]; rfl
      obtain ⟨k, hk, hd, he, hR⟩ := ahead_of s false
      rw [e0, hR]
      exact rparse_f s s k w hk (by unfold maxLen at hs; omega) hp h45 rfl hd he
  · have e0 : s.data.toList = [] := List.length_eq_zero_iff.1 (by omega)
    rw [e0, parseL_nil]
    exact rp_empty s w (by omega)
end Go.Proofs.YtommhgmlblecnaaGreatDoor
namespace Go.Proofs.YtommhgmlblecnaaGreatDoor
open Go Go.RowKit

set_option maxHeartbeats 800000 in
theorem rdnumber_any (s : ByteArray) (hs : s.size ≤ 10) (w : World) :
    Calls Tryz.prog 115 #[.string s] w fun e w' => e = .returned (.int .i64 (if dgOk s.data.toList then (dgV s.data.toList : Int) else -1)) ∧ w' = w := by
  have hsz : s.data.toList.length = s.size := by rw [Array.length_toList]; rfl
  generalize hR : (if dgOk s.data.toList then (dgV s.data.toList : Int) else -1) = R
  have HR := hid hR
  have HZ := hid hsz
  clear hR hsz
  go_enter Tryz.func115, Tryz.ntmps115
  go_wp2_with fail
  go_loop [3, 4] (fun a b => ∃ k : Nat, k ≤ s.size ∧ b = .int .i64 k ∧ a = .int .i64 (dgV (s.data.toList.take k) : Nat) ∧ dgOk (s.data.toList.take k) = true) (fun _ b => s.size - (intOf b).toNat)
  case atStart => exact ⟨0, by omega, rfl, rfl, rfl⟩
  case round =>
    obtain ⟨k, hk, rfl, rfl, hok⟩ := hrel
    have hb := dgV_lt (s.data.toList.take k) 10 (by rw [List.length_take]; omega) hok
    have HK := hid hok
    clear hok
    by_cases hlt : k < s.size
    · have hc := at_byte s k hlt
      have h1 := dgOk_take (l := s.data.toList) k (by rw [HZ.out]; exact hlt)
      have h2 := dgV_take (l := s.data.toList) k (by rw [HZ.out]; exact hlt)
      have h3 := dgOk_all (l := s.data.toList) k (by rw [HZ.out]; exact hlt)
      rw [hc] at h1 h2 h3
      have H1 := hid h1
      have H2 := hid h2
      have H3 := hid h3
      clear h1 h2 h3 hc
      go_wp2
      case roundEnd =>
        rename_i q0 q1
        refine ⟨⟨k + 1, by omega, rfl, ?_, ?_⟩, by simp [intOf]; omega⟩
        · have := H2.out
          congr 1; omega
        · rw [H1.out, HK.out, Bool.true_and, decide_eq_true_eq]; omega
      all_goals
        go_ret
        refine ⟨?_, rfl⟩
        have hno := H3.out (by rw [decide_eq_false_iff_not]; omega)
        rw [← HR.out, if_neg (by rw [hno]; simp)]
        rfl
    · have : k = s.size := by omega
      subst this
      go_wp2
      go_ret
      refine ⟨?_, rfl⟩
      have hok := HK.out
      have e : s.data.toList.take s.size = s.data.toList := by rw [← HZ.out]; exact List.take_length
      rw [e] at hok
      rw [← HR.out, if_pos hok, e]
      rfl

set_option maxRecDepth 100000 in
set_option maxHeartbeats 800000 in
theorem rdparse_any (s : ByteArray) (w : World) :
    Calls Tryz.prog 80 #[.string s] w fun e w' => e = .returned (parseV s.data.toList) ∧ Below w.heap.size w w' := by
  have hsz : s.data.toList.length = s.size := by rw [Array.length_toList]; rfl
  have HZ := hid hsz
  clear hsz
  by_cases h10 : s.size = 10
  · have b4 := at_byte s 4 (by omega)
    have b7 := at_byte s 7 (by omega)
    by_cases h4 : (s[4].toNat : Int) = 45
    · by_cases h7 : (s[7].toNat : Int) = 45
      · have x1 := ext_listD s 0 4
        have x2 := ext_listD s 5 7
        have x3 := ext_listD s 8 10
        have D1 := rdnumber_any (s.extract 0 4) (by simp; omega)
        have D2 := rdnumber_any (s.extract 5 7) (by simp; omega)
        have D3 := rdnumber_any (s.extract 8 10) (by simp; omega)
        have e3 : (s.data.toList.drop 8).take (10 - 8) = s.data.toList.drop 8 := List.take_of_length_le (by rw [List.length_drop, HZ.out]; omega)
        rw [x1, List.drop_zero] at D1
        rw [x2] at D2
        rw [x3, e3] at D3
        have c4 : s.data.toList.getD 4 0 = 45 := by rw [b4]; exact u8_ext (by have : (45 : UInt8).toNat = 45 := rfl; omega)
        have c7 : s.data.toList.getD 7 0 = 45 := by rw [b7]; exact u8_ext (by have : (45 : UInt8).toNat = 45 := rfl; omega)
        have hp : parseV s.data.toList = ofV (if dgOk (s.data.toList.take (4 - 0)) = true then (dgV (s.data.toList.take (4 - 0)) : Int) else -1) (if dgOk ((s.data.toList.drop 5).take (7 - 5)) = true then (dgV ((s.data.toList.drop 5).take (7 - 5)) : Int) else -1) (if dgOk (s.data.toList.drop 8) = true then (dgV (s.data.toList.drop 8) : Int) else -1) := by
          unfold parseV
          rw [show 4 - 0 = 4 from rfl, show 7 - 5 = 2 from rfl]
          by_cases o1 : dgOk (s.data.toList.take 4) = true
          · by_cases o2 : dgOk ((s.data.toList.drop 5).take 2) = true
            · by_cases o3 : dgOk (s.data.toList.drop 8) = true
              · rw [if_pos ⟨by rw [HZ.out]; exact h10, c4, c7, o1, o2, o3⟩, if_pos o1, if_pos o2, if_pos o3]
              · rw [if_neg (fun h => o3 h.2.2.2.2.2), if_neg o3, ofV_no]
                rintro ⟨_, _, h, _⟩; omega
            · rw [if_neg (fun h => o2 h.2.2.2.2.1), if_neg o2, ofV_no]
              rintro ⟨_, h, _, _⟩; omega
          · rw [if_neg (fun h => o1 h.2.2.2.1), if_neg o1, ofV_no]
            rintro ⟨h, _, _, _⟩; omega
        rw [hp]
        generalize (if dgOk (s.data.toList.take (4 - 0)) = true then (dgV (s.data.toList.take (4 - 0)) : Int) else -1) = N1 at *
        generalize (if dgOk ((s.data.toList.drop 5).take (7 - 5)) = true then (dgV ((s.data.toList.drop 5).take (7 - 5)) : Int) else -1) = N2 at *
        generalize (if dgOk (s.data.toList.drop 8) = true then (dgV (s.data.toList.drop 8) : Int) else -1) = N3 at *
        have hofp : ∃ x y, ofV N1 N2 N3 = .tuple #[.int .i64 x, .int .i64 y] := by
          unfold ofV
          split
          · exact ⟨_, _, rfl⟩
          · exact ⟨_, _, rfl⟩
        obtain ⟨X, Y, hXY⟩ := hofp
        have HD1 := hid D1
        have HD2 := hid D2
        have HD3 := hid D3
        have HO := hid (rof_any N1 N2 N3)
        rw [hXY] at HO ⊢
        clear b4 b7 x1 x2 x3 D1 D2 D3 e3 c4 c7 hp hXY
        go_enter Tryz.func80, Tryz.ntmps80
        go_wp2_with fail
        go_region_with (first
          | (go_at_call_of 115 (s.extract 0 4); refine (HD1.out _).mono ?_; rintro e w' ⟨rfl, rfl⟩)
          | (go_at_call_of 115 (s.extract 5 7); refine (HD2.out _).mono ?_; rintro e w' ⟨rfl, rfl⟩)
          | (go_at_call_of 115 (s.extract 8 10); refine (HD3.out _).mono ?_; rintro e w' ⟨rfl, rfl⟩)
          | (go_at_call 114; refine (HO.out _).mono ?_; rintro e w' ⟨rfl, hB⟩))
        all_goals
          go_wp2
          go_ret2
          exact ⟨rfl, Below.next ((Below.refl _ _).drew) hB⟩
      · go_enter Tryz.func80, Tryz.ntmps80
        go_wp2
        go_ret2
        refine ⟨?_, Below.refl _ _⟩
        unfold parseV
        rw [if_neg (by rintro ⟨_, _, h, _⟩; rw [b7] at h; apply h7; rw [h]; rfl)]
        rfl
    · go_enter Tryz.func80, Tryz.ntmps80
      go_wp2
      go_ret2
      refine ⟨?_, Below.refl _ _⟩
      unfold parseV
      rw [if_neg (by rintro ⟨_, h, _⟩; rw [b4] at h; apply h4; rw [h]; rfl)]
      rfl
  · go_enter Tryz.func80, Tryz.ntmps80
    go_wp2
    go_ret2
    refine ⟨?_, Below.refl _ _⟩
    unfold parseV
    rw [if_neg (by rw [HZ.out]; exact fun h => h10 h.1)]
    rfl
end Go.Proofs.YtommhgmlblecnaaGreatDoor
