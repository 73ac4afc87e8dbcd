/- What num reads of a text is what the reference reads of it: plain mathematics. -/
import Derived.Test.YtehpnhmghfpjpaaDoorRefParse0
import Derived.Test.YtehpnhmghfpjpaaDoorBackMath
namespace Go.Proofs.YtehpnhmghfpjpaaDoor

theorem refR_noWh {bl : Bool} {t : List UInt8} {k : Nat} (h : isWhL (t.take k) = false) : refR bl t k = (0, false) := by
  unfold refR coreR; rw [h]; rfl
theorem refR_noId {bl : Bool} {t : List UInt8} {k : Nat} (hk : k < t.length) (h : (decide (t[k]?.getD 0 = 46) && isDigL (t.drop (k + 1)) 6) = false) : refR bl t k = (0, false) := by
  unfold refR coreR; rw [h, decide_eq_true hk]; simp
theorem refR_N {bl : Bool} {t : List UInt8} {k : Nat} (hw : isWhL (t.take k) = true) (hk : t.length ≤ k) : refR bl t k = endI bl (frac ([] : List UInt8) (valW 0 (t.take k)) 6 : Int) := by
  unfold refR
  rw [hw, List.drop_eq_nil_of_le (show t.length ≤ k + 1 by omega), decide_eq_false (show ¬ k < t.length by omega)]
  exact coreR_good _ bl false _ (fun h => by cases h)
theorem refR_D {bl : Bool} {t : List UInt8} {k : Nat} (hw : isWhL (t.take k) = true) (h : t[k]?.getD 0 = 46) (hd : isDigL (t.drop (k + 1)) 6 = true) :
    refR bl t k = endI bl (frac (t.drop (k + 1)) (valW 0 (t.take k)) 6 : Int) := by
  unfold refR
  rw [hw, hd, decide_eq_true h]
  exact coreR_good _ bl _ _ (fun _ => rfl)

theorem cut_app' {x : List UInt8} (y : List UInt8) (h : ∀ c ∈ x, c ≠ 46) : Lib.cut (x ++ 46 :: y) [46] = (x, y, true) := by
  unfold Lib.cut
  rw [index_app x y h, if_pos (by omega)]
  simp
theorem cut_no' {x : List UInt8} (h : ∀ c ∈ x, c ≠ 46) : Lib.cut x [46] = (x, [], false) := by
  unfold Lib.cut
  rw [index_no x h, if_neg (by omega)]
theorem noWh_of {l : List UInt8} {c : UInt8} (hc : c ∈ l) (h : isD c = false) : isWhL l = false := by
  cases hw : isWhL l with
  | false => rfl
  | true =>
    have := List.all_eq_true.1 (isWhL_all hw).1 c hc
    rw [h] at this; cases this
/-- A byte that is no digit and no point: what Cut gives ahead of the point holds it. -/
theorem cut_bad (d r : List UInt8) (c : UInt8) (hd : d.all isD = true) (hc : isD c = false) (h46 : c ≠ 46) : isWhL (Lib.cut (d ++ c :: r) [46]).1 = false := by
  by_cases hm : (46 : UInt8) ∈ r
  · obtain ⟨x, y, rfl, hx⟩ := List.eq_append_cons_of_mem hm
    have hno : ∀ b ∈ d ++ c :: x, b ≠ 46 := fun b hb => by
      rcases List.mem_append.1 hb with h | h
      · exact not46 hd b h
      · rcases List.mem_cons.1 h with rfl | h
        · exact h46
        · exact fun e => hx (e ▸ h)
    rw [show d ++ c :: (x ++ 46 :: y) = (d ++ c :: x) ++ 46 :: y by simp, cut_app' y hno]
    exact noWh_of (c := c) (by simp) hc
  · have hno : ∀ b ∈ d ++ c :: r, b ≠ 46 := fun b hb => by
      rcases List.mem_append.1 hb with h | h
      · exact not46 hd b h
      · rcases List.mem_cons.1 h with rfl | h
        · exact h46
        · exact fun e => hm (e ▸ h)
    rw [cut_no' hno]
    exact noWh_of (c := c) (by simp) hc

theorem parseT_ref (bl : Bool) (d r : List UInt8) (hd : d.all isD = true) (hr : ∀ c r', r = c :: r' → isD c = false) :
    parseT bl (Lib.cut (d ++ r) [46]) = refR bl (d ++ r) d.length := by
  cases r with
  | nil =>
    rw [List.append_nil, cut_no hd]
    unfold parseT refR
    rw [List.take_length, List.drop_eq_nil_of_le (show d.length ≤ d.length + 1 by omega), decide_eq_false (Nat.lt_irrefl _)]
    unfold coreR
    simp only [Bool.not_false, Bool.true_or]
  | cons c r =>
    by_cases h : c = 46
    · subst h
      rw [cut_app r hd]
      unfold parseT refR
      have e1 : (d ++ 46 :: r).take d.length = d := by simp
      have e2 : (d ++ 46 :: r).drop (d.length + 1) = r := by simp
      have e3 : (d ++ 46 :: r)[d.length]?.getD 0 = 46 := by simp
      have e4 : d.length < (d ++ 46 :: r).length := by simp
      rw [e1, e2, e3, decide_eq_true e4]
      simp only [decide_true, Bool.true_and]
    · have hw := cut_bad d r c hd (hr c r rfl) h
      rw [refR_noId (by simp) (by simp [h])]
      unfold parseT coreR
      rw [hw]; rfl

theorem digits_ahead : ∀ t : List UInt8, ∃ d r, t = d ++ r ∧ d.all isD = true ∧ ∀ c r', r = c :: r' → isD c = false
  | [] => ⟨[], [], rfl, rfl, fun _ _ h => by cases h⟩
  | c :: t => by
    by_cases h : isD c = true
    · obtain ⟨d, r, rfl, hd, hr⟩ := digits_ahead t
      exact ⟨c :: d, r, rfl, by rw [List.all_cons, h, hd]; rfl, hr⟩
    · exact ⟨[], c :: t, rfl, rfl, fun c' r' e => by cases e; simpa using h⟩

/-- The same of bytes. -/
theorem ahead_of (T : ByteArray) (bl : Bool) : ∃ k, k ≤ T.size ∧ (∀ i (h : i < T.size), i < k → isD (T[i]'h) = true) ∧ (∀ h : k < T.size, isD (T[k]'h) = false) ∧
    parseT bl (Lib.cut T.data.toList [46]) = refR bl T.data.toList k := by
  obtain ⟨d, r, ht, hd, hr⟩ := digits_ahead T.data.toList
  have hl : T.data.toList.length = T.size := Array.length_toList
  have hs : T.size = d.length + r.length := by rw [← hl, ht, List.length_append]
  refine ⟨d.length, by omega, fun i h hi => ?_, fun h => ?_, by rw [ht]; exact parseT_ref bl d r hd hr⟩
  · rw [← getD_list T i h 48, ht, List.getElem?_append_left hi]
    exact getD_of_all hd i
  · rw [← getD_list T d.length h 48, ht]
    cases r with
    | nil => simp at hs; omega
    | cons c r => simp; exact hr c r rfl
theorem parseL_nil : parseL [] = (0, false) := by decide
theorem parseL_neg (t : List UInt8) : parseL (45 :: t) = parseT true (Lib.cut t [46]) := by
  unfold parseL Lib.trimPrefix Lib.hasPrefix; simp [List.isPrefixOf]
theorem parseL_pos {c : UInt8} {t : List UInt8} (h : c ≠ 45) : parseL (c :: t) = parseT false (Lib.cut (c :: t) [46]) := by
  have e : (45 == c) = false := by simpa using Ne.symm h
  unfold parseL Lib.trimPrefix Lib.hasPrefix; simp [List.isPrefixOf, e]
end Go.Proofs.YtehpnhmghfpjpaaDoor
