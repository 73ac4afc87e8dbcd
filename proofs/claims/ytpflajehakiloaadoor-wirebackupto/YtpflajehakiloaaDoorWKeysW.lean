/- The walk of WireKeys. -/
import Derived.Test.YtpflajehakiloaaDoorWLaw
import Derived.Test.YtpflajehakiloaaDoorWKeysMath
namespace Go.Proofs.YtpflajehakiloaaDoor
open Go Go.RowKit

theorem ext_take (C : ByteArray) (k : Nat) : (C.extract 0 k).toList = C.toList.take k := by
  rw [Lib.toList_data, Lib.toList_data, ByteArray.data_extract, Array.toList_extract]; simp [List.extract]

set_option maxRecDepth 100000 in
set_option maxHeartbeats 4000000 in
theorem wireKeys_walk0 (s t : ByteArray) (n m : Int) (w : World) (ht : Tab w) (hs : s.size ≤ 140737488351232) (hts : t.size ≤ 140737488351232) (n0 : -9223372036854775808 ≤ n) (n1 : n ≤ 9223372036854775807) (m0 : -9223372036854775808 ≤ m) (m1 : m ≤ 9223372036854775807) :
    Calls Tryd.prog 7 #[.string s, .int .i64 n, .string t, .int .i64 m] w fun e w' => e = .returned (.bool true) ∧ Below w.heap.size w w' := by
  have HT := hid ht
  have hks : (kt s.data.toList).length ≤ 2 * s.size + 2 := by have := kt_len_le s.data.toList; rw [Array.length_toList] at this; exact this
  have hkt : (kt t.data.toList).length ≤ 2 * t.size + 2 := by have := kt_len_le t.data.toList; rw [Array.length_toList] at this; exact this
  clear ht
  go_enter Tryd.func7, Tryd.ntmps7
  go_wp2_with fail
  refine (shown_any w HT.out).mono ?_
  rintro e w1 ⟨rfl, hB1⟩
  go_wp2_with fail
  refine (keyText_v _ [] s w1 (Sl.nil w1) (by simp; omega)).mono ?_
  rintro e w2 ⟨v2, rfl, hs2, hB2⟩
  have hB2 := Below.next hB1 hB2
  clear hB1
  go_wp2_with fail
  refine (keyInt_v v2 _ n w2 hs2 n0 n1 (by simp; omega)).mono ?_
  rintro e w3 ⟨v3, rfl, hs3, hB3⟩
  have hB3 := Below.next hB2 hB3
  have hcv3 := conv_sl hs3
  generalize hA : (⟨([] ++ kt s.data.toList ++ kb n).toArray⟩ : ByteArray) = A at hcv3
  have HA : Hid (A.toList = kt s.data.toList ++ kb n) := by show _ = _; rw [← hA, Lib.toList_data]; simp
  clear hB2 hs2 hA
  go_wp2_with fail
  refine (keyText_v _ [] t w3 (Sl.nil w3) (by simp; omega)).mono ?_
  rintro e w4 ⟨v4, rfl, hs4, hB4⟩
  have hB4 := Below.next hB3 hB4
  clear hB3 hcv3 hs3
  go_wp2_with fail
  refine (keyInt_v v4 _ m w4 hs4 m0 m1 (by simp; omega)).mono ?_
  rintro e w5 ⟨v5, rfl, hs5, hB5⟩
  have hB5 := Below.next hB4 hB5
  have hcv5 := conv_sl hs5
  generalize hC : (⟨([] ++ kt t.data.toList ++ kb m).toArray⟩ : ByteArray) = C at hcv5
  have HC : Hid (C.toList = kt t.data.toList ++ kb m) := by show _ = _; rw [← hC, Lib.toList_data]; simp
  clear hB4 hs4 hC hs5
  have hfst : ∀ a b, lessI (Op.bytesLess s.toList t.toList) a = lessI (Op.bytesLess s.toList t.toList) b → True := fun _ _ _ => trivial
  clear hfst
  obtain ⟨cst, hcst⟩ : ∃ c, lessI (Op.bytesLess s.toList t.toList) (!Op.bytesLess s.toList t.toList && !s.toList == t.toList) = c := ⟨_, rfl⟩
  obtain ⟨cnm, hcnm⟩ : ∃ c, lessI (decide (n < m)) (decide (m < n)) = c := ⟨_, rfl⟩
  obtain ⟨cac, hcac⟩ : ∃ c, lessI (Op.bytesLess A.toList C.toList) (!Op.bytesLess A.toList C.toList && !A.toList == C.toList) = c := ⟨_, rfl⟩
  have hF : cac = if cst = 0 then cnm else cst := by
    rw [← hcac, ← hcst, ← hcnm, HA.out, HC.out, Lib.toList_data s, Lib.toList_data t]
    exact c3_ktkb n0 n1 m0 m1
  have HF := hid hF
  have HST := hid hcst
  have HNM := hid hcnm
  have HAC := hid hcac
  clear hcst hcnm hcac hF
  have hAs : A.size = (kt s.data.toList ++ kb n).length := by rw [← HA.out, Lib.toList_data, Array.length_toList]; rfl
  have hCs : C.size = (kt t.data.toList ++ kb m).length := by rw [← HC.out, Lib.toList_data, Array.length_toList]; rfl
  have hAC : A.size < C.size → C.toList.take A.size ≠ A.toList := by
    intro h
    rw [HA.out, HC.out, hAs]
    exact key_begin (by rw [← hAs, ← hCs]; exact h)
  have hCA : C.size < A.size → A.toList.take C.size ≠ C.toList := by
    intro h
    rw [HA.out, HC.out, hCs]
    exact key_begin (by rw [← hAs, ← hCs]; exact h)
  have hAb : A.size ≤ 281474976710656 := by rw [hAs, List.length_append, kb_len]; omega
  have hCb : C.size ≤ 281474976710656 := by rw [hCs, List.length_append, kb_len]; omega
  clear hAs hCs
  have hZ : (cst == 0) = true ∧ cac = cnm ∨ (cst == 0) = false ∧ cac = cst := by
    have := HF.out
    by_cases hz : cst = 0
    · exact .inl ⟨by simpa using hz, by rw [this, if_pos hz]⟩
    · exact .inr ⟨by simpa using hz, by rw [this, if_neg hz]⟩
  have hS : A.size < C.size ∧ ¬ C.size < A.size ∧ ((C.extract 0 A.size).toList == A.toList) = false ∨ ¬ A.size < C.size ∧ C.size < A.size ∧ ((A.extract 0 C.size).toList == C.toList) = false ∨ ¬ A.size < C.size ∧ ¬ C.size < A.size ∧ true = true := by
    by_cases h1 : A.size < C.size
    · exact .inl ⟨h1, by omega, by rw [ext_take]; simpa using hAC h1⟩
    · by_cases h2 : C.size < A.size
      · exact .inr (.inl ⟨h1, h2, by rw [ext_take]; simpa using hCA h2⟩)
      · exact .inr (.inr ⟨h1, h2, rfl⟩)
  have hNZ : (cnm == 0) = true ∨ (cnm == 0) = false := by cases (cnm == 0) <;> simp
  clear hAC hCA HF
  rcases hZ with ⟨hzb, hz⟩ | ⟨hzb, hz⟩
  all_goals
    have HZ := hid hz
    clear hz
    rcases hS with ⟨hS1, hS2, hS3⟩ | ⟨hS1, hS2, hS3⟩ | ⟨hS1, hS2, hS3⟩
  all_goals
    go_wp2_with (first | (go_at_call 30; refine (less_any _ _ _).mono ?_; rintro e w5 ⟨rfl, rfl⟩; first | rw [HST.out] | rw [HNM.out] | rw [HAC.out]))
    refine (keyInt_v _ [] n w5 (Sl.nil w5) n0 n1 (by simp)).mono ?_
    rintro e w6 ⟨v6, rfl, hs6, hB6⟩
    have hB6 := Below.next hB5 hB6
    clear hB5 hcv5
    go_wp2_with fail
    refine (keyText_v v6 _ s w6 hs6 (by rw [List.nil_append, kb_len]; omega)).mono ?_
    rintro e w7 ⟨v7, rfl, hs7, hB7⟩
    have hB7 := Below.next hB6 hB7
    have hcv7 := conv_sl hs7
    generalize hD : (⟨([] ++ kb n ++ kt s.data.toList).toArray⟩ : ByteArray) = D at hcv7
    have HD : Hid (D.toList = kb n ++ kt s.data.toList) := by show _ = _; rw [← hD, Lib.toList_data]; simp
    clear hB6 hs6 hD
    go_wp2_with fail
    refine (keyInt_v _ [] m w7 (Sl.nil w7) m0 m1 (by simp)).mono ?_
    rintro e w8 ⟨v8, rfl, hs8, hB8⟩
    have hB8 := Below.next hB7 hB8
    clear hB7 hcv7 hs7
    go_wp2_with fail
    refine (keyText_v v8 _ t w8 hs8 (by rw [List.nil_append, kb_len]; omega)).mono ?_
    rintro e w9 ⟨v9, rfl, hs9, hB9⟩
    have hB9 := Below.next hB8 hB9
    have hcv9 := conv_sl hs9
    generalize hE : (⟨([] ++ kb m ++ kt t.data.toList).toArray⟩ : ByteArray) = E at hcv9
    have HE : Hid (E.toList = kb m ++ kt t.data.toList) := by show _ = _; rw [← hE, Lib.toList_data]; simp
    clear hB8 hs8 hE hs9
    obtain ⟨cde, hcde⟩ : ∃ c, lessI (Op.bytesLess D.toList E.toList) (!Op.bytesLess D.toList E.toList && !D.toList == E.toList) = c := ⟨_, rfl⟩
    have hF : cde = if cnm = 0 then cst else cnm := by
      rw [← hcde, ← HST.out, ← HNM.out, HD.out, HE.out, Lib.toList_data s, Lib.toList_data t]
      exact c3_kbkt n0 n1 m0 m1
    have HDE := hid hcde
    clear hcde
    rcases hNZ with hnz | hnz
  all_goals
    first
      | (have hG : cde = cst := by rw [hF, if_pos (by simpa using hnz)])
      | (have hG : cde = cnm := by rw [hF, if_neg (by simpa using hnz)])
    have HG := hid hG
    clear hG hF
    rw [← HZ.out]
    go_wp2_with (first | (go_at_call 30; refine (less_any _ _ _).mono ?_; rintro e w9 ⟨rfl, rfl⟩; first | rw [HST.out] | rw [HNM.out] | rw [HDE.out]))
    go_ret
    refine ⟨?_, hB9⟩
    first
      | (show Ending.returned (.bool (cde == cst)) = _; rw [HG.out]; simp; done)
      | (show Ending.returned (.bool (cde == cnm)) = _; rw [HG.out]; simp; done)
theorem wireKeys_walk (s : ByteArray) (n : Int) (t : ByteArray) (m : Int) (w : World) (ht : Tab w) (hs : s.size ≤ 140737488351232) (n0 : -9223372036854775808 ≤ n) (n1 : n ≤ 9223372036854775807) (hts : t.size ≤ 140737488351232) (m0 : -9223372036854775808 ≤ m) (m1 : m ≤ 9223372036854775807) :
    Calls Tryd.prog 7 #[.string s, .int .i64 n, .string t, .int .i64 m] w fun e w' => e = .returned (.bool true) ∧ Below w.heap.size w w' :=
  wireKeys_walk0 s t n m w ht hs hts n0 n1 m0 m1
end Go.Proofs.YtpflajehakiloaaDoor
