/- The walks of date's Show. -/
import Derived.Test.YtdjncmcmplnnhaaDoorDText
namespace Go.Proofs.YtdjncmcmplnnhaaDoor
open Go Go.RowKit

/-- A day's text. -/
def shL (y m d : Nat) : List UInt8 := dg 4 (1900 + y) ++ [45] ++ dg 2 (m + 1) ++ [45] ++ dg 2 d

theorem nil_owns (w : World) (B : Nat) : w.ownsRow B 5 1 (.slice none 0 0) 0 (cells8 []) := ⟨rfl, .inl ⟨rfl, rfl⟩⟩

set_option maxRecDepth 100000 in
set_option maxHeartbeats 800000 in
theorem show_yes (n : Nat) (hn : n ≤ 73048) (w : World) (ht : Tab w) :
    Calls Tryd.prog 14 #[.int .i64 n] w fun e w' => ∃ y m d : Nat, Dt y m d ∧ dn y m d = n ∧ e = .returned (.tuple #[.string ⟨(shL y m d).toArray⟩, .int .i64 0]) ∧ Below w.heap.size w w' := by
  go_enter Tryd.func14, Tryd.ntmps14
  go_wp2_with fail
  refine (parts_yes n hn _ ht).mono ?_
  rintro e w1 ⟨y, m, d, hd, hdn, rfl, hB1⟩
  have HD := hid hd
  have HDN := hid hdn
  have hd31 := hd.dle
  have hm := hd.2.1
  have hy := hd.1
  clear hd hdn ht
  have e19 : (1900 + (y : Int)) = ((1900 + y : Nat) : Int) := by omega
  have em1 : ((m : Int) + 1) = ((m + 1 : Nat) : Int) := by omega
  rw [e19, em1]
  have hs1 := hB1.size
  have hc45 : (#[Value.int .u8 45] : Array Value).toList = cells8 [45] := rfl
  have HC := hid hc45
  clear hc45 e19 em1
  generalize hYY : 1900 + y = YY at *
  generalize hMM : m + 1 = MM at *
  have hYb : YY ≤ 100000 := by omega
  have hMb : MM ≤ 100000 := by omega
  have HYM := hid (⟨hYY, hMM⟩ : 1900 + y = YY ∧ m + 1 = MM)
  clear hYY hMM
  go_wp2_with fail
  have l1 : (dg 4 YY).length = 4 := dg_len _ _
  generalize hL1 : dg 4 YY = L1 at *
  refine (appDigits_any 3 YY 4 w.heap.size (.slice none 0 0) [] L1 _ hL1 (by omega) (by omega) hYb (by simp) (by exact nil_owns _ _) hs1).mono ?_
  rintro e w2 ⟨g1, cap1, rfl, ho1, hb1, hl1⟩
  have HO1 := hid ho1
  have Hl1 := hid l1
  have hq1 : L1.length ≤ 100 := by omega
  clear l1
  have hb2 := hB1.trans hb1
  have hs2 : w.heap.size ≤ w2.heap.size := by omega
  clear ho1 hb1
  go_wp2_with (at_builtin; refine appG [45] _ HC.out rfl _ _ rfl w.heap.size L1.length 1 1 _ L1 rfl rfl rfl (by omega) HO1.out (by omega) hb2 hs2 ?_; intro g2 cap2 w3 ho2 hb3 hl2)
  have l2 : (L1 ++ [45]).length = L1.length + 1 := by simp
  rw [← l2] at ho2 ⊢
  have l2' : (L1 ++ [45]).length = 5 := by have := Hl1.out; omega
  have l3 : (dg 2 MM).length = 2 := dg_len _ _
  clear l2
  generalize hL2 : L1 ++ [45] = L2 at *
  have l3' : (L2 ++ dg 2 MM).length = 7 := by rw [List.length_append]; omega
  generalize hL3 : L2 ++ dg 2 MM = L3 at *
  refine (appDigits_any 1 MM 2 w.heap.size _ L2 L3 _ hL3 (by omega) (by omega) hMb (by omega) ho2 (by omega)).mono ?_
  rintro e w4 ⟨g3, cap3, rfl, ho3, hb4, hl3⟩
  have HO3 := hid ho3
  have Hl3 := hid l3'
  have hq3 : L3.length ≤ 100 := by omega
  clear l3' l2' l3
  have hb5 := hb3.trans hb4
  have hs4 : w.heap.size ≤ w4.heap.size := by omega
  clear ho3 hb4 ho2 hb3
  go_wp2_with (at_builtin; refine appG [45] _ HC.out rfl _ _ rfl w.heap.size L3.length 1 1 _ L3 rfl rfl rfl (by omega) HO3.out (by omega) hb5 hs4 ?_; intro g4 cap4 w5 ho4 hb6 hl4)
  have l4 : (L3 ++ [45]).length = L3.length + 1 := by simp
  rw [← l4] at ho4 ⊢
  have l4' : (L3 ++ [45]).length = 8 := by have := Hl3.out; omega
  have l5 : (dg 2 d).length = 2 := dg_len _ _
  clear l4
  generalize hL4 : L3 ++ [45] = L4 at *
  have l5' : (L4 ++ dg 2 d).length = 10 := by rw [List.length_append]; omega
  generalize hL5 : L4 ++ dg 2 d = L5 at *
  refine (appDigits_any 1 d 2 w.heap.size _ L4 L5 _ hL5 (by omega) (by omega) (by omega) (by omega) ho4 (by omega)).mono ?_
  rintro e w6 ⟨g5, cap5, rfl, ho5, hb7, hl5⟩
  have hcv := conv_sl (owns_sl ho5)
  clear l5 l5' l4'
  have hb8 := hb6.trans hb7
  have HL := hid (show shL y m d = L5 by unfold shL; rw [HYM.out.1, HYM.out.2, hL1, hL2, hL3, hL4, hL5])
  clear hL1 hL2 hL3 hL4 hL5 ho4 hb6 hb7
  go_wp2
  go_ret2
  refine ⟨y, m, d, HD.out, HDN.out, ?_, hb8⟩
  rw [HL.out]
  rfl
set_option maxHeartbeats 800000 in
theorem show_no (n : Int) (hn : n < 0 ∨ 73048 < n) (w : World) :
    Calls Tryd.prog 14 #[.int .i64 n] w fun e w' => e = .returned (.tuple #[.string ⟨#[]⟩, .int .i64 30]) ∧ w' = w := by
  go_enter Tryd.func14, Tryd.ntmps14
  go_wp2_with fail
  refine (parts_no n hn _).mono ?_
  rintro e w1 ⟨rfl, rfl⟩
  go_wp2
  go_ret2
  exact ⟨rfl, rfl⟩

/-- What a few digits say. -/
def dgOk (l : List UInt8) : Bool := l.all fun c => decide (48 ≤ c.toNat ∧ c.toNat ≤ 57)
def dgV (l : List UInt8) : Nat := l.foldl (fun n c => n * 10 + (c.toNat - 48)) 0
theorem dgOk_take {l : List UInt8} (k : Nat) (h : k < l.length) : dgOk (l.take (k + 1)) = (dgOk (l.take k) && decide (48 ≤ (l.getD k 0).toNat ∧ (l.getD k 0).toNat ≤ 57)) := by
  unfold dgOk
  rw [List.take_add_one, List.all_append]
  simp [List.getD, h]
theorem dgV_take {l : List UInt8} (k : Nat) (h : k < l.length) : dgV (l.take (k + 1)) = dgV (l.take k) * 10 + ((l.getD k 0).toNat - 48) := by
  unfold dgV
  rw [List.take_add_one, List.foldl_append]
  simp [List.getD, h]
theorem dgV_lt : ∀ (l : List UInt8) (n : Nat), l.length ≤ n → dgOk l = true → dgV l < 10 ^ n := by
  intro l n hn ho
  have key : ∀ (l : List UInt8) (a : Nat), dgOk l = true → l.foldl (fun n c => n * 10 + (c.toNat - 48)) a < (a + 1) * 10 ^ l.length := by
    intro l
    induction l with
    | nil => intro a _; simp
    | cons c r ih =>
      intro a h
      unfold dgOk at h
      rw [List.all_cons, Bool.and_eq_true, decide_eq_true_eq] at h
      have h1 := ih (a * 10 + (c.toNat - 48)) h.2
      rw [List.foldl_cons]
      refine Nat.lt_of_lt_of_le h1 ?_
      rw [List.length_cons, Nat.pow_succ, Nat.mul_comm (10 ^ r.length) 10, ← Nat.mul_assoc]
      exact Nat.mul_le_mul_right _ (by omega)
  have h := key l 0 ho
  unfold dgV
  refine Nat.lt_of_lt_of_le h ?_
  rw [Nat.zero_add, Nat.one_mul]
  exact Nat.pow_le_pow_right (by omega) hn
theorem dgOk_all {l : List UInt8} (k : Nat) (h : k < l.length) (hn : decide (48 ≤ (l.getD k 0).toNat ∧ (l.getD k 0).toNat ≤ 57) = false) : dgOk l = false := by
  unfold dgOk
  rw [List.all_eq_false]
  refine ⟨l[k], List.getElem_mem h, ?_⟩
  simp [List.getD, h] at hn
  simpa using hn

set_option maxHeartbeats 800000 in
theorem digits_any (s : ByteArray) (hs : s.size ≤ 10) (w : World) :
    Calls Tryd.prog 36 #[.string s] w fun e w' => e = .returned (if dgOk s.data.toList then .tuple #[.int .i64 (dgV s.data.toList : Nat), .bool true] else .tuple #[.int .i64 0, .bool false]) ∧ w' = w := by
  have hsz : s.data.toList.length = s.size := by rw [Array.length_toList]; rfl
  generalize hR : (if dgOk s.data.toList then Value.tuple #[.int .i64 (dgV s.data.toList : Nat), .bool true] else .tuple #[.int .i64 0, .bool false]) = R
  have HR := hid hR
  have HZ := hid hsz
  clear hR hsz
  go_enter Tryd.func36, Tryd.ntmps36
  go_wp2_with fail
  go_loop [4, 8] (fun a b => ∃ k : Nat, k ≤ s.size ∧ b = .int .i64 k ∧ a = .int .i64 (dgV (s.data.toList.take k) : Nat) ∧ dgOk (s.data.toList.take k) = true) (fun _ b => s.size - (intOf b).toNat)
  case atStart => exact ⟨0, by omega, rfl, rfl, rfl⟩
  case round =>
    obtain ⟨k, hk, rfl, rfl, hok⟩ := hrel
    have hb := dgV_lt (s.data.toList.take k) 10 (by rw [List.length_take]; omega) hok
    have HK := hid hok
    clear hok
    by_cases hlt : k < s.size
    · have hc : s.data.toList.getD k 0 = s[k] := by
        have : k < s.data.toList.length := by rw [HZ.out]; exact hlt
        rw [List.getD, List.getElem?_eq_getElem this, Option.getD_some, Array.getElem_toList]; rfl
      have h1 := dgOk_take (l := s.data.toList) k (by rw [HZ.out]; exact hlt)
      have h2 := dgV_take (l := s.data.toList) k (by rw [HZ.out]; exact hlt)
      have h3 := dgOk_all (l := s.data.toList) k (by rw [HZ.out]; exact hlt)
      rw [hc] at h1 h2 h3
      have H1 := hid h1
      have H2 := hid h2
      have H3 := hid h3
      clear h1 h2 h3 hc
      go_wp2
      case roundEnd =>
        rename_i q0 q1
        refine ⟨⟨k + 1, by omega, rfl, ?_, ?_⟩, by simp [intOf]; omega⟩
        · have := H2.out
          congr 1; omega
        · rw [H1.out, HK.out, Bool.true_and, decide_eq_true_eq]; omega
      all_goals
        go_ret2
        refine ⟨?_, rfl⟩
        have hno := H3.out (by rw [decide_eq_false_iff_not]; omega)
        rw [← HR.out, if_neg (by rw [hno]; simp)]
        rfl
    · have : k = s.size := by omega
      subst this
      go_wp2
      go_ret2
      refine ⟨?_, rfl⟩
      have hok := HK.out
      have e : s.data.toList.take s.size = s.data.toList := by rw [← HZ.out]; exact List.take_length
      rw [e] at hok
      rw [← HR.out, if_pos hok, e]
      rfl
end Go.Proofs.YtdjncmcmplnnhaaDoor
