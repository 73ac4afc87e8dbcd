/- The walk of WireApart. -/
import Derived.Test.YtpflajehakiloaaDoorWAppB
import Derived.Test.YtpflajehakiloaaDoorWKeysW
import Derived.Test.YtpflajehakiloaaDoorWFrame
namespace Go.Proofs.YtpflajehakiloaaDoor
open Go Go.RowKit

theorem pre_ne {X Y : List UInt8} (h : ¬ X <+: Y) (k : Nat) : (X == Y.take k) = false := by
  rw [beq_eq_false_iff_ne]
  intro e
  exact h (by rw [e]; exact List.take_prefix _ _)
theorem text_prefix {s t : List UInt8} (hs : s.length ≤ 140737488351232) (ht : t.length ≤ 140737488351232) (h : vb (zig s.length) ++ s <+: vb (zig t.length) ++ t) : s = t := by
  have h1 : vb (zig s.length) <+: vb (zig t.length) ++ t := (List.prefix_append _ _).trans h
  have h2 : vb (zig t.length) <+: vb (zig t.length) ++ t := List.prefix_append _ _
  have hz : zig (s.length : Int) = zig (t.length : Int) := by
    rcases List.prefix_or_prefix_of_prefix h1 h2 with h | h
    · exact vb_prefix (zig_lt (by omega) (by omega)) (zig_lt (by omega) (by omega)) h
    · exact (vb_prefix (zig_lt (by omega) (by omega)) (zig_lt (by omega) (by omega)) h).symm
  have hl := zig_inj hz
  rw [hz] at h
  have hp : s <+: t := (List.prefix_append_right_inj _).1 h
  exact hp.eq_of_length (by omega)
theorem takeI0 {n : Int} (h0 : -9223372036854775808 ≤ n) (h1 : n ≤ 9223372036854775807) (r : List UInt8) : tInt (vb (zig n) ++ r) 0 = some (n, (vb (zig n)).length) := by
  unfold tInt
  rw [if_pos (by omega)]
  exact takeI_put h0 h1 r
theorem tText0 (s r : List UInt8) (hs : s.length ≤ 140737488351232) : tText (vb (zig s.length) ++ s ++ r) 0 (s.length : Int) = some (s, (vb (zig s.length)).length + s.length) := by
  unfold tText
  rw [List.append_assoc, takeI0 (by omega) (by omega)]
  dsimp only
  rw [if_pos (by simp only [List.length_append]; omega)]
  rw [Int.toNat_zero, Nat.zero_add, List.drop_left, Int.toNat_natCast, List.take_left]
theorem tKT0 (s r : List UInt8) : tKT (kt s ++ r) 0 = some (s, (kt s).length) := by
  unfold tKT
  rw [if_pos (by omega)]
  exact takeKT_put s r

set_option maxRecDepth 100000 in
set_option maxHeartbeats 4000000 in
theorem wireApart_walk (n m : Int) (s t : ByteArray) (a : Option Addr) (l : List UInt8) (cap : Nat) (w : World) (ht : Tab w) (n0 : -9223372036854775808 ≤ n) (n1 : n ≤ 9223372036854775807) (m0 : -9223372036854775808 ≤ m) (m1 : m ≤ 9223372036854775807)
    (_hs : s.size ≤ 140737488351232) (_hts : t.size ≤ 140737488351232) (hv : Sl w (.slice a l.length cap) l) (_hl : l.length ≤ 140737488351232) (hup : s.data.size + t.data.size + l.length ≤ 1048576) :
    Calls Tryd.prog 8 #[.int .i64 n, .int .i64 m, .string s, .string t, .slice a l.length cap] w fun e w' => e = .returned (.bool true) ∧ Below w.heap.size w w' := by
  have HT := hid ht
  have HV := hid hv
  have hss : s.data.toList.length = s.size := by rw [Array.length_toList]; rfl
  have htt : t.data.toList.length = t.size := by rw [Array.length_toList]; rfl
  have hup' : s.size + t.size + l.length ≤ 1048576 := hup
  have hks : (kt s.data.toList).length ≤ 2 * s.size + 2 := by have := kt_len_le s.data.toList; rw [hss] at this; exact this
  have hvn := zvb_len n0 n1
  have hvm := zvb_len m0 m1
  have hvs := zvb_len (n := (s.size : Int)) (by omega) (by omega)
  have hvt := zvb_len (n := (t.size : Int)) (by omega) (by omega)
  have HSS := hid hss
  have HTT := hid htt
  clear ht hv hss htt hup
  go_enter Tryd.func8, Tryd.ntmps8
  go_wp2_with fail
  refine (shown_any w HT.out).mono ?_
  rintro e w1 ⟨rfl, hB1⟩
  go_wp2_with fail
  refine (putInt_v _ [] n w1 (Sl.nil w1) n0 n1 (by simp)).mono ?_
  rintro e w2 ⟨v2, rfl, hs2, hB2⟩
  have hB2 := Below.next hB1 hB2
  have hcv2 := conv_sl hs2
  generalize hA : (⟨([] ++ vb (zig n)).toArray⟩ : ByteArray) = A at hcv2
  have HA : Hid (A.toList = vb (zig n)) := by show _ = _; rw [← hA, Lib.toList_data]; simp
  clear hB1 hs2 hA
  go_wp2_with fail
  refine (putInt_v _ [] m w2 (Sl.nil w2) m0 m1 (by simp)).mono ?_
  rintro e w3 ⟨v3, rfl, hs3, hB3⟩
  have hB3 := Below.next hB2 hB3
  have hcv3 := conv_sl hs3
  generalize hC : (⟨([] ++ vb (zig m)).toArray⟩ : ByteArray) = C at hcv3
  have HC : Hid (C.toList = vb (zig m)) := by show _ = _; rw [← hC, Lib.toList_data]; simp
  clear hB2 hs3 hC hcv2
  go_wp2_with fail
  refine (putText_v _ [] s w3 (Sl.nil w3) (by simp; omega)).mono ?_
  rintro e w4 ⟨v4, rfl, hs4, hB4⟩
  have hB4 := Below.next hB3 hB4
  have hcv4 := conv_sl hs4
  generalize hD : (⟨([] ++ vb (zig s.size) ++ s.data.toList).toArray⟩ : ByteArray) = D at hcv4
  have HD : Hid (D.toList = vb (zig s.size) ++ s.data.toList) := by show _ = _; rw [← hD, Lib.toList_data]; simp
  clear hB3 hs4 hD hcv3
  go_wp2_with fail
  refine (putText_v _ [] t w4 (Sl.nil w4) (by simp; omega)).mono ?_
  rintro e w5 ⟨v5, rfl, hs5, hB5⟩
  have hB5 := Below.next hB4 hB5
  have hcv5 := conv_sl hs5
  generalize hE : (⟨([] ++ vb (zig t.size) ++ t.data.toList).toArray⟩ : ByteArray) = E at hcv5
  have HE : Hid (E.toList = vb (zig t.size) ++ t.data.toList) := by show _ = _; rw [← hE, Lib.toList_data]; simp
  clear hB4 hs5 hE hcv4
  have hAs : A.size = (vb (zig n)).length := by rw [← HA.out, Lib.toList_data, Array.length_toList]; rfl
  have hCs : C.size = (vb (zig m)).length := by rw [← HC.out, Lib.toList_data, Array.length_toList]; rfl
  have hDs : D.size = (vb (zig s.size)).length + s.size := by rw [← HSS.out, ← List.length_append, HSS.out, ← HD.out, Lib.toList_data, Array.length_toList]; rfl
  have hEs : E.size = (vb (zig t.size)).length + t.size := by rw [← HTT.out, ← List.length_append, HTT.out, ← HE.out, Lib.toList_data, Array.length_toList]; rfl
  have hAb : A.size ≤ 10 := by omega
  have hCb : C.size ≤ 10 := by omega
  have hDb : D.size ≤ 1048586 := by omega
  have hEb : E.size ≤ 1048586 := by omega
  have HAs := hid hAs
  have HDs := hid hDs
  clear hAs hCs hDs hEs
  have e1 : (n == m) = true ∨ (n == m) = false ∧ (∀ k, (A.toList == (C.extract 0 k).toList) = false) ∧ (∀ k, (C.toList == (A.extract 0 k).toList) = false) := by
    by_cases h : n = m
    · exact .inl (by simpa using h)
    · refine .inr ⟨by simpa using h, fun k => ?_, fun k => ?_⟩
      · rw [ext_take, HA.out, HC.out]
        exact pre_ne (fun hp => h (zig_inj (vb_prefix (zig_lt n0 n1) (zig_lt m0 m1) hp))) k
      · rw [ext_take, HA.out, HC.out]
        exact pre_ne (fun hp => h (zig_inj (vb_prefix (zig_lt m0 m1) (zig_lt n0 n1) hp)).symm) k
  have e2 : (s.toList == t.toList) = true ∨ (s.toList == t.toList) = false ∧ (∀ k, (D.toList == (E.extract 0 k).toList) = false) ∧ (∀ k, (E.toList == (D.extract 0 k).toList) = false) := by
    have hne : ¬ s.toList = t.toList → ¬ s.data.toList = t.data.toList := by rw [Lib.toList_data, Lib.toList_data]; exact id
    by_cases h : s.toList = t.toList
    · exact .inl (by simpa using h)
    · refine .inr ⟨by simpa using h, fun k => ?_, fun k => ?_⟩
      · rw [ext_take, HD.out, HE.out, ← HSS.out, ← HTT.out]
        exact pre_ne (fun hp => hne h (text_prefix (by rw [HSS.out]; omega) (by rw [HTT.out]; omega) hp)) k
      · rw [ext_take, HD.out, HE.out, ← HSS.out, ← HTT.out]
        exact pre_ne (fun hp => hne h (text_prefix (by rw [HTT.out]; omega) (by rw [HSS.out]; omega) hp).symm) k
  have b1 : 0 ≤ min (A.size : Int) (C.size : Int) ∧ min (A.size : Int) (C.size : Int) ≤ (A.size : Int) ∧ min (A.size : Int) (C.size : Int) ≤ (C.size : Int) := by omega
  have b2 : 0 ≤ min (D.size : Int) (E.size : Int) ∧ min (D.size : Int) (E.size : Int) ≤ (D.size : Int) ∧ min (D.size : Int) (E.size : Int) ≤ (E.size : Int) := by omega
  obtain ⟨b1a, b1b, b1c⟩ := b1
  obtain ⟨b2a, b2b, b2c⟩ := b2
  have hcvA := conv_bytes w5 A
  rcases e1 with h1 | ⟨h1, h1a, h1b⟩
  all_goals
    rcases e2 with h2 | ⟨h2, h2a, h2b⟩
  all_goals
    go_wp2_with (at_builtin; refine appB' w5 A (grownCap w5 A.size 0 5) (grownCap_ge _ _ _ _) l rfl _ _ rfl _ rfl rfl (HV.out.below hB5) (by omega) ?_; intro v6 w6 hs6 hB6)
    have E1 : Hid (tInt (A.data.toList ++ l) 0 = some (n, A.size)) := by
      show _ = _
      rw [← Lib.toList_data, HA.out, takeI0 n0 n1, HAs.out]
    have L1 : (A.data.toList ++ l).length ≤ 281474976710656 := by rw [List.length_append, ← Lib.toList_data, HA.out]; omega
    refine (takeInt_v v6 _ 0 w6 hs6 L1).mono ?_
    rintro e w6 ⟨rfl, rfl⟩
    rw [E1.out]
    unfold outI tri
    have hB6 := Below.next hB5 hB6
    have hcvD := conv_bytes w6 D
    clear hcvA hcv5 hB5 hs6 L1
    go_wp2_with (at_builtin; refine appB' w6 D (grownCap w6 D.size 0 5) (grownCap_ge _ _ _ _) l rfl _ _ rfl _ rfl rfl (HV.out.below hB6) (by omega) ?_; intro v7 w7 hs7 hB7)
    have E2 : Hid (tText (D.data.toList ++ l) 0 (s.size : Int) = some (s.data.toList, D.size)) := by
      show _ = _
      rw [← Lib.toList_data, HD.out, HDs.out, ← HSS.out]
      exact tText0 s.data.toList l (by rw [HSS.out]; omega)
    have L2 : (D.data.toList ++ l).length ≤ 281474976710656 := by
      rw [List.length_append, Array.length_toList]
      have : D.data.size = D.size := rfl
      omega
    refine (takeText_v v7 _ 0 (s.size : Int) w7 hs7 L2).mono ?_
    rintro e w7 ⟨rfl, rfl⟩
    rw [E2.out]
    unfold outS triS
    have hB7 := Below.next hB6 hB7
    clear hcvD hB6 hs7 L2
    go_wp2_with fail
    refine (keyText_any none [] 0 s w7 (Sl.nil w7) (by simp; omega)).mono ?_
    rintro e w8 ⟨rfl, ho8, hB8⟩
    rw [List.nil_append, List.length_nil, Nat.zero_add] at ho8
    have HO8 := hid ho8
    clear ho8
    rw [List.nil_append]
    go_wp2_with (at_builtin; refine appS (w := w7) l rfl _ _ rfl w7.heap.size (kt s.data.toList).length _ _ (kt s.data.toList) rfl rfl (HV.out.below (Below.next hB7 hB8)) HO8.out (by omega) hB8 hB8.size ?_; intro v9 w9 ho9 hB9 hsz9)
    have E3 : Hid (tKT (kt s.data.toList ++ l) 0 = some (s.data.toList, (kt s.data.toList).length)) := tKT0 s.data.toList l
    have L3 : (kt s.data.toList ++ l).length ≤ 140737488355328 := by rw [List.length_append]; omega
    have hB9 := Below.next hB7 hB9
    refine (takeKeyText_v v9 _ 0 w9 (owns_sl' ho9) (by omega) (Nat.le_trans (kcnt_le _ _ (Nat.le_refl _)) L3)).mono ?_
    rintro e w10 ⟨rfl, hB10⟩
    rw [E3.out]
    unfold outS triS
    have hB10 := Below.next hB9 hB10
    clear hB9 hB7 hB8 ho9 L3 hsz9
    go_wp2_with fail
    refine (keyText_any none [] 0 s w10 (Sl.nil w10) (by simp; omega)).mono ?_
    rintro e w11 ⟨rfl, ho11, hB11⟩
    have hB11 := Below.next hB10 hB11
    clear ho11 hB10
    rw [List.nil_append]
    go_wp2
    go_ret
    exact ⟨rfl, hB11⟩
end Go.Proofs.YtpflajehakiloaaDoor
