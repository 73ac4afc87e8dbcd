/- The walk of DateBack. -/
import Derived.Test.YtdjncmcmplnnhaaDoorDDaysW
namespace Go.Proofs.YtdjncmcmplnnhaaDoor
open Go Go.RowKit

theorem dgOk_dg : ∀ (c x : Nat), dgOk (dg c x) = true
  | 0, _ => rfl
  | c + 1, x => by
    have h := dgOk_dg c (x / 10)
    unfold dgOk at h ⊢
    show ((dg c (x / 10)) ++ [UInt8.ofNat (48 + x % 10)]).all _ = true
    rw [List.all_append, h]
    have : (UInt8.ofNat (48 + x % 10)).toNat = 48 + x % 10 := u8_ofNat (by omega)
    simp only [List.all_cons, List.all_nil, this, Bool.true_and, Bool.and_true, decide_eq_true_eq]; omega
theorem dgV_dg : ∀ (c x : Nat), dgV (dg c x) = x % 10 ^ c
  | 0, x => by simp [dg, dgV]; omega
  | c + 1, x => by
    have h := dgV_dg c (x / 10)
    unfold dgV at h ⊢
    show ((dg c (x / 10)) ++ [UInt8.ofNat (48 + x % 10)]).foldl _ 0 = _
    rw [List.foldl_append, h]
    have : (UInt8.ofNat (48 + x % 10)).toNat = 48 + x % 10 := u8_ofNat (by omega)
    simp only [List.foldl_cons, List.foldl_nil, this]
    rw [Nat.pow_succ, Nat.mul_comm (10 ^ c) 10, Nat.mod_mul]; omega
theorem parse_show {y m d : Nat} (h : Dt y m d) : parseV (shL y m d) = .tuple #[.int .i64 (dn y m d : Nat), .int .i64 0] := by
  have hd := h.dle
  have hy := h.1
  have hm := h.2.1
  have t1 : (shL y m d).take 4 = dg 4 (1900 + y) := rfl
  have t2 : ((shL y m d).drop 5).take 2 = dg 2 (m + 1) := rfl
  have t3 : (shL y m d).drop 8 = dg 2 d := rfl
  unfold parseV
  rw [t1, t2, t3, if_pos ⟨rfl, rfl, rfl, dgOk_dg _ _, dgOk_dg _ _, dgOk_dg _ _⟩, dgV_dg, dgV_dg, dgV_dg]
  have e1 : (1900 + y) % 10 ^ 4 = 1900 + y := Nat.mod_eq_of_lt (by have : 10 ^ 4 = 10000 := rfl; omega)
  have e2 : (m + 1) % 10 ^ 2 = m + 1 := Nat.mod_eq_of_lt (by have : 10 ^ 2 = 100 := rfl; omega)
  have e3 : d % 10 ^ 2 = d := Nat.mod_eq_of_lt (by have : 10 ^ 2 = 100 := rfl; omega)
  rw [e1, e2, e3]
  exact ofV_yes h

theorem bl_app : ∀ (a b x y : List UInt8), a.length = b.length → Op.bytesLess (a ++ x) (b ++ y) = (Op.bytesLess a b || (a == b && Op.bytesLess x y))
  | [], [], x, y, _ => by simp [Op.bytesLess]
  | [], _ :: _, _, _, h => by simp at h
  | _ :: _, [], _, _, h => by simp at h
  | a :: r, b :: q, x, y, h => by
    have ih := bl_app r q x y (by simpa using h)
    show (decide (a < b) || (a == b && Op.bytesLess (r ++ x) (q ++ y))) = ((decide (a < b) || (a == b && Op.bytesLess r q)) || ((a :: r) == (b :: q) && Op.bytesLess x y))
    rw [ih, List.cons_beq_cons]
    cases decide (a < b) <;> cases (a == b) <;> cases Op.bytesLess r q <;> cases (r == q) <;> cases Op.bytesLess x y <;> rfl
theorem dg_inj {c x y : Nat} (hx : x < 10 ^ c) (hy : y < 10 ^ c) : (dg c x == dg c y) = decide (x = y) := by
  by_cases h : x = y
  · subst h; simp
  · rw [decide_eq_false h]
    by_cases he : dg c x = dg c y
    · exfalso
      have := congrArg dgV he
      rw [dgV_dg, dgV_dg, Nat.mod_eq_of_lt hx, Nat.mod_eq_of_lt hy] at this
      exact h this
    · simpa using he
theorem bl_one (a b : Nat) (ha : a < 10) (hb : b < 10) : Op.bytesLess [UInt8.ofNat (48 + a)] [UInt8.ofNat (48 + b)] = decide (a < b) := by
  have h1 : (UInt8.ofNat (48 + a)).toNat = 48 + a := u8_ofNat (by omega)
  have h2 : (UInt8.ofNat (48 + b)).toNat = 48 + b := u8_ofNat (by omega)
  show (decide (UInt8.ofNat (48 + a) < UInt8.ofNat (48 + b)) || (UInt8.ofNat (48 + a) == UInt8.ofNat (48 + b) && false)) = _
  rw [Bool.and_false, Bool.or_false]
  rw [Bool.eq_iff_iff, decide_eq_true_eq, decide_eq_true_eq, UInt8.lt_iff_toNat_lt, h1, h2]
  omega
theorem bl_dg : ∀ (c x y : Nat), x < 10 ^ c → y < 10 ^ c → Op.bytesLess (dg c x) (dg c y) = decide (x < y)
  | 0, x, y, hx, hy => by
    have : x = 0 ∧ y = 0 := by constructor <;> (simp at hx hy; omega)
    rw [this.1, this.2]; rfl
  | c + 1, x, y, hx, hy => by
    have hx' : x / 10 < 10 ^ c := by rw [Nat.pow_succ] at hx; omega
    have hy' : y / 10 < 10 ^ c := by rw [Nat.pow_succ] at hy; omega
    show Op.bytesLess (dg c (x / 10) ++ [UInt8.ofNat (48 + x % 10)]) (dg c (y / 10) ++ [UInt8.ofNat (48 + y % 10)]) = _
    rw [bl_app _ _ _ _ (by rw [dg_len, dg_len]), bl_dg c _ _ hx' hy', dg_inj hx' hy', bl_one _ _ (by omega) (by omega)]
    rw [Bool.eq_iff_iff]
    simp only [Bool.or_eq_true, Bool.and_eq_true, decide_eq_true_eq]
    omega
theorem bl_show {y m d y' m' d' : Nat} (h : Dt y m d) (h' : Dt y' m' d') : Op.bytesLess (shL y m d) (shL y' m' d') = decide (dn y m d < dn y' m' d') := by
  have a1 := h.1
  have a2 := h.2.1
  have a3 := h.dle
  have b1 := h'.1
  have b2 := h'.2.1
  have b3 := h'.dle
  have p4 : (10 : Nat) ^ 4 = 10000 := rfl
  have p2 : (10 : Nat) ^ 2 = 100 := rfl
  have hs : ∀ y m d, shL y m d = dg 4 (1900 + y) ++ ([45] ++ (dg 2 (m + 1) ++ ([45] ++ dg 2 d))) := fun y m d => by unfold shL; simp only [List.append_assoc]
  rw [hs, hs, bl_app _ _ _ _ (by rw [dg_len, dg_len]), bl_app _ _ _ _ rfl, bl_app _ _ _ _ (by rw [dg_len, dg_len]), bl_app _ _ _ _ rfl]
  rw [bl_dg 4 _ _ (by omega) (by omega), dg_inj (c := 4) (by omega) (by omega), bl_dg 2 _ _ (by omega) (by omega), dg_inj (c := 2) (by omega) (by omega), bl_dg 2 _ _ (by omega) (by omega)]
  have e45 : Op.bytesLess [45] [45] = false := rfl
  rw [e45, Bool.eq_iff_iff, decide_eq_true_eq, dn_lt_iff h h']
  simp only [Bool.or_eq_true, Bool.and_eq_true, decide_eq_true_eq, beq_self_eq_true, Bool.false_eq_true, false_or, true_and]
  omega

set_option maxRecDepth 100000 in
set_option maxHeartbeats 800000 in
theorem dateBack_walk (n k : Int) (w : World) (ht : Tab w) (_a0 : -9223372036854775808 ≤ n) (_a1 : n ≤ 9223372036854775807) (_b0 : -9223372036854775808 ≤ k) (_b1 : k ≤ 9223372036854775807) :
    Calls Tryd.prog 6 #[.int .i64 n, .int .i64 k] w fun e w' => e = .returned (.bool true) ∧ Below w.heap.size w w' := by
  have HT := hid ht
  clear ht
  go_enter Tryd.func6, Tryd.ntmps6
  go_wp2_with fail
  refine (shown_any w HT.out).mono ?_
  rintro e w1 ⟨rfl, hB1⟩
  by_cases hn : n < 0 ∨ 73048 < n
  · have HP := hid (parts_no n hn)
    have HQ := hid (show_no n hn)
    clear hn
    go_wp2_with fail
    refine (HP.out _).mono ?_
    rintro e w2 ⟨rfl, rfl⟩
    go_wp2_with fail
    refine (HQ.out _).mono ?_
    rintro e w2 ⟨rfl, rfl⟩
    go_wp2
    go_ret
    exact ⟨rfl, hB1⟩
  · obtain ⟨a, rfl, ha⟩ := day_in hn
    clear hn
    go_wp2_with fail
    refine (parts_yes a ha w1 (HT.out.below hB1)).mono ?_
    rintro e w2 ⟨y, m, d, hd, hdn, rfl, hB2⟩
    have hB2 := Below.next hB1 hB2
    have HD := hid (show Dt y m d ∧ dn y m d = a from ⟨hd, hdn⟩)
    clear hd hdn
    go_wp2_with fail
    refine (show_yes a ha w2 (HT.out.below hB2)).mono ?_
    rintro e w3 ⟨y', m', d', hd, hdn, rfl, hB3⟩
    have hB3 := Below.next hB2 hB3
    obtain ⟨rfl, rfl, rfl⟩ := dn_inj HD.out.1 hd (by rw [HD.out.2, hdn])
    clear hd hdn
    have HO := hid (fun w ht => of_any (1900 + (y : Int)) ((m : Int) + 1) (d : Int) (by have := HD.out.1.2.1; omega) w ht)
    rw [ofV_yes HD.out.1, HD.out.2] at HO
    have HPa := hid (fun w ht => parse_any (⟨(shL y m d).toArray⟩ : ByteArray) w ht)
    have ep : (⟨(shL y m d).toArray⟩ : ByteArray).data.toList = shL y m d := by simp
    rw [ep, parse_show HD.out.1, HD.out.2] at HPa
    clear ep
    go_wp2_with fail
    refine (HO.out _ (HT.out.below hB3)).mono ?_
    rintro e w4 ⟨rfl, hB4⟩
    have hB4 := Below.next hB3 hB4
    go_wp2_with fail
    refine (HPa.out _ (HT.out.below hB4)).mono ?_
    rintro e w5 ⟨rfl, hB5⟩
    have hB5 := Below.next hB4 hB5
    by_cases hk : k < 0 ∨ 73048 < k
    · have HQ := hid (show_no k hk)
      clear hk
      go_wp2_with fail
      refine (HQ.out _).mono ?_
      rintro e w6 ⟨rfl, rfl⟩
      go_wp2
      go_ret
      exact ⟨rfl, hB5⟩
    · obtain ⟨b, rfl, hb⟩ := day_in hk
      clear hk
      go_wp2_with fail
      refine (show_yes b hb _ (HT.out.below hB5)).mono ?_
      rintro e w6 ⟨y2, m2, d2, hd2, hdn2, rfl, hB6⟩
      have hB6 := Below.next hB5 hB6
      have HD2 := hid (show Dt y2 m2 d2 ∧ dn y2 m2 d2 = b from ⟨hd2, hdn2⟩)
      clear hd2 hdn2
      have hbl := bl_show HD.out.1 HD2.out.1
      rw [HD.out.2, HD2.out.2] at hbl
      go_wp2
      go_ret
      refine ⟨?_, hB6⟩
      first | rfl | (simp [hbl]) | (simp)
end Go.Proofs.YtdjncmcmplnnhaaDoor
