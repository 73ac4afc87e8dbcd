/- The walks of the reference's texts: two, Show, number, Parse. -/
import Derived.Test.YtdjncmcmplnnhaaDoorDParse
import Derived.Lib.SlBytesConst
namespace Go.Proofs.YtdjncmcmplnnhaaDoor
open Go Go.RowKit

theorem lit_rd (w : World) (cs : Array Value) (fr : Nat × Nat) (l : List UInt8) (h : cs.toList = cells8 l) : Rd (w.alloc (.cells cs 5 fr)) w.heap.size 0 l := fun k hk => by
  rw [Nat.zero_add, World.cell?_alloc_mark, ← Array.getElem?_toList, h, cells8_get l k hk]
theorem lit_sl (w : World) (cs : Array Value) (fr : Nat × Nat) (l : List UInt8) (h : cs.toList = cells8 l) : Sl (w.alloc (.cells cs 5 fr)) (.slice (some ⟨w.heap.size, 0, none⟩) l.length l.length) l := Sl.mk (lit_rd w cs fr l h) (Nat.le_refl _)
theorem dg_two (n : Nat) : dg 2 n = [UInt8.ofNat (48 + n / 10 % 10), UInt8.ofNat (48 + n % 10)] := rfl
theorem dg_four (n : Nat) : dg 2 (n / 100) ++ dg 2 (n % 100) = dg 4 n := by
  rw [dg_two, dg_two]
  show _ = [UInt8.ofNat (48 + n / 10 / 10 / 10 % 10), UInt8.ofNat (48 + n / 10 / 10 % 10), UInt8.ofNat (48 + n / 10 % 10), UInt8.ofNat (48 + n % 10)]
  have e1 : n / 100 / 10 % 10 = n / 10 / 10 / 10 % 10 := by omega
  have e2 : n / 100 % 10 = n / 10 / 10 % 10 := by omega
  have e3 : n % 100 / 10 % 10 = n / 10 % 10 := by omega
  have e4 : n % 100 % 10 = n % 10 := by omega
  rw [e1, e2, e3, e4]; rfl

set_option maxRecDepth 100000 in
set_option maxHeartbeats 800000 in
theorem two_any (n : Nat) (hn : n < 100) (w : World) :
    Calls Tryd.prog 35 #[.int .i64 n] w fun e w' => e = .returned (.string ⟨(dg 2 n).toArray⟩) ∧ Below w.heap.size w w' := by
  have hcs : (#[Value.int .u8 (48 + (n : Int) / 10), Value.int .u8 (48 + (n : Int) % 10)] : Array Value).toList = cells8 (dg 2 n) := by
    rw [dg_two]
    have h1 : (UInt8.ofNat (48 + n / 10 % 10)).toNat = 48 + n / 10 % 10 := u8_ofNat (by omega)
    have h2 : (UInt8.ofNat (48 + n % 10)).toNat = 48 + n % 10 := u8_ofNat (by omega)
    simp only [cells8, List.map_cons, List.map_nil, cb, h1, h2]
    congr 2
    · congr 1; omega
  have hcv := conv_sl (lit_sl w _ (0, 0) (dg 2 n) hcs)
  rw [dg_len] at hcv
  have hB := (Below.refl w.heap.size w).alloc (Nat.le_refl _) (.cells #[Value.int .u8 (48 + (n : Int) / 10), Value.int .u8 (48 + (n : Int) % 10)] 5)
  have HB := hid hB
  clear hB hcs
  generalize hL : (⟨(dg 2 n).toArray⟩ : ByteArray) = L at *
  clear hL
  go_enter Tryd.func35, Tryd.ntmps35
  go_wp2
  go_ret
  exact ⟨rfl, HB.out⟩

set_option maxRecDepth 100000 in
set_option maxHeartbeats 800000 in
theorem rshow_yes (n : Nat) (hn : n ≤ 73048) (w : World) :
    Calls Tryd.prog 15 #[.int .i64 n] w fun e w' => ∃ y m d : Nat, Dt y m d ∧ dn y m d = n ∧ e = .returned (.tuple #[.string ⟨(shL y m d).toArray⟩, .int .i64 0]) ∧ Below w.heap.size w w' := by
  go_enter Tryd.func15, Tryd.ntmps15
  go_wp2_with fail
  refine (rparts_yes n hn _).mono ?_
  rintro e w1 ⟨y, m, d, hd, hdn, rfl, hB1⟩
  have HD := hid hd
  have HDN := hid hdn
  have hd31 := hd.dle
  have hm := hd.2.1
  have hy := hd.1
  clear hd hdn
  have HA := hid (two_any ((1900 + y) / 100) (by omega))
  have HBb := hid (two_any ((1900 + y) % 100) (by omega))
  have HM := hid (two_any (m + 1) (by omega))
  have HDd := hid (two_any d (by omega))
  rw [show (((1900 + y) / 100 : Nat) : Int) = (1900 + (y : Int)) / 100 by omega] at HA
  rw [show (((1900 + y) % 100 : Nat) : Int) = (1900 + (y : Int)) % 100 by omega] at HBb
  rw [show ((m + 1 : Nat) : Int) = (m : Int) + 1 by omega] at HM
  have hsh : shL y m d = dg 2 ((1900 + y) / 100) ++ dg 2 ((1900 + y) % 100) ++ [45] ++ dg 2 (m + 1) ++ [45] ++ dg 2 d := by unfold shL; rw [dg_four]
  have HSH := hid hsh
  clear hsh
  have z1 : (⟨(dg 2 ((1900 + y) / 100)).toArray⟩ : ByteArray).size = 2 := by show (dg 2 ((1900 + y) / 100)).toArray.size = 2; simp [dg_len]
  have z2 : (⟨(dg 2 ((1900 + y) % 100)).toArray⟩ : ByteArray).size = 2 := by show (dg 2 ((1900 + y) % 100)).toArray.size = 2; simp [dg_len]
  have z3 : (⟨(dg 2 (m + 1)).toArray⟩ : ByteArray).size = 2 := by show (dg 2 (m + 1)).toArray.size = 2; simp [dg_len]
  have z4 : (⟨(dg 2 d).toArray⟩ : ByteArray).size = 2 := by show (dg 2 d).toArray.size = 2; simp [dg_len]
  generalize dg 2 ((1900 + y) / 100) = L1 at *
  generalize dg 2 ((1900 + y) % 100) = L2 at *
  generalize dg 2 (m + 1) = L3 at *
  generalize dg 2 d = L4 at *
  have hfin : (⟨L1.toArray⟩ ++ ⟨L2.toArray⟩ ++ ⟨#[45]⟩ ++ ⟨L3.toArray⟩ ++ ⟨#[45]⟩ ++ ⟨L4.toArray⟩ : ByteArray) = ⟨(shL y m d).toArray⟩ := by
    rw [HSH.out]
    apply ByteArray.ext
    simp
  have HF := hid hfin
  clear hfin HSH
  generalize (⟨L1.toArray⟩ : ByteArray) = B1 at *
  generalize (⟨L2.toArray⟩ : ByteArray) = B2 at *
  generalize (⟨L3.toArray⟩ : ByteArray) = B3 at *
  generalize (⟨L4.toArray⟩ : ByteArray) = B4 at *
  go_wp2_with fail
  refine (HA.out _).mono ?_
  rintro e w2 ⟨rfl, hB2⟩
  have hB2 := Below.next hB1 hB2
  go_wp2_with fail
  refine (HBb.out _).mono ?_
  rintro e w3 ⟨rfl, hB3⟩
  have hB3 := Below.next hB2 hB3
  go_wp2_with fail
  refine (HM.out _).mono ?_
  rintro e w4 ⟨rfl, hB4⟩
  have hB4 := Below.next hB3 hB4
  go_wp2_with fail
  refine (HDd.out _).mono ?_
  rintro e w5 ⟨rfl, hB5⟩
  have hB5 := Below.next hB4 hB5
  go_wp2
  go_ret2
  refine ⟨y, m, d, HD.out, HDN.out, ?_, hB5⟩
  rw [← HF.out]
  rfl
set_option maxHeartbeats 800000 in
theorem rshow_no (n : Int) (hn : n < 0 ∨ 73048 < n) (w : World) :
    Calls Tryd.prog 15 #[.int .i64 n] w fun e w' => e = .returned (.tuple #[.string ⟨#[]⟩, .int .i64 30]) ∧ w' = w := by
  go_enter Tryd.func15, Tryd.ntmps15
  go_wp2_with fail
  refine (rparts_no n hn _).mono ?_
  rintro e w1 ⟨rfl, rfl⟩
  go_wp2
  go_ret2
  exact ⟨rfl, rfl⟩

set_option maxHeartbeats 800000 in
theorem number_any (s : ByteArray) (hs : s.size ≤ 10) (w : World) :
    Calls Tryd.prog 37 #[.string s] w fun e w' => e = .returned (.int .i64 (if dgOk s.data.toList then (dgV s.data.toList : Int) else -1)) ∧ w' = w := by
  have hsz : s.data.toList.length = s.size := by rw [Array.length_toList]; rfl
  generalize hR : (if dgOk s.data.toList then (dgV s.data.toList : Int) else -1) = R
  have HR := hid hR
  have HZ := hid hsz
  clear hR hsz
  go_enter Tryd.func37, Tryd.ntmps37
  go_wp2_with fail
  go_loop [3, 4] (fun a b => ∃ k : Nat, k ≤ s.size ∧ b = .int .i64 k ∧ a = .int .i64 (dgV (s.data.toList.take k) : Nat) ∧ dgOk (s.data.toList.take k) = true) (fun _ b => s.size - (intOf b).toNat)
  case atStart => exact ⟨0, by omega, rfl, rfl, rfl⟩
  case round =>
    obtain ⟨k, hk, rfl, rfl, hok⟩ := hrel
    have hb := dgV_lt (s.data.toList.take k) 10 (by rw [List.length_take]; omega) hok
    have HK := hid hok
    clear hok
    by_cases hlt : k < s.size
    · have hc := at_byte s k hlt
      have h1 := dgOk_take (l := s.data.toList) k (by rw [HZ.out]; exact hlt)
      have h2 := dgV_take (l := s.data.toList) k (by rw [HZ.out]; exact hlt)
      have h3 := dgOk_all (l := s.data.toList) k (by rw [HZ.out]; exact hlt)
      rw [hc] at h1 h2 h3
      have H1 := hid h1
      have H2 := hid h2
      have H3 := hid h3
      clear h1 h2 h3 hc
      go_wp2
      case roundEnd =>
        rename_i q0 q1
        refine ⟨⟨k + 1, by omega, rfl, ?_, ?_⟩, by simp [intOf]; omega⟩
        · have := H2.out
          congr 1; omega
        · rw [H1.out, HK.out, Bool.true_and, decide_eq_true_eq]; omega
      all_goals
        go_ret
        refine ⟨?_, rfl⟩
        have hno := H3.out (by rw [decide_eq_false_iff_not]; omega)
        rw [← HR.out, if_neg (by rw [hno]; simp)]
        rfl
    · have : k = s.size := by omega
      subst this
      go_wp2
      go_ret
      refine ⟨?_, rfl⟩
      have hok := HK.out
      have e : s.data.toList.take s.size = s.data.toList := by rw [← HZ.out]; exact List.take_length
      rw [e] at hok
      rw [← HR.out, if_pos hok, e]
      rfl

set_option maxRecDepth 100000 in
set_option maxHeartbeats 800000 in
theorem rparse_any (s : ByteArray) (w : World) :
    Calls Tryd.prog 17 #[.string s] w fun e w' => e = .returned (parseV s.data.toList) ∧ Below w.heap.size w w' := by
  have hsz : s.data.toList.length = s.size := by rw [Array.length_toList]; rfl
  have HZ := hid hsz
  clear hsz
  by_cases h10 : s.size = 10
  · have b4 := at_byte s 4 (by omega)
    have b7 := at_byte s 7 (by omega)
    by_cases h4 : (s[4].toNat : Int) = 45
    · by_cases h7 : (s[7].toNat : Int) = 45
      · have x1 := ext_list s 0 4
        have x2 := ext_list s 5 7
        have x3 := ext_list s 8 10
        have D1 := number_any (s.extract 0 4) (by simp; omega)
        have D2 := number_any (s.extract 5 7) (by simp; omega)
        have D3 := number_any (s.extract 8 10) (by simp; omega)
        have e3 : (s.data.toList.drop 8).take (10 - 8) = s.data.toList.drop 8 := List.take_of_length_le (by rw [List.length_drop, HZ.out]; omega)
        rw [x1, List.drop_zero] at D1
        rw [x2] at D2
        rw [x3, e3] at D3
        have c4 : s.data.toList.getD 4 0 = 45 := by rw [b4]; exact u8_ext (by have : (45 : UInt8).toNat = 45 := rfl; omega)
        have c7 : s.data.toList.getD 7 0 = 45 := by rw [b7]; exact u8_ext (by have : (45 : UInt8).toNat = 45 := rfl; omega)
        have hp : parseV s.data.toList = ofV (if dgOk (s.data.toList.take (4 - 0)) = true then (dgV (s.data.toList.take (4 - 0)) : Int) else -1) (if dgOk ((s.data.toList.drop 5).take (7 - 5)) = true then (dgV ((s.data.toList.drop 5).take (7 - 5)) : Int) else -1) (if dgOk (s.data.toList.drop 8) = true then (dgV (s.data.toList.drop 8) : Int) else -1) := by
          unfold parseV
          rw [show 4 - 0 = 4 from rfl, show 7 - 5 = 2 from rfl]
          by_cases o1 : dgOk (s.data.toList.take 4) = true
          · by_cases o2 : dgOk ((s.data.toList.drop 5).take 2) = true
            · by_cases o3 : dgOk (s.data.toList.drop 8) = true
              · rw [if_pos ⟨by rw [HZ.out]; exact h10, c4, c7, o1, o2, o3⟩, if_pos o1, if_pos o2, if_pos o3]
              · rw [if_neg (fun h => o3 h.2.2.2.2.2), if_neg o3, ofV_no]
                rintro ⟨_, _, h, _⟩; omega
            · rw [if_neg (fun h => o2 h.2.2.2.2.1), if_neg o2, ofV_no]
              rintro ⟨_, h, _, _⟩; omega
          · rw [if_neg (fun h => o1 h.2.2.2.1), if_neg o1, ofV_no]
            rintro ⟨h, _, _, _⟩; omega
        rw [hp]
        generalize (if dgOk (s.data.toList.take (4 - 0)) = true then (dgV (s.data.toList.take (4 - 0)) : Int) else -1) = N1 at *
        generalize (if dgOk ((s.data.toList.drop 5).take (7 - 5)) = true then (dgV ((s.data.toList.drop 5).take (7 - 5)) : Int) else -1) = N2 at *
        generalize (if dgOk (s.data.toList.drop 8) = true then (dgV (s.data.toList.drop 8) : Int) else -1) = N3 at *
        have hofp : ∃ x y, ofV N1 N2 N3 = .tuple #[.int .i64 x, .int .i64 y] := by
          unfold ofV
          split
          · exact ⟨_, _, rfl⟩
          · exact ⟨_, _, rfl⟩
        obtain ⟨X, Y, hXY⟩ := hofp
        have HD1 := hid D1
        have HD2 := hid D2
        have HD3 := hid D3
        have HO := hid (rof_any N1 N2 N3)
        rw [hXY] at HO ⊢
        clear b4 b7 x1 x2 x3 D1 D2 D3 e3 c4 c7 hp hXY
        go_enter Tryd.func17, Tryd.ntmps17
        go_wp2_with fail
        go_region_with (first
          | (go_at_call_of 37 (s.extract 0 4); refine (HD1.out _).mono ?_; rintro e w' ⟨rfl, rfl⟩)
          | (go_at_call_of 37 (s.extract 5 7); refine (HD2.out _).mono ?_; rintro e w' ⟨rfl, rfl⟩)
          | (go_at_call_of 37 (s.extract 8 10); refine (HD3.out _).mono ?_; rintro e w' ⟨rfl, rfl⟩)
          | (go_at_call 11; refine (HO.out _).mono ?_; rintro e w' ⟨rfl, hB⟩))
        all_goals
          go_wp2
          go_ret2
          exact ⟨rfl, Below.next ((Below.refl _ _).drew) hB⟩
      · go_enter Tryd.func17, Tryd.ntmps17
        go_wp2
        go_ret2
        refine ⟨?_, Below.refl _ _⟩
        unfold parseV
        rw [if_neg (by rintro ⟨_, _, h, _⟩; rw [b7] at h; apply h7; rw [h]; rfl)]
        rfl
    · go_enter Tryd.func17, Tryd.ntmps17
      go_wp2
      go_ret2
      refine ⟨?_, Below.refl _ _⟩
      unfold parseV
      rw [if_neg (by rintro ⟨_, h, _⟩; rw [b4] at h; apply h4; rw [h]; rfl)]
      rfl
  · go_enter Tryd.func17, Tryd.ntmps17
    go_wp2
    go_ret2
    refine ⟨?_, Below.refl _ _⟩
    unfold parseV
    rw [if_neg (by rw [HZ.out]; exact fun h => h10 h.1)]
    rfl
end Go.Proofs.YtdjncmcmplnnhaaDoor
