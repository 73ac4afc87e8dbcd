/- The walks of the reference's Int, Text, KeyInt, KeyText. -/
import Derived.Test.YtpflajehakiloaaDoorWLaw
import Derived.Lib.AppendStr
namespace Go.Proofs.YtpflajehakiloaaDoor
open Go Go.RowKit

theorem or128 (x : Nat) (h : x < 256) : bits .or .u8 (x : Int) 128 = ((x % 128 + 128 : Nat) : Int) := by
  have : ∀ y : Fin 256, bits .or .u8 ((y.val : Nat) : Int) 128 = ((y.val % 128 + 128 : Nat) : Int) := by decide +kernel
  exact this ⟨x, h⟩
theorem not_u64 (x : Nat) (h : x < 18446744073709551616) : bits .xor .u64 IntKind.u64.max (x : Int) = ((18446744073709551615 - x : Nat) : Int) := by
  show IntKind.u64.wrap ((BitVec.ofInt 64 18446744073709551615 ^^^ BitVec.ofInt 64 (x : Int)).toNat : Int) = _
  have e : BitVec.ofInt 64 18446744073709551615 = BitVec.allOnes 64 := by decide
  rw [e, BitVec.allOnes_xor, BitVec.toNat_not, BitVec.ofInt_natCast, BitVec.toNat_ofNat, IntKind.wrap_u64]
  omega

set_option maxRecDepth 100000 in
set_option maxHeartbeats 800000 in
theorem refInt_any (n : Int) (w : World) (h0 : -9223372036854775808 ≤ n) (h1 : n ≤ 9223372036854775807) :
    Calls Tryd.prog 16 #[.int .i64 n] w fun e w' => ∃ g cap, e = .returned (.slice (some ⟨g, 0, none⟩) (vb (zig n)).length cap) ∧ w'.ownsRow w.heap.size 5 1 (.slice (some ⟨g, 0, none⟩) (vb (zig n)).length cap) (vb (zig n)).length (cells8 (vb (zig n))) ∧ Below w.heap.size w w' := by
  have hzl := zig_lt h0 h1
  have hvl := zvb_len h0 h1
  by_cases hn : n < 0
  · have hU : bits .xor .u64 IntKind.u64.max (IntKind.u64.wrap (IntKind.u64.wrap n * 2)) = ((zig n : Nat) : Int) := by
      have e : IntKind.u64.wrap (IntKind.u64.wrap n * 2) = ((18446744073709551616 + 2 * n).toNat : Int) := by
        rw [IntKind.wrap_u64, IntKind.wrap_u64]; omega
      rw [e, not_u64 _ (by omega)]
      have := zig_neg hn
      omega
    have HU := hid hU
    clear hU
    go_enter Tryd.func16, Tryd.ntmps16
    go_wp2_with fail
    rw [HU.out]
    go_loopw [4, 3] (fun v u wr => ∃ (m : List UInt8) (q : Nat), q < 18446744073709551616 ∧ u = .int .u64 q ∧ m ++ vb q = vb (zig n) ∧ wr.ownsRow w.heap.size 5 1 v m.length (cells8 m) ∧ Below w.heap.size w wr) (fun _ u _ => (intOf u).toNat)
    case atStart => exact ⟨[], zig n, hzl, rfl, rfl, World.ownsRow_nil _ _ _ _, Below.refl _ _⟩
    case round =>
      obtain ⟨m, q, hq, rfl, hm, ho, hbel⟩ := hrel
      have hB := hbel.size
      have hlen : m.length + (vb q).length ≤ 10 := by have := congrArg List.length hm; rw [List.length_append] at this; omega
      have hvp := vb_pos q
      have HM := hid hm
      clear hm
      by_cases hlt : q < 128
      · have hqb : ¬ (127 : Int) < (q : Int) := by omega
        have hq256 : (q : Int) % 256 = (q : Int) := by omega
        go_wp2_with (at_builtin; refine appG [UInt8.ofNat (q : Int).toNat] _ (cells8_ofInt (q : Int) (by omega) (by omega)) rfl _ _ rfl w.heap.size m.length 1 1 _ m rfl rfl rfl (by omega) ho (by omega) hbel hB ?_; intro g cap w2 ho2 hbel2 hsz2)
        go_ret
        have e : m ++ [UInt8.ofNat (q : Int).toNat] = vb (zig n) := by rw [Int.toNat_natCast, ← HM.out, vb_lt hlt]
        have hL : m.length + 1 = (vb (zig n)).length := by rw [← e]; simp
        rw [e, hL] at ho2
        exact ⟨g, cap, ret_sl hL, ho2, hbel2⟩
      · have hqb : (127 : Int) < (q : Int) := by omega
        have hor : bits .or .u8 ((q : Int) % 256) 128 = ((q % 128 + 128 : Nat) : Int) := by
          have e : ((q : Int) % 256) = ((q % 256 : Nat) : Int) := by omega
          rw [e, or128 _ (by omega)]; omega
        have hrng : q % 128 + 128 < 256 := by omega
        have e8 : UInt8.ofNat (q % 128 + 128) :: vb (q / 128) = vb q := (vb_ge hlt).symm
        have HE8 := hid e8
        clear e8
        generalize q % 128 + 128 = y at *
        go_wp2_with (at_builtin; refine appG [UInt8.ofNat (y : Int).toNat] _ (cells8_ofInt (y : Int) (by omega) (by omega)) rfl _ _ rfl w.heap.size m.length 1 1 _ m rfl rfl rfl (by omega) ho (by omega) hbel hB ?_; intro g cap w2 ho2 hbel2 hsz2)
        go_roundw
        case rel =>
          refine ⟨m ++ [UInt8.ofNat y], q / 128, by omega, by go_num, ?_, by simpa using ho2, hbel2⟩
          rw [List.append_assoc, List.singleton_append, HE8.out, HM.out]
        case measure => simp [intOf]; omega
  · have hU : n * 2 = ((zig n : Nat) : Int) := by rw [zig_pos hn]; omega
    have HU := hid hU
    clear hU
    go_enter Tryd.func16, Tryd.ntmps16
    go_wp2_with fail
    rw [HU.out]
    go_loopw [4, 3] (fun v u wr => ∃ (m : List UInt8) (q : Nat), q < 18446744073709551616 ∧ u = .int .u64 q ∧ m ++ vb q = vb (zig n) ∧ wr.ownsRow w.heap.size 5 1 v m.length (cells8 m) ∧ Below w.heap.size w wr) (fun _ u _ => (intOf u).toNat)
    case atStart => exact ⟨[], zig n, hzl, rfl, rfl, World.ownsRow_nil _ _ _ _, Below.refl _ _⟩
    case round =>
      obtain ⟨m, q, hq, rfl, hm, ho, hbel⟩ := hrel
      have hB := hbel.size
      have hlen : m.length + (vb q).length ≤ 10 := by have := congrArg List.length hm; rw [List.length_append] at this; omega
      have hvp := vb_pos q
      have HM := hid hm
      clear hm
      by_cases hlt : q < 128
      · have hqb : ¬ (127 : Int) < (q : Int) := by omega
        have hq256 : (q : Int) % 256 = (q : Int) := by omega
        go_wp2_with (at_builtin; refine appG [UInt8.ofNat (q : Int).toNat] _ (cells8_ofInt (q : Int) (by omega) (by omega)) rfl _ _ rfl w.heap.size m.length 1 1 _ m rfl rfl rfl (by omega) ho (by omega) hbel hB ?_; intro g cap w2 ho2 hbel2 hsz2)
        go_ret
        have e : m ++ [UInt8.ofNat (q : Int).toNat] = vb (zig n) := by rw [Int.toNat_natCast, ← HM.out, vb_lt hlt]
        have hL : m.length + 1 = (vb (zig n)).length := by rw [← e]; simp
        rw [e, hL] at ho2
        exact ⟨g, cap, ret_sl hL, ho2, hbel2⟩
      · have hqb : (127 : Int) < (q : Int) := by omega
        have hor : bits .or .u8 ((q : Int) % 256) 128 = ((q % 128 + 128 : Nat) : Int) := by
          have e : ((q : Int) % 256) = ((q % 256 : Nat) : Int) := by omega
          rw [e, or128 _ (by omega)]; omega
        have hrng : q % 128 + 128 < 256 := by omega
        have e8 : UInt8.ofNat (q % 128 + 128) :: vb (q / 128) = vb q := (vb_ge hlt).symm
        have HE8 := hid e8
        clear e8
        generalize q % 128 + 128 = y at *
        go_wp2_with (at_builtin; refine appG [UInt8.ofNat (y : Int).toNat] _ (cells8_ofInt (y : Int) (by omega) (by omega)) rfl _ _ rfl w.heap.size m.length 1 1 _ m rfl rfl rfl (by omega) ho (by omega) hbel hB ?_; intro g cap w2 ho2 hbel2 hsz2)
        go_roundw
        case rel =>
          refine ⟨m ++ [UInt8.ofNat y], q / 128, by omega, by go_num, ?_, by simpa using ho2, hbel2⟩
          rw [List.append_assoc, List.singleton_append, HE8.out, HM.out]
        case measure => simp [intOf]; omega

theorem refInt_v (n : Int) (w : World) (h0 : -9223372036854775808 ≤ n) (h1 : n ≤ 9223372036854775807) :
    Calls Tryd.prog 16 #[.int .i64 n] w fun e w' => ∃ v', e = .returned v' ∧ Sl w' v' (vb (zig n)) ∧ Below w.heap.size w w' :=
  (refInt_any n w h0 h1).mono fun _ _ ⟨_, _, he, ho, hB⟩ => ⟨_, he, owns_sl ho, hB⟩

set_option maxHeartbeats 400000 in
theorem refText_v (s : ByteArray) (w : World) (hs : s.size ≤ 1048576) :
    Calls Tryd.prog 17 #[.string s] w fun e w' => ∃ v', e = .returned v' ∧ Sl w' v' (vb (zig s.size) ++ s.data.toList) ∧ Below w.heap.size w w' := by
  obtain ⟨i0, hi0, hz0, hz1, hz2⟩ := info_parts info8
  have hvl := zvb_len (n := (s.size : Int)) (by omega) (by omega)
  go_enter Tryd.func17, Tryd.ntmps17
  go_wp2_with fail
  refine (refInt_any (s.size : Int) w (by omega) (by omega)).mono ?_
  rintro e w1 ⟨g, cap, rfl, ho, hB⟩
  go_wp2_with (at_builtin; refine Lib.wpList_append_own_string _ rfl _ _ 22 9 rfl w.heap.size 5 i0 Tryd.underlying22 Tryd.underlying9 hi0 hz0 hz1 hz2 _ _ _ rfl ho s rfl (by unfold maxLen; omega) (by omega) hB.size ?_; intro v2 w2 ho2 hg2 hn2)
  go_ret
  rw [cells8_str, cells8_append] at ho2
  exact ⟨v2, rfl, owns_sl' ho2, hB.grown hg2 hB.size (fun k hk => (ho.lt k hk).1)⟩

theorem kb_sign {n : Int} (h0 : -9223372036854775808 ≤ n) (h1 : n ≤ 9223372036854775807) : bits .xor .u64 (IntKind.u64.wrap n) 9223372036854775808 = ((ku n : Nat) : Int) := by
  have e : IntKind.u64.wrap n = (((n % 18446744073709551616).toNat : Nat) : Int) := wrap_nat n
  rw [e, xor_sign _ (by omega), ku_wrap h0 h1]

set_option maxRecDepth 100000 in
set_option maxHeartbeats 800000 in
theorem refKeyInt_v (n : Int) (w : World) (h0 : -9223372036854775808 ≤ n) (h1 : n ≤ 9223372036854775807) :
    Calls Tryd.prog 18 #[.int .i64 n] w fun e w' => ∃ v', e = .returned v' ∧ Sl w' v' (kb n) ∧ Below w.heap.size w w' := by
  have hU := kb_sign h0 h1
  have hku := ku_lt h0 h1
  have hkd : kb n = beN 8 (ku n) := rfl
  generalize ku n = u at *
  have HU := hid hU
  have HK := hid hkd
  clear hU hkd
  go_enter Tryd.func18, Tryd.ntmps18
  go_wp2_with fail
  rw [HU.out]
  go_loopw [4, 5] (fun v i wr => ∃ k : Nat, k ≤ 8 ∧ i = .int .i64 (7 - (k : Int)) ∧ wr.ownsRow w.heap.size 5 1 v k (cells8 ((beN 8 u).take k)) ∧ Below w.heap.size w wr) (fun _ i _ => (intOf i + 1).toNat)
  case atStart => exact ⟨0, by omega, rfl, World.ownsRow_nil _ _ _ _, Below.refl _ _⟩
  case round =>
    obtain ⟨k, hk, rfl, ho, hbel⟩ := hrel
    have hB := hbel.size
    by_cases hlt : k < 8
    · have htk := hid (beN_take 8 u k hlt)
      have hx : (8 * (7 - (k : Int))).toNat = 8 * (7 - k) := by omega
      go_wp2_with (at_builtin; refine appG [UInt8.ofNat ((u : Int) / 2 ^ (8 * (7 - k)) % 256).toNat] _ (cells8_ofInt _ (Int.emod_nonneg _ (by decide)) (by omega)) rfl _ _ rfl w.heap.size k 1 1 _ _ rfl rfl rfl (by omega) ho (by omega) hbel hB ?_; intro g cap w2 ho2 hbel2 hsz2)
      rw [be_byte, ← htk.out] at ho2
      go_roundw
      case rel => exact ⟨k + 1, by omega, by go_num, ho2, hbel2⟩
      case measure => simp [intOf]; omega
    · obtain rfl : k = 8 := by omega
      rw [beN_full, ← HK.out] at ho
      go_wp2
      go_ret
      exact ⟨_, rfl, owns_sl' ho, hbel⟩

set_option maxRecDepth 100000 in
set_option maxHeartbeats 800000 in
theorem refKeyText_v (s : ByteArray) (w : World) (hs : s.size ≤ 1048576) :
    Calls Tryd.prog 19 #[.string s] w fun e w' => ∃ v', e = .returned v' ∧ Sl w' v' (kt s.data.toList) ∧ Below w.heap.size w w' := by
  have hss : s.data.toList.length = s.size := by rw [Array.length_toList]; rfl
  have HS := hid hss
  clear hss
  go_enter Tryd.func19, Tryd.ntmps19
  go_wp2_with fail
  go_loopw [3, 4] (fun v i wr => ∃ (k : Nat) (m : List UInt8), k ≤ s.size ∧ i = .int .i64 k ∧ m = esc (s.data.toList.take k) ∧ m.length ≤ 2 * k ∧ wr.ownsRow w.heap.size 5 1 v m.length (cells8 m) ∧ Below w.heap.size w wr) (fun _ i _ => s.size - (intOf i).toNat)
  case atStart => exact ⟨0, [], by omega, rfl, rfl, by simp, World.ownsRow_nil _ _ _ _, Below.refl _ _⟩
  case round =>
    obtain ⟨k, m, hk, rfl, hm, hml, ho, hbel⟩ := hrel
    have hB := hbel.size
    have HM := hid hm
    clear hm
    by_cases hlt : k < s.size
    · have hgk : s.data.toList.getD k 0 = s[k] := by
        have h2 : k < s.data.toList.length := by rw [HS.out]; exact hlt
        simp only [List.getD, List.getElem?_eq_getElem h2, Option.getD_some]; rfl
      have hstep := esc_take_succ s.data.toList k (by rw [HS.out]; exact hlt)
      rw [hgk] at hstep
      have HST := hid hstep
      clear hstep hgk
      by_cases hz : s[k] = 0
      · have hzb : ((s[k].toNat : Int) == 0) = true := by rw [hz]; rfl
        have HZ := hid hz
        clear hz
        go_wp2_with (first
          | (at_builtin; refine appG [s[k]] #[.int .u8 (s[k].toNat : Int)] rfl rfl _ _ rfl w.heap.size m.length 1 1 _ m rfl rfl rfl (by omega) ho (by omega) hbel hB ?_; intro g2 cap2 w2 ho2 hbel2 hsz2)
          | (at_builtin; refine appG [255] #[.int .u8 255] rfl rfl _ _ rfl w.heap.size (m.length + 1) 1 1 _ _ rfl rfl rfl (by omega) ho2 (by omega) hbel2 (by omega) ?_; intro g3 cap3 w3 ho3 hbel3 hsz3))
        go_roundw
        case rel =>
          have e : m ++ [s[k]] ++ [255] = esc (List.take (k + 1) s.data.toList) := by rw [HST.out, HM.out, HZ.out, escB_zero]; simp
          rw [e] at ho3
          have hL : m.length + 1 + 1 = (esc (List.take (k + 1) s.data.toList)).length := by rw [← e]; simp
          rw [hL] at ho3
          refine ⟨k + 1, _, by omega, by go_num, rfl, by omega, ?_, hbel3⟩
          rw [hL]; exact ho3
        case measure => simp [intOf]; omega
      · have hzb : ((s[k].toNat : Int) == 0) = false := by
          simp only [beq_eq_false_iff_ne, ne_eq]
          intro h
          exact hz (u8_ext (by simp only [UInt8.toNat_zero]; omega))
        have HZ := hid hz
        clear hz
        go_wp2_with (at_builtin; refine appG [s[k]] #[.int .u8 (s[k].toNat : Int)] rfl rfl _ _ rfl w.heap.size m.length 1 1 _ m rfl rfl rfl (by omega) ho (by omega) hbel hB ?_; intro g2 cap2 w2 ho2 hbel2 hsz2)
        go_roundw
        case rel =>
          have e : m ++ [s[k]] = esc (List.take (k + 1) s.data.toList) := by rw [HST.out, HM.out, escB_ne HZ.out]
          rw [e] at ho2
          have hL : m.length + 1 = (esc (List.take (k + 1) s.data.toList)).length := by rw [← e]; simp
          rw [hL] at ho2
          refine ⟨k + 1, _, by omega, by go_num, rfl, by omega, ?_, hbel2⟩
          rw [hL]; exact ho2
        case measure => simp [intOf]; omega
    · have hall : List.take k s.data.toList = s.data.toList := List.take_of_length_le (by rw [HS.out]; omega)
      have hmm : m ++ [0, 1] = kt s.data.toList := by rw [HM.out, hall]; rfl
      have HMM := hid hmm
      clear hmm hall
      go_wp2_with (at_builtin; refine appG [0, 1] #[.int .u8 0, .int .u8 1] rfl rfl _ _ rfl w.heap.size m.length 2 2 _ m rfl rfl rfl (by omega) ho (by omega) hbel hB ?_; intro g2 cap2 w2 ho2 hbel2 hsz2)
      go_ret
      rw [HMM.out] at ho2
      exact ⟨_, rfl, owns_sl' ho2, hbel2⟩
end Go.Proofs.YtpflajehakiloaaDoor
