/- The walks of wire's KeyInt and KeyText. -/
import Derived.Test.YtpflajehakiloaaDoorWPut
import Derived.Test.YtpflajehakiloaaDoorWKeyMath
import Derived.Test.YtpflajehakiloaaDoorWApp
namespace Go.Proofs.YtpflajehakiloaaDoor
open Go Go.RowKit

/-- The number as turned by its sign, as the program reckons it. -/
theorem ku_wrap {n : Int} (h0 : -9223372036854775808 ≤ n) (h1 : n ≤ 9223372036854775807) : ((n % 18446744073709551616).toNat + 9223372036854775808) % 18446744073709551616 = ku n := by
  unfold ku; omega
theorem wrap_nat (n : Int) : IntKind.u64.wrap n = (((n % 18446744073709551616).toNat : Nat) : Int) := by rw [IntKind.wrap_u64]; omega

theorem be_byte (u i : Nat) : UInt8.ofNat ((u : Int) / 2 ^ (8 * (7 - i)) % 256).toNat = UInt8.ofNat (u / 256 ^ (8 - 1 - i) % 256) := by
  have hp : (256 : Nat) ^ (8 - 1 - i) = 2 ^ (8 * (7 - i)) := by
    rw [show (256 : Nat) = 2 ^ 8 by decide, ← Nat.pow_mul]
  have e : ((u : Int) / 2 ^ (8 * (7 - i)) % 256) = ((u / 256 ^ (8 - 1 - i) % 256 : Nat) : Int) := by
    rw [hp, Int.natCast_emod, Int.natCast_ediv, Int.natCast_pow]; rfl
  rw [e, Int.toNat_natCast]

set_option maxRecDepth 100000 in
set_option maxHeartbeats 800000 in
theorem keyInt_any (a : Option Addr) (l : List UInt8) (cap : Nat) (n : Int) (w : World) (hv : Sl w (.slice a l.length cap) l) (h0 : -9223372036854775808 ≤ n) (h1 : n ≤ 9223372036854775807) (hb : l.length + 8 ≤ 281474976710656) :
    Calls Tryd.prog 13 #[.slice a l.length cap, .int .i64 n] w (Puts (l ++ kb n) (l.length + 8) w) := by
  obtain ⟨i0, hi0, hz0, hz1, hz2⟩ := info_parts info8
  have HV := hid hv
  clear hv
  have hwn := hid (wrap_nat n)
  go_enter Tryd.func13, Tryd.ntmps13
  go_wp2_with fail
  refine (copy_any a l cap 8 w HV.out (by omega) (by omega)).mono ?_
  rintro e w1 ⟨rfl, ho, hB⟩
  have h8 : (8 : Int).toNat = 8 := rfl
  rw [h8] at ho ⊢
  clear h8
  go_wp2_with fail
  rw [hwn.out]
  refine (turn_any _ (by omega) w1).mono ?_
  rintro e w1 ⟨rfl, rfl⟩
  rw [ku_wrap h0 h1]
  have hku := ku_lt h0 h1
  generalize hu : ku n = u at *
  have HU := hid hu
  clear hu
  go_wp2_with fail
  go_loopw [5, 13] (fun v i wr => ∃ k : Nat, k ≤ 8 ∧ i = .int .i64 k ∧ v = .slice (some ⟨w.heap.size, 0, none⟩) (l.length + k) (l.length + 8) ∧ wr.ownsRow w.heap.size 5 1 (.slice (some ⟨w.heap.size, 0, none⟩) (l.length + k) (l.length + 8)) (l.length + k) (cells8 (l ++ (beN 8 u).take k)) ∧ Below w.heap.size w wr) (fun _ i _ => 8 - (intOf i).toNat)
  case atStart => exact ⟨0, by omega, rfl, rfl, by simpa using ho, hB⟩
  case round =>
    obtain ⟨k, hk, rfl, rfl, hok, hbel⟩ := hrel
    have hsz := hbel.size
    by_cases hlt : k < 8
    · have htk := hid (beN_take 8 u k hlt)
      have hx : (8 * (7 - (k : Int))).toNat = 8 * (7 - k) := by omega
      go_wp2_with (at_builtin; refine appF [UInt8.ofNat ((u : Int) / 2 ^ (8 * (7 - k)) % 256).toNat] _ (cells8_ofInt _ (Int.emod_nonneg _ (by decide)) (by omega)) rfl _ _ rfl w.heap.size w.heap.size (l.length + 8) _ _ _ _ rfl rfl rfl hok (by omega) hbel hsz ?_; intro w2 ho2 hbel2 hsz2)
      rw [List.append_assoc, be_byte, ← htk.out] at ho2
      go_roundw
      case rel => exact ⟨k + 1, by omega, by go_num, rfl, ho2, hbel2⟩
      case measure => simp [intOf]; omega
    · obtain rfl : k = 8 := by omega
      rw [beN_full, ← HU.out] at hok
      go_wp2
      go_ret
      have hL : l.length + 8 = (l ++ kb n).length := by rw [List.length_append, kb_len]
      exact ⟨ret_sl hL, by rw [← hL]; exact hok, hbel⟩

theorem escB_zero : escB 0 = [0] ++ [255] := rfl
theorem escB_ne {c : UInt8} (h : c ≠ 0) : escB c = [c] := by unfold escB; rw [if_neg h]
theorem at8_zero (l : List UInt8) (k : Nat) : at8 l k = 0 ↔ l.getD k 0 = 0 := by
  unfold at8
  constructor
  · intro h; apply u8_ext; simp only [UInt8.toNat_zero]; omega
  · intro h; rw [h]; rfl
theorem at8_byte (l : List UInt8) (k : Nat) : UInt8.ofNat (at8 l k).toNat = l.getD k 0 := by
  unfold at8; apply u8_ext; rw [Int.toNat_natCast, u8_ofNat (l.getD k 0).toNat_lt]

set_option maxRecDepth 100000 in
set_option maxHeartbeats 800000 in
theorem keyText_any (a : Option Addr) (l : List UInt8) (cap : Nat) (s : ByteArray) (w : World) (hv : Sl w (.slice a l.length cap) l) (hb : l.length + (kt s.data.toList).length ≤ 281474976710656) :
    Calls Tryd.prog 14 #[.slice a l.length cap, .string s] w (Puts (l ++ kt s.data.toList) (l.length + (kt s.data.toList).length) w) := by
  have HV := hid hv
  clear hv
  have hss : s.data.toList.length = s.size := by rw [Array.length_toList]; rfl
  have hkl := kt_len s.data.toList
  rw [hss] at hkl
  have hsb : s.size ≤ 281474976710656 := by omega
  have hcl : s.data.toList.count 0 ≤ s.size := by rw [← hss]; exact List.count_le_length
  have HS := hid hss
  clear hss
  go_enter Tryd.func14, Tryd.ntmps14
  go_wp2_with fail
  refine (count_one s 0 w).mono ?_
  rintro e w ⟨rfl, rfl⟩
  generalize hcn : s.data.toList.count 0 = cn at *
  have HCN := hid hcn
  clear hcn
  go_wp2_with fail
  refine (copy_any a l cap ((s.size : Int) + cn + 2) w HV.out (by omega) (by omega)).mono ?_
  rintro e w1 ⟨rfl, ho, hB⟩
  have h8 : ((s.size : Int) + cn + 2).toNat = (kt s.data.toList).length := by omega
  rw [h8] at ho ⊢
  clear h8
  generalize hC : l.length + (kt s.data.toList).length = C at *
  have HC := hid hC
  go_wp2_with fail
  go_loopw [6, 19] (fun v i wr => ∃ k : Nat, k ≤ s.size ∧ i = .int .i64 k ∧ ∃ m : List UInt8, m = l ++ esc (s.data.toList.take k) ∧ v = .slice (some ⟨w.heap.size, 0, none⟩) m.length C ∧ wr.ownsRow w.heap.size 5 1 (.slice (some ⟨w.heap.size, 0, none⟩) m.length C) m.length (cells8 m) ∧ Below w.heap.size w wr) (fun _ i _ => s.size - (intOf i).toNat)
  case atStart => exact ⟨0, by omega, rfl, l, by simp [esc_nil], rfl, ho, hB⟩
  case round =>
    obtain ⟨k, hk, rfl, m, hm, rfl, hok, hbel⟩ := hrel
    have hsz := hbel.size
    have HM := hid hm
    clear hm
    have hkt : C = l.length + (esc s.data.toList).length + 2 := by have := HC.out; unfold kt at this; rw [List.length_append] at this; simp at this; omega
    have hml : m.length ≤ l.length + (esc s.data.toList).length := by rw [HM.out, List.length_append]; have := esc_take_len s.data.toList k; omega
    have HKT := hid hkt
    clear hkt
    by_cases hlt : k < s.size
    · have hgk : s.data.toList.getD k 0 = s[k] := by
        have h2 : k < s.data.toList.length := by rw [HS.out]; exact hlt
        simp only [List.getD, List.getElem?_eq_getElem h2, Option.getD_some]; rfl
      have hstep := esc_take_succ s.data.toList k (by rw [HS.out]; exact hlt)
      have hlen1 := esc_take_len s.data.toList (k + 1)
      rw [hgk] at hstep
      have HST := hid hstep
      clear hstep hgk
      by_cases hz : s[k] = 0
      · have hzb : ((s[k].toNat : Int) == 0) = true := by rw [hz]; rfl
        have hl2 : m.length + 2 ≤ l.length + (esc s.data.toList).length := by
          rw [HST.out, hz, escB_zero] at hlen1
          rw [HM.out, List.length_append]; simp at hlen1; omega
        have hroom : m.length + 2 ≤ C := by rw [HKT.out]; omega
        have HZ := hid hz
        clear hz hlen1 hl2 hml hC hkl hcl
        go_wp2_with (first
          | (at_builtin; refine appF [s[k]] #[.int .u8 (s[k].toNat : Int)] rfl rfl _ _ rfl w.heap.size w.heap.size C _ _ _ m rfl rfl rfl hok (by omega) hbel hsz ?_; intro w2 ho2 hbel2 hsz2)
          | (at_builtin; refine appF [255] #[.int .u8 255] rfl rfl _ _ rfl w.heap.size w.heap.size C _ _ _ _ rfl rfl rfl ho2 (by omega) hbel2 (by omega) ?_; intro w3 ho3 hbel3 hsz3))
        go_roundw
        case rel =>
          have e : m ++ [s[k]] ++ [255] = l ++ esc (List.take (k + 1) s.data.toList) := by rw [HST.out, HM.out, HZ.out, escB_zero]; simp
          rw [e] at ho3
          have hL : m.length + 1 + 1 = (l ++ esc (List.take (k + 1) s.data.toList)).length := by rw [← e]; simp
          rw [hL] at ho3
          exact ⟨k + 1, by omega, by go_num, _, rfl, by rw [hL], ho3, hbel3⟩
        case measure => simp [intOf]; omega
      · have hzb : ((s[k].toNat : Int) == 0) = false := by
          simp only [beq_eq_false_iff_ne, ne_eq]
          intro h
          exact hz (u8_ext (by simp only [UInt8.toNat_zero]; omega))
        have hroom : m.length + 2 ≤ C := by rw [HKT.out]; omega
        have HZ := hid hz
        clear hz hlen1 hml hC hkl hcl
        go_wp2_with (at_builtin; refine appF [s[k]] #[.int .u8 (s[k].toNat : Int)] rfl rfl _ _ rfl w.heap.size w.heap.size C _ _ _ m rfl rfl rfl hok (by omega) hbel hsz ?_; intro w2 ho2 hbel2 hsz2)
        go_roundw
        case rel =>
          have e : m ++ [s[k]] = l ++ esc (List.take (k + 1) s.data.toList) := by rw [HST.out, HM.out, escB_ne HZ.out]; simp
          rw [e] at ho2
          have hL : m.length + 1 = (l ++ esc (List.take (k + 1) s.data.toList)).length := by rw [← e]; simp
          rw [hL] at ho2
          exact ⟨k + 1, by omega, by go_num, _, rfl, by rw [hL], ho2, hbel2⟩
        case measure => simp [intOf]; omega
    · have hroom : m.length + 2 ≤ C := by rw [HKT.out]; omega
      have hall : List.take k s.data.toList = s.data.toList := List.take_of_length_le (by rw [HS.out]; omega)
      have hmm : m ++ [0, 1] = l ++ kt s.data.toList := by rw [HM.out, hall]; unfold kt; simp
      have HMM := hid hmm
      clear hmm hall hml hC hkl hcl
      go_wp2_with (at_builtin; refine appF [0, 1] #[.int .u8 0, .int .u8 1] rfl rfl _ _ rfl w.heap.size w.heap.size C _ _ _ m rfl rfl rfl hok (by omega) hbel hsz ?_; intro w2 ho2 hbel2 hsz2)
      go_ret
      have hL : m.length + 2 = (l ++ kt s.data.toList).length := by rw [← HMM.out]; simp
      rw [HMM.out, hL] at ho2
      exact ⟨ret_sl hL, ho2, hbel2⟩
end Go.Proofs.YtpflajehakiloaaDoor
