/- The reference's Parse, way by way: nothing stands behind the digits. -/
import Derived.Test.YtehpnhmghfpjpaaDoorRefParse0
namespace Go.Proofs.YtehpnhmghfpjpaaDoor
open Go.RowKit

set_option maxRecDepth 100000 in
set_option maxHeartbeats 1600000 in
theorem rpN_f1 (s T : ByteArray) (k : Nat) (w : World) (R : Int × Bool) (hk : k ≤ T.size) (hTi : (T.size : Int) ≤ 9223372036854775807) (hp : 0 < s.size) (h45 : (s[0]'hp).toNat ≠ 45) (hT : s = T)
    (HDG : Hid (∀ i (h : i < T.size), i < k → isD (T[i]'h) = true)) (e1 : decide ((k : Int) < 1) = false) (e2 : decide (10 < (k : Int)) = false) (e3 : decide (1 < (k : Int)) = false) (hkT : T.size ≤ k) (HV : Hid (∀ q, q ≤ k → (0 : Int) ≤ (valW 0 (T.data.toList.take q) : Int) ∧ (valW 0 (T.data.toList.take q) : Int) < 10000000000)) (HR : Hid (R = endI false (frac ([] : List UInt8) (valW 0 (T.data.toList.take k)) 6 : Int))) :
    Calls Tryd.prog 25 #[.string s] w fun e w' => e = .returned (.tuple #[.int .i64 R.1, .bool R.2]) ∧ w' = w := by
  have d0 : (0 : Int) < (s.size : Int) := by omega
  subst hT
  have d45 : (((s[0]'hp).toNat : Int) == 45) = false := by simp; omega
  clear h45
  go_enter Tryd.func25, Tryd.ntmps25
  go_wp2
  go_loop [5] (fun a => ∃ i : Nat, i ≤ k ∧ a = .int .i64 i) (fun a => k - (intOf a).toNat)
  case atStart => exact ⟨0, Nat.zero_le _, rfl⟩
  case round =>
    obtain ⟨i, hi, rfl⟩ := hrel
    by_cases hlt : i < k
    · have hin : i < s.size := by omega
      obtain ⟨hD0, hD1⟩ := isD_yes (HDG.out i hin hlt)
      have hii : (i : Int) < (s.size : Int) := by omega
      clear e1 e2 e3 HV HR
      go_wp2_with (go_at_call 37; refine (rdig_yes _ _ hD0 hD1).mono ?_; rintro e w ⟨rfl, rfl⟩)
      go_round
      case rel => exact ⟨i + 1, by omega, by go_num⟩
      case measure => simp [intOf]; omega
    · obtain rfl : i = k := by omega
      clear hi hlt
      have hszi : ¬ ((i : Int) < (s.size : Int)) := by omega
      go_wp2
      clear hszi e1 e2 e3
      go_loop [7, 8] (fun a b => ∃ q : Nat, q ≤ i ∧ b = .int .i64 q ∧ a = .int .i64 (valW 0 (s.data.toList.take q) : Int)) (fun _ b => i - (intOf b).toNat)
      case atStart => exact ⟨0, Nat.zero_le _, rfl, by simp [valW]⟩
      case round =>
        obtain ⟨q, hqi, rfl, rfl⟩ := hrel
        by_cases hlt2 : q < i
        · have hin : q < s.size := by omega
          obtain ⟨hD0, hD1⟩ := isD_yes (HDG.out q hin hlt2)
          have HN := take_step s q hin (HDG.out q hin hlt2)
          have hvi := HV.out q hqi
          have hii : (q : Int) < (s.size : Int) := by omega
          have hqq : (q : Int) < (i : Int) := by omega
          generalize (valW 0 (s.data.toList.take q) : Int) = v at *
          obtain ⟨hv0, hv1⟩ := hvi
          clear HR HV
          go_wp2
          go_round
          case rel => exact ⟨q + 1, by omega, by go_num, by rw [HN.out]⟩
          case measure => simp [intOf]; omega
        · obtain rfl : q = i := by omega
          clear hqi hlt2
          have hvl : valW 0 (s.data.toList.take q) < 10000000000 := by have := (HV.out q (Nat.le_refl _)).2; omega
          have HFR := frn_of hvl
          have HF6 := frn6_of hvl
          generalize valW 0 (s.data.toList.take q) = v at *
          clear hvl HV HDG
          go_wp2
          go_loop [7, 9] (fun a b => ∃ j : Nat, j ≤ 6 ∧ b = .int .i64 j ∧ a = .int .i64 (frac ([] : List UInt8) v j : Int)) (fun _ b => 6 - (intOf b).toNat)
          case atStart => exact ⟨0, Nat.zero_le _, rfl, rfl⟩
          case round =>
            obtain ⟨j, hj, rfl, rfl⟩ := hrel
            by_cases hlt3 : j < 6
            · have hy0 := (HFR.out j (by omega)).1
              have hy1 := (HFR.out j (by omega)).2 (by omega)
              have HN := fracn_step v j
              have hji : (j : Int) < 6 := by omega
              have hj0 : ¬ ((j : Int) < 0) := by omega
              generalize (frac ([] : List UInt8) v j : Int) = y at *
              clear HFR HR
              go_wp2
              go_round
              case rel => exact ⟨j + 1, by omega, by go_num, by rw [HN.out]⟩
              case measure => simp [intOf]; omega
            · obtain rfl : j = 6 := by omega
              have hy0 := (HFR.out 6 (by omega)).1
              have hy2 := HF6.out
              generalize (frac ([] : List UInt8) v 6 : Int) = y at *
              clear HFR HF6 hj hlt3
              by_cases hbig : 1000000000000000 < y
              · have d1 : decide ((1000000000000000 : Int) < y) = true := decide_eq_true hbig
                have HZ : Hid (R = (0, false)) := by show R = _; rw [HR.out]; unfold endI; simp [hbig]
                clear HR
                go_wp2
                go_ret2
                exact ⟨by rw [HZ.out]; rfl, rfl⟩
              · have d1 : decide ((1000000000000000 : Int) < y) = false := decide_eq_false hbig
                have HZ : Hid (R = (y, true)) := by show R = _; rw [HR.out]; unfold endI; simp [hbig]
                clear HR
                go_wp2
                go_ret2
                exact ⟨by rw [HZ.out]; rfl, rfl⟩

set_option maxRecDepth 100000 in
set_option maxHeartbeats 1600000 in
theorem rpN_f2 (s T : ByteArray) (k : Nat) (w : World) (R : Int × Bool) (hk : k ≤ T.size) (hTi : (T.size : Int) ≤ 9223372036854775807) (hp : 0 < s.size) (h45 : (s[0]'hp).toNat ≠ 45) (hT : s = T)
    (HDG : Hid (∀ i (h : i < T.size), i < k → isD (T[i]'h) = true)) (e1 : decide ((k : Int) < 1) = false) (e2 : decide (10 < (k : Int)) = false) (e3 : decide (1 < (k : Int)) = true) (hT0 : 0 < T.size) (e4 : (((T[0]'hT0).toNat : Int) == 48) = false) (hkT : T.size ≤ k) (HV : Hid (∀ q, q ≤ k → (0 : Int) ≤ (valW 0 (T.data.toList.take q) : Int) ∧ (valW 0 (T.data.toList.take q) : Int) < 10000000000)) (HR : Hid (R = endI false (frac ([] : List UInt8) (valW 0 (T.data.toList.take k)) 6 : Int))) :
    Calls Tryd.prog 25 #[.string s] w fun e w' => e = .returned (.tuple #[.int .i64 R.1, .bool R.2]) ∧ w' = w := by
  have d0 : (0 : Int) < (s.size : Int) := by omega
  subst hT
  have d45 : (((s[0]'hp).toNat : Int) == 45) = false := by simp; omega
  clear h45
  have hT0i : (0 : Int) < (s.size : Int) := by omega
  go_enter Tryd.func25, Tryd.ntmps25
  go_wp2
  go_loop [5] (fun a => ∃ i : Nat, i ≤ k ∧ a = .int .i64 i) (fun a => k - (intOf a).toNat)
  case atStart => exact ⟨0, Nat.zero_le _, rfl⟩
  case round =>
    obtain ⟨i, hi, rfl⟩ := hrel
    by_cases hlt : i < k
    · have hin : i < s.size := by omega
      obtain ⟨hD0, hD1⟩ := isD_yes (HDG.out i hin hlt)
      have hii : (i : Int) < (s.size : Int) := by omega
      clear e1 e2 e3 e4 HV HR
      go_wp2_with (go_at_call 37; refine (rdig_yes _ _ hD0 hD1).mono ?_; rintro e w ⟨rfl, rfl⟩)
      go_round
      case rel => exact ⟨i + 1, by omega, by go_num⟩
      case measure => simp [intOf]; omega
    · obtain rfl : i = k := by omega
      clear hi hlt
      have hszi : ¬ ((i : Int) < (s.size : Int)) := by omega
      go_wp2
      clear hszi e1 e2 e3 e4
      go_loop [7, 8] (fun a b => ∃ q : Nat, q ≤ i ∧ b = .int .i64 q ∧ a = .int .i64 (valW 0 (s.data.toList.take q) : Int)) (fun _ b => i - (intOf b).toNat)
      case atStart => exact ⟨0, Nat.zero_le _, rfl, by simp [valW]⟩
      case round =>
        obtain ⟨q, hqi, rfl, rfl⟩ := hrel
        by_cases hlt2 : q < i
        · have hin : q < s.size := by omega
          obtain ⟨hD0, hD1⟩ := isD_yes (HDG.out q hin hlt2)
          have HN := take_step s q hin (HDG.out q hin hlt2)
          have hvi := HV.out q hqi
          have hii : (q : Int) < (s.size : Int) := by omega
          have hqq : (q : Int) < (i : Int) := by omega
          generalize (valW 0 (s.data.toList.take q) : Int) = v at *
          obtain ⟨hv0, hv1⟩ := hvi
          clear HR HV
          go_wp2
          go_round
          case rel => exact ⟨q + 1, by omega, by go_num, by rw [HN.out]⟩
          case measure => simp [intOf]; omega
        · obtain rfl : q = i := by omega
          clear hqi hlt2
          have hvl : valW 0 (s.data.toList.take q) < 10000000000 := by have := (HV.out q (Nat.le_refl _)).2; omega
          have HFR := frn_of hvl
          have HF6 := frn6_of hvl
          generalize valW 0 (s.data.toList.take q) = v at *
          clear hvl HV HDG
          go_wp2
          go_loop [7, 9] (fun a b => ∃ j : Nat, j ≤ 6 ∧ b = .int .i64 j ∧ a = .int .i64 (frac ([] : List UInt8) v j : Int)) (fun _ b => 6 - (intOf b).toNat)
          case atStart => exact ⟨0, Nat.zero_le _, rfl, rfl⟩
          case round =>
            obtain ⟨j, hj, rfl, rfl⟩ := hrel
            by_cases hlt3 : j < 6
            · have hy0 := (HFR.out j (by omega)).1
              have hy1 := (HFR.out j (by omega)).2 (by omega)
              have HN := fracn_step v j
              have hji : (j : Int) < 6 := by omega
              have hj0 : ¬ ((j : Int) < 0) := by omega
              generalize (frac ([] : List UInt8) v j : Int) = y at *
              clear HFR HR
              go_wp2
              go_round
              case rel => exact ⟨j + 1, by omega, by go_num, by rw [HN.out]⟩
              case measure => simp [intOf]; omega
            · obtain rfl : j = 6 := by omega
              have hy0 := (HFR.out 6 (by omega)).1
              have hy2 := HF6.out
              generalize (frac ([] : List UInt8) v 6 : Int) = y at *
              clear HFR HF6 hj hlt3
              by_cases hbig : 1000000000000000 < y
              · have d1 : decide ((1000000000000000 : Int) < y) = true := decide_eq_true hbig
                have HZ : Hid (R = (0, false)) := by show R = _; rw [HR.out]; unfold endI; simp [hbig]
                clear HR
                go_wp2
                go_ret2
                exact ⟨by rw [HZ.out]; rfl, rfl⟩
              · have d1 : decide ((1000000000000000 : Int) < y) = false := decide_eq_false hbig
                have HZ : Hid (R = (y, true)) := by show R = _; rw [HR.out]; unfold endI; simp [hbig]
                clear HR
                go_wp2
                go_ret2
                exact ⟨by rw [HZ.out]; rfl, rfl⟩
end Go.Proofs.YtehpnhmghfpjpaaDoor
