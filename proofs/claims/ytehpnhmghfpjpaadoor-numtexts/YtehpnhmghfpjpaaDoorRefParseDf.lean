/- The reference's Parse, way by way: a point and places. -/
import Derived.Test.YtehpnhmghfpjpaaDoorRefParse0
namespace Go.Proofs.YtehpnhmghfpjpaaDoor
open Go.RowKit

set_option maxRecDepth 100000 in
set_option maxHeartbeats 1600000 in
theorem rpD_f1 (s T : ByteArray) (k : Nat) (w : World) (R : Int × Bool) (hk : k ≤ T.size) (hTi : (T.size : Int) ≤ 9223372036854775807) (hp : 0 < s.size) (h45 : (s[0]'hp).toNat ≠ 45) (hT : s = T)
    (HDG : Hid (∀ i (h : i < T.size), i < k → isD (T[i]'h) = true)) (e1 : decide ((k : Int) < 1) = false) (e2 : decide (10 < (k : Int)) = false) (e3 : decide (1 < (k : Int)) = false) (hsz : k < T.size) (hno : ((T[k]'hsz).toNat : Int) < 48 ∨ 57 < ((T[k]'hsz).toNat : Int)) (e5 : (((T[k]'hsz).toNat : Int) != 46) = false) (p : Nat) (rp : (T.size : Int) - (k : Int) - 1 = (p : Int)) (e6 : decide ((p : Int) < 1) = false) (e7 : decide (6 < (p : Int)) = false)
         (HV : Hid (∀ q, q ≤ k → (0 : Int) ≤ (valW 0 (T.data.toList.take q) : Int) ∧ (valW 0 (T.data.toList.take q) : Int) < 10000000000))
         (HG : Hid ((∀ z, z < 6 → isD ((T.data.toList.drop (k + 1))[z]?.getD 48) = true) → R = endI false (frac (T.data.toList.drop (k + 1)) (valW 0 (T.data.toList.take k)) 6 : Int)))
         (HBAD : Hid (∀ z, z < p → isD ((T.data.toList.drop (k + 1))[z]?.getD 48) = false → R = (0, false))) :
    Calls Tryd.prog 25 #[.string s] w fun e w' => e = .returned (.tuple #[.int .i64 R.1, .bool R.2]) ∧ w' = w := by
  have HPT : Hid (k + 1 + p = T.size) := show k + 1 + p = T.size by omega
  have d0 : (0 : Int) < (s.size : Int) := by omega
  subst hT
  have d45 : (((s[0]'hp).toNat : Int) == 45) = false := by simp; omega
  clear h45
  have hszi : (k : Int) < (s.size : Int) := by omega
  go_enter Tryd.func25, Tryd.ntmps25
  go_wp2
  go_loop [5] (fun a => ∃ i : Nat, i ≤ k ∧ a = .int .i64 i) (fun a => k - (intOf a).toNat)
  case atStart => exact ⟨0, Nat.zero_le _, rfl⟩
  case round =>
    obtain ⟨i, hi, rfl⟩ := hrel
    by_cases hlt : i < k
    · have hin : i < s.size := by omega
      obtain ⟨hD0, hD1⟩ := isD_yes (HDG.out i hin hlt)
      have hii : (i : Int) < (s.size : Int) := by omega
      clear e1 e2 e3 e5 e6 e7 HV HG HBAD HPT rp hno
      go_wp2_with (go_at_call 37; refine (rdig_yes _ _ hD0 hD1).mono ?_; rintro e w ⟨rfl, rfl⟩)
      go_round
      case rel => exact ⟨i + 1, by omega, by go_num⟩
      case measure => simp [intOf]; omega
    · obtain rfl : i = k := by omega
      clear hi hlt
      go_wp2_with (go_at_call 37; refine (rdig_no _ _ hno).mono ?_; rintro e w ⟨rfl, rfl⟩)
      clear e1 e2 e3 e5 e6 e7 rp hno
      go_loop [7, 8] (fun a b => ∃ q : Nat, q ≤ i ∧ b = .int .i64 q ∧ a = .int .i64 (valW 0 (s.data.toList.take q) : Int)) (fun _ b => i - (intOf b).toNat)
      case atStart => exact ⟨0, Nat.zero_le _, rfl, by simp [valW]⟩
      case round =>
        obtain ⟨q, hqi, rfl, rfl⟩ := hrel
        by_cases hlt2 : q < i
        · have hin : q < s.size := by omega
          obtain ⟨hD0, hD1⟩ := isD_yes (HDG.out q hin hlt2)
          have HN := take_step s q hin (HDG.out q hin hlt2)
          have hvi := HV.out q hqi
          have hii : (q : Int) < (s.size : Int) := by omega
          have hqq : (q : Int) < (i : Int) := by omega
          generalize (valW 0 (s.data.toList.take q) : Int) = v at *
          obtain ⟨hv0, hv1⟩ := hvi
          clear HG HBAD HV HPT
          go_wp2
          go_round
          case rel => exact ⟨q + 1, by omega, by go_num, by rw [HN.out]⟩
          case measure => simp [intOf]; omega
        · obtain rfl : q = i := by omega
          clear hqi hlt2
          have hvl : valW 0 (s.data.toList.take q) < 10000000000 := by have := (HV.out q (Nat.le_refl _)).2; omega
          have HVL : Hid (valW 0 (s.data.toList.take q) < 10000000000) := hvl
          have HGOOD : Hid ((∀ z, z < 6 → isD ((s.data.toList.drop (q + 1))[z]?.getD 48) = true) → R = endI false (frac (s.data.toList.drop (q + 1)) (valW 0 (s.data.toList.take q)) 6 : Int)) := HG
          clear HG hvl HV HDG
          generalize valW 0 (s.data.toList.take q) = v at *
          go_wp2
          go_loop [7, 9] (fun a b => ∃ j : Nat, j ≤ 6 ∧ b = .int .i64 j ∧ a = .int .i64 (frac (s.data.toList.drop (q + 1)) v j : Int) ∧ ∀ z, z < j → isD ((s.data.toList.drop (q + 1))[z]?.getD 48) = true) (fun _ b => 6 - (intOf b).toNat)
          case atStart => exact ⟨0, Nat.zero_le _, rfl, rfl, fun z h => absurd h (Nat.not_lt_zero _)⟩
          case round =>
            obtain ⟨j, hj, rfl, rfl, hall⟩ := hrel
            have HALL : Hid (∀ z, z < j → isD ((s.data.toList.drop (q + 1))[z]?.getD 48) = true) := hall
            clear hall
            have hpT := HPT.out
            by_cases hlt3 : j < 6
            · have hji : (j : Int) < 6 := by omega
              obtain ⟨hy0, hy1⟩ := frd_of HVL.out hlt3 HALL.out
              by_cases hpj : j < p
              · have hidx : q + 1 + j < s.size := by omega
                have hgd := drop_getD s q j hidx
                have c1 : (q : Int) + 1 + (j : Int) < (s.size : Int) := by omega
                have hpi : (j : Int) < (p : Int) := by omega
                by_cases hdg : isD (s[q + 1 + j]'hidx) = true
                · obtain ⟨hD0, hD1⟩ := isD_yes hdg
                  have HN := fracd_yes s q v j hidx hdg
                  have HA := all_next HALL.out (by rw [hgd]; exact hdg)
                  generalize (frac (s.data.toList.drop (q + 1)) v j : Int) = y at *
                  clear hgd hdg HALL HGOOD HBAD HVL HPT hpT hpj
                  go_wp2_with (go_at_call 37; refine (rdig_yes _ _ hD0 hD1).mono ?_; rintro e w ⟨rfl, rfl⟩)
                  go_round
                  case rel => exact ⟨j + 1, by omega, by go_num, by rw [HN.out], HA.out⟩
                  case measure => simp [intOf]; omega
                · have hdf : isD (s[q + 1 + j]'hidx) = false := by simpa using hdg
                  have hno2 := isD_no hdf
                  have HZ : Hid (R = (0, false)) := HBAD.out j hpj (by rw [hgd]; exact hdf)
                  generalize (frac (s.data.toList.drop (q + 1)) v j : Int) = y at *
                  clear hgd hdg hdf HALL HGOOD HBAD HVL HPT hpT hpj
                  go_wp2_with (go_at_call 37; refine (rdig_no _ _ hno2).mono ?_; rintro e w ⟨rfl, rfl⟩)
                  go_ret2
                  exact ⟨by rw [HZ.out]; rfl, rfl⟩
              · have hpi : ¬ ((j : Int) < (p : Int)) := by omega
                have HN := fracd_end s q v p j hpT (by omega)
                have HA := all_next HALL.out (by rw [getD_drop_none hpT (by omega)]; rfl)
                generalize (frac (s.data.toList.drop (q + 1)) v j : Int) = y at *
                clear HALL HGOOD HBAD HVL HPT hpT hpj
                go_wp2
                go_round
                case rel => exact ⟨j + 1, by omega, by go_num, by rw [HN.out], HA.out⟩
                case measure => simp [intOf]; omega
            · obtain rfl : j = 6 := by omega
              obtain ⟨hy0, hy2⟩ := frd6_of HVL.out HALL.out
              have HR : Hid (R = endI false (frac (s.data.toList.drop (q + 1)) v 6 : Int)) := HGOOD.out HALL.out
              generalize (frac (s.data.toList.drop (q + 1)) v 6 : Int) = y at *
              clear HALL HGOOD HBAD HVL HPT hpT hj hlt3
              by_cases hbig : 1000000000000000 < y
              · have d1 : decide ((1000000000000000 : Int) < y) = true := decide_eq_true hbig
                have HZ : Hid (R = (0, false)) := by show R = _; rw [HR.out]; unfold endI; simp [hbig]
                clear HR
                go_wp2
                go_ret2
                exact ⟨by rw [HZ.out]; rfl, rfl⟩
              · have d1 : decide ((1000000000000000 : Int) < y) = false := decide_eq_false hbig
                have HZ : Hid (R = (y, true)) := by show R = _; rw [HR.out]; unfold endI; simp [hbig]
                clear HR
                go_wp2
                go_ret2
                exact ⟨by rw [HZ.out]; rfl, rfl⟩

set_option maxRecDepth 100000 in
set_option maxHeartbeats 1600000 in
theorem rpD_f2 (s T : ByteArray) (k : Nat) (w : World) (R : Int × Bool) (hk : k ≤ T.size) (hTi : (T.size : Int) ≤ 9223372036854775807) (hp : 0 < s.size) (h45 : (s[0]'hp).toNat ≠ 45) (hT : s = T)
    (HDG : Hid (∀ i (h : i < T.size), i < k → isD (T[i]'h) = true)) (e1 : decide ((k : Int) < 1) = false) (e2 : decide (10 < (k : Int)) = false) (e3 : decide (1 < (k : Int)) = true) (hT0 : 0 < T.size) (e4 : (((T[0]'hT0).toNat : Int) == 48) = false) (hsz : k < T.size) (hno : ((T[k]'hsz).toNat : Int) < 48 ∨ 57 < ((T[k]'hsz).toNat : Int)) (e5 : (((T[k]'hsz).toNat : Int) != 46) = false) (p : Nat) (rp : (T.size : Int) - (k : Int) - 1 = (p : Int)) (e6 : decide ((p : Int) < 1) = false) (e7 : decide (6 < (p : Int)) = false)
         (HV : Hid (∀ q, q ≤ k → (0 : Int) ≤ (valW 0 (T.data.toList.take q) : Int) ∧ (valW 0 (T.data.toList.take q) : Int) < 10000000000))
         (HG : Hid ((∀ z, z < 6 → isD ((T.data.toList.drop (k + 1))[z]?.getD 48) = true) → R = endI false (frac (T.data.toList.drop (k + 1)) (valW 0 (T.data.toList.take k)) 6 : Int)))
         (HBAD : Hid (∀ z, z < p → isD ((T.data.toList.drop (k + 1))[z]?.getD 48) = false → R = (0, false))) :
    Calls Tryd.prog 25 #[.string s] w fun e w' => e = .returned (.tuple #[.int .i64 R.1, .bool R.2]) ∧ w' = w := by
  have HPT : Hid (k + 1 + p = T.size) := show k + 1 + p = T.size by omega
  have d0 : (0 : Int) < (s.size : Int) := by omega
  subst hT
  have d45 : (((s[0]'hp).toNat : Int) == 45) = false := by simp; omega
  clear h45
  have hT0i : (0 : Int) < (s.size : Int) := by omega
  have hszi : (k : Int) < (s.size : Int) := by omega
  go_enter Tryd.func25, Tryd.ntmps25
  go_wp2
  go_loop [5] (fun a => ∃ i : Nat, i ≤ k ∧ a = .int .i64 i) (fun a => k - (intOf a).toNat)
  case atStart => exact ⟨0, Nat.zero_le _, rfl⟩
  case round =>
    obtain ⟨i, hi, rfl⟩ := hrel
    by_cases hlt : i < k
    · have hin : i < s.size := by omega
      obtain ⟨hD0, hD1⟩ := isD_yes (HDG.out i hin hlt)
      have hii : (i : Int) < (s.size : Int) := by omega
      clear e1 e2 e3 e4 e5 e6 e7 HV HG HBAD HPT rp hno
      go_wp2_with (go_at_call 37; refine (rdig_yes _ _ hD0 hD1).mono ?_; rintro e w ⟨rfl, rfl⟩)
      go_round
      case rel => exact ⟨i + 1, by omega, by go_num⟩
      case measure => simp [intOf]; omega
    · obtain rfl : i = k := by omega
      clear hi hlt
      go_wp2_with (go_at_call 37; refine (rdig_no _ _ hno).mono ?_; rintro e w ⟨rfl, rfl⟩)
      clear e1 e2 e3 e4 e5 e6 e7 rp hno
      go_loop [7, 8] (fun a b => ∃ q : Nat, q ≤ i ∧ b = .int .i64 q ∧ a = .int .i64 (valW 0 (s.data.toList.take q) : Int)) (fun _ b => i - (intOf b).toNat)
      case atStart => exact ⟨0, Nat.zero_le _, rfl, by simp [valW]⟩
      case round =>
        obtain ⟨q, hqi, rfl, rfl⟩ := hrel
        by_cases hlt2 : q < i
        · have hin : q < s.size := by omega
          obtain ⟨hD0, hD1⟩ := isD_yes (HDG.out q hin hlt2)
          have HN := take_step s q hin (HDG.out q hin hlt2)
          have hvi := HV.out q hqi
          have hii : (q : Int) < (s.size : Int) := by omega
          have hqq : (q : Int) < (i : Int) := by omega
          generalize (valW 0 (s.data.toList.take q) : Int) = v at *
          obtain ⟨hv0, hv1⟩ := hvi
          clear HG HBAD HV HPT
          go_wp2
          go_round
          case rel => exact ⟨q + 1, by omega, by go_num, by rw [HN.out]⟩
          case measure => simp [intOf]; omega
        · obtain rfl : q = i := by omega
          clear hqi hlt2
          have hvl : valW 0 (s.data.toList.take q) < 10000000000 := by have := (HV.out q (Nat.le_refl _)).2; omega
          have HVL : Hid (valW 0 (s.data.toList.take q) < 10000000000) := hvl
          have HGOOD : Hid ((∀ z, z < 6 → isD ((s.data.toList.drop (q + 1))[z]?.getD 48) = true) → R = endI false (frac (s.data.toList.drop (q + 1)) (valW 0 (s.data.toList.take q)) 6 : Int)) := HG
          clear HG hvl HV HDG
          generalize valW 0 (s.data.toList.take q) = v at *
          go_wp2
          go_loop [7, 9] (fun a b => ∃ j : Nat, j ≤ 6 ∧ b = .int .i64 j ∧ a = .int .i64 (frac (s.data.toList.drop (q + 1)) v j : Int) ∧ ∀ z, z < j → isD ((s.data.toList.drop (q + 1))[z]?.getD 48) = true) (fun _ b => 6 - (intOf b).toNat)
          case atStart => exact ⟨0, Nat.zero_le _, rfl, rfl, fun z h => absurd h (Nat.not_lt_zero _)⟩
          case round =>
            obtain ⟨j, hj, rfl, rfl, hall⟩ := hrel
            have HALL : Hid (∀ z, z < j → isD ((s.data.toList.drop (q + 1))[z]?.getD 48) = true) := hall
            clear hall
            have hpT := HPT.out
            by_cases hlt3 : j < 6
            · have hji : (j : Int) < 6 := by omega
              obtain ⟨hy0, hy1⟩ := frd_of HVL.out hlt3 HALL.out
              by_cases hpj : j < p
              · have hidx : q + 1 + j < s.size := by omega
                have hgd := drop_getD s q j hidx
                have c1 : (q : Int) + 1 + (j : Int) < (s.size : Int) := by omega
                have hpi : (j : Int) < (p : Int) := by omega
                by_cases hdg : isD (s[q + 1 + j]'hidx) = true
                · obtain ⟨hD0, hD1⟩ := isD_yes hdg
                  have HN := fracd_yes s q v j hidx hdg
                  have HA := all_next HALL.out (by rw [hgd]; exact hdg)
                  generalize (frac (s.data.toList.drop (q + 1)) v j : Int) = y at *
                  clear hgd hdg HALL HGOOD HBAD HVL HPT hpT hpj
                  go_wp2_with (go_at_call 37; refine (rdig_yes _ _ hD0 hD1).mono ?_; rintro e w ⟨rfl, rfl⟩)
                  go_round
                  case rel => exact ⟨j + 1, by omega, by go_num, by rw [HN.out], HA.out⟩
                  case measure => simp [intOf]; omega
                · have hdf : isD (s[q + 1 + j]'hidx) = false := by simpa using hdg
                  have hno2 := isD_no hdf
                  have HZ : Hid (R = (0, false)) := HBAD.out j hpj (by rw [hgd]; exact hdf)
                  generalize (frac (s.data.toList.drop (q + 1)) v j : Int) = y at *
                  clear hgd hdg hdf HALL HGOOD HBAD HVL HPT hpT hpj
                  go_wp2_with (go_at_call 37; refine (rdig_no _ _ hno2).mono ?_; rintro e w ⟨rfl, rfl⟩)
                  go_ret2
                  exact ⟨by rw [HZ.out]; rfl, rfl⟩
              · have hpi : ¬ ((j : Int) < (p : Int)) := by omega
                have HN := fracd_end s q v p j hpT (by omega)
                have HA := all_next HALL.out (by rw [getD_drop_none hpT (by omega)]; rfl)
                generalize (frac (s.data.toList.drop (q + 1)) v j : Int) = y at *
                clear HALL HGOOD HBAD HVL HPT hpT hpj
                go_wp2
                go_round
                case rel => exact ⟨j + 1, by omega, by go_num, by rw [HN.out], HA.out⟩
                case measure => simp [intOf]; omega
            · obtain rfl : j = 6 := by omega
              obtain ⟨hy0, hy2⟩ := frd6_of HVL.out HALL.out
              have HR : Hid (R = endI false (frac (s.data.toList.drop (q + 1)) v 6 : Int)) := HGOOD.out HALL.out
              generalize (frac (s.data.toList.drop (q + 1)) v 6 : Int) = y at *
              clear HALL HGOOD HBAD HVL HPT hpT hj hlt3
              by_cases hbig : 1000000000000000 < y
              · have d1 : decide ((1000000000000000 : Int) < y) = true := decide_eq_true hbig
                have HZ : Hid (R = (0, false)) := by show R = _; rw [HR.out]; unfold endI; simp [hbig]
                clear HR
                go_wp2
                go_ret2
                exact ⟨by rw [HZ.out]; rfl, rfl⟩
              · have d1 : decide ((1000000000000000 : Int) < y) = false := decide_eq_false hbig
                have HZ : Hid (R = (y, true)) := by show R = _; rw [HR.out]; unfold endI; simp [hbig]
                clear HR
                go_wp2
                go_ret2
                exact ⟨by rw [HZ.out]; rfl, rfl⟩
end Go.Proofs.YtehpnhmghfpjpaaDoor
