/- texts put together: DRefB -/
import Derived.Test.YtddbiiejilcbbaaGreatDoorAG11
import Derived.Test.YtddbiiejilcbbaaGreatDoorAG12
import Derived.Test.YtddbiiejilcbbaaGreatDoorAG1
namespace Go.Proofs.YtddbiiejilcbbaaGreatDoor
open Go Go.RowKit

theorem clampD_hi {n : Int} (h : 73048 ≤ n) : clampD n = 73048 := by unfold clampD; split <;> (try split) <;> omega
theorem clampD_lo {n : Int} (h : n ≤ 0) : clampD n = 0 := by unfold clampD; split <;> (try split) <;> omega
set_option maxHeartbeats 400000 in
theorem rclamp_day (n : Int) (w : World) :
    Calls Tryz.prog 47 #[.int .i64 n] w fun e w' => e = .returned (.int .i64 (clampD n : Nat)) ∧ w' = w := by
  unfold clampD
  by_cases h0 : n < 0
  · go_enter Tryz.func47, Tryz.ntmps47
    rw [if_pos h0]
    go_wp2
    all_goals
      go_ret
      exact ⟨ret_intD (by omega), rfl⟩
  · by_cases h1 : 73048 < n
    · go_enter Tryz.func47, Tryz.ntmps47
      rw [if_neg h0, if_pos h1]
      go_wp2
      all_goals
        go_ret
        exact ⟨ret_intD (by omega), rfl⟩
    · go_enter Tryz.func47, Tryz.ntmps47
      rw [if_neg h0, if_neg h1]
      go_wp2
      all_goals
        go_ret
        exact ⟨ret_intD (by omega), rfl⟩

set_option maxHeartbeats 800000 in
theorem rplus_any (day n : Int) (w : World) :
    Calls Tryz.prog 95 #[.int .i64 day, .int .i64 n] w fun e w' => e = .returned (.int .i64 (plusV day n : Nat)) ∧ w' = w := by
  have h1 := clampD_le day
  have HC1 := hid (rclamp_day day)
  by_cases c1 : 73048 < n
  · have e : plusV day n = 73048 := by unfold plusV withinI; rw [if_neg (by omega), if_pos c1]; exact clampD_hi (by omega)
    rw [e]
    generalize clampD day = D at *
    go_enter Tryz.func95, Tryz.ntmps95
    go_wp2_with fail
    refine (HC1.out _).mono ?_
    rintro e w1 ⟨rfl, rfl⟩
    go_wp2
    go_ret
    exact ⟨rfl, rfl⟩
  · by_cases c2 : n < -73048
    · have e : plusV day n = 0 := by unfold plusV withinI; rw [if_pos c2]; exact clampD_lo (by omega)
      rw [e]
      generalize clampD day = D at *
      go_enter Tryz.func95, Tryz.ntmps95
      go_wp2_with fail
      refine (HC1.out _).mono ?_
      rintro e w1 ⟨rfl, rfl⟩
      go_wp2
      go_ret
      exact ⟨rfl, rfl⟩
    · have e : plusV day n = clampD ((clampD day : Int) + n) := by unfold plusV withinI; rw [if_neg c2, if_neg c1]
      rw [e]
      have HC2 := hid (rclamp_day ((clampD day : Int) + n))
      clear e
      generalize clampD ((clampD day : Int) + n) = R at *
      generalize clampD day = D at *
      go_enter Tryz.func95, Tryz.ntmps95
      go_wp2_with fail
      refine (HC1.out _).mono ?_
      rintro e w1 ⟨rfl, rfl⟩
      go_wp2_with fail
      refine (HC2.out _).mono ?_
      rintro e w1 ⟨rfl, rfl⟩
      go_wp2
      go_ret
      exact ⟨rfl, rfl⟩

set_option maxHeartbeats 800000 in
theorem rmonths_any (day n : Int) (w : World) :
    Calls Tryz.prog 97 #[.int .i64 day, .int .i64 n] w fun e w' => ∃ y m d : Nat, Dt y m d ∧ dn y m d = clampD day ∧ e = .returned (.int .i64 (monV y m d n : Nat)) ∧ Below w.heap.size w w' := by
  have hcl := clampD_le day
  have HC1 := hid (rclamp_day day)
  generalize clampD day = D at *
  go_enter Tryz.func97, Tryz.ntmps97
  go_wp2_with fail
  refine (HC1.out _).mono ?_
  rintro e w1 ⟨rfl, rfl⟩
  go_wp2_with fail
  refine (rparts_yes D hcl _).mono ?_
  rintro e w2 ⟨y, m, d, hd, hdn, rfl, hB⟩
  have hy := hd.1
  have hm := hd.2.1
  have hd31 := hd.dle
  have hd1 := hd.2.2.1
  have HD := hid hd
  have HDN := hid hdn
  clear hd hdn
  by_cases c1 : 2400 < n
  · have e : monV y m d n = 73048 := by unfold monV monK withinI; rw [if_neg (by omega : ¬ n < -2400), if_pos c1, if_neg (by omega), if_pos (by omega)]
    go_wp2
    go_ret
    exact ⟨y, m, d, HD.out, HDN.out, by rw [e]; rfl, hB⟩
  · by_cases c2 : n < -2400
    · have e : monV y m d n = 0 := by unfold monV monK withinI; rw [if_pos c2, if_pos (by omega)]
      go_wp2
      go_ret
      exact ⟨y, m, d, HD.out, HDN.out, by rw [e]; rfl, hB⟩
    · have eK : monK y m n = n + (y : Int) * 12 + (m : Int) := by unfold monK withinI; rw [if_neg c2, if_neg c1]
      by_cases c3 : n + (y : Int) * 12 + (m : Int) < 0
      · have e : monV y m d n = 0 := by unfold monV; rw [eK, if_pos c3]
        have c3' : 12 * (1900 + (y : Int)) + ((m : Int) + 1) - 1 + n < 22800 := by omega
        clear eK
        go_wp2
        go_ret
        exact ⟨y, m, d, HD.out, HDN.out, by rw [e]; rfl, hB⟩
      · by_cases c4 : 2400 ≤ n + (y : Int) * 12 + (m : Int)
        · have e : monV y m d n = 73048 := by unfold monV; rw [eK, if_neg c3, if_pos c4]
          clear eK
          go_wp2
          go_ret
          exact ⟨y, m, d, HD.out, HDN.out, by rw [e]; rfl, hB⟩
        · obtain ⟨k, hk⟩ := Int.eq_ofNat_of_zero_le (a := n + (y : Int) * 12 + (m : Int)) (by omega)
          have e : monV y m d n = dn (k / 12) (k % 12) (min d (ml (1900 + k / 12) (k % 12))) := by
            unfold monV; rw [eK, if_neg c3, if_neg c4, hk]; simp only [Int.toNat_natCast]
          have HE := hid e
          clear e eK
          go_wp2_with fail
          have hKb : 12 * (1900 + (y : Int)) + ((m : Int) + 1) - 1 + n = 22800 + (k : Int) := by omega
          have hk2 : k < 2400 := by omega
          rw [hKb]
          clear hKb hk c1 c2 c3 c4
          have e1 : (22800 + (k : Int)) / 12 = 1900 + ((k / 12 : Nat) : Int) := by omega
          have e2 : (22800 + (k : Int)) % 12 = ((k % 12 : Nat) : Int) := by omega
          rw [e1, e2]
          have hY1 : k / 12 < 200 := by omega
          have hM1 : k % 12 < 12 := by omega
          clear e1 e2
          generalize k / 12 = Y at *
          generalize k % 12 = M at *
          have hml := ml_le (1900 + Y) hM1
          have hmg := ml_ge (1900 + Y) hM1
          have HL := hid (rlength_any (1900 + Y) M (by omega) hM1)
          rw [show ((1900 + Y : Nat) : Int) = 1900 + (Y : Int) by omega] at HL
          have hDt : Dt Y M (min d (ml (1900 + Y) M)) := ⟨hY1, hM1, by omega, by omega⟩
          have HO := hid (fun w => rof_any (1900 + (Y : Int)) ((M : Int) + 1) ((min d (ml (1900 + Y) M) : Nat) : Int) w)
          rw [ofV_yes hDt] at HO
          generalize ml (1900 + Y) M = L at *
          have em : (if (L : Int) < (d : Int) then (L : Int) else (d : Int)) = ((min d L : Nat) : Int) := by split <;> omega
          refine (HL.out _).mono ?_
          rintro e w3 ⟨rfl, hB3⟩
          have hB3 := Below.next hB hB3
          go_wp2_with fail
          have em2 : min (d : Int) (L : Int) = ((min d L : Nat) : Int) := by omega
          first | rw [em2] | rw [em] | skip
          refine (HO.out _).mono ?_
          rintro e w4 ⟨rfl, hB4⟩
          go_wp2
          go_ret
          exact ⟨y, m, d, HD.out, HDN.out, by rw [HE.out]; rfl, Below.next hB3 hB4⟩

set_option maxHeartbeats 800000 in
theorem ryears_any (a b : Int) (w : World) :
    Calls Tryz.prog 98 #[.int .i64 a, .int .i64 b] w fun e w' => e = .returned (.int .i64 (shareV ((clampD b : Int) - (clampD a : Int)) 365)) ∧ w' = w := by
  have h1 := clampD_le a
  have h2 := clampD_le b
  have HS := hid (rdiv_any (((clampD b : Int) - (clampD a : Int)) * 1000000) 365000000)
  have HA := hid (rclamp_day a)
  have HB := hid (rclamp_day b)
  unfold shareV
  rw [show (365 : Int) * 1000000 = 365000000 from rfl]
  generalize divI (((clampD b : Int) - (clampD a : Int)) * 1000000) 365000000 = R at *
  generalize clampD a = A at *
  generalize clampD b = B at *
  go_enter Tryz.func98, Tryz.ntmps98
  go_wp2_with fail
  refine (HB.out _).mono ?_
  rintro e w1 ⟨rfl, rfl⟩
  go_wp2_with fail
  refine (HA.out _).mono ?_
  rintro e w1 ⟨rfl, rfl⟩
  go_wp2_with fail
  refine (HS.out _).mono ?_
  rintro e w1 ⟨rfl, rfl⟩
  go_wp2
  go_ret
  exact ⟨rfl, rfl⟩

set_option maxHeartbeats 800000 in
theorem ryears30_any (a b : Int) (w : World) :
    Calls Tryz.prog 99 #[.int .i64 a, .int .i64 b] w fun e w' => ∃ y m d y' m' d' : Nat, Dt y m d ∧ dn y m d = clampD a ∧ Dt y' m' d' ∧ dn y' m' d' = clampD b ∧ e = .returned (.int .i64 (shareV (sd y' m' d' - sd y m d) 360)) ∧ Below w.heap.size w w' := by
  have h1 := clampD_le a
  have h2 := clampD_le b
  have HA := hid (rclamp_day a)
  have HB := hid (rclamp_day b)
  generalize clampD a = A at *
  generalize clampD b = B at *
  go_enter Tryz.func99, Tryz.ntmps99
  go_wp2_with fail
  refine (HA.out _).mono ?_
  rintro e w1 ⟨rfl, rfl⟩
  go_wp2_with fail
  refine (rparts_yes A h1 _).mono ?_
  rintro e w2 ⟨y, m, d, hd, hdn, rfl, hB2⟩
  have HD := hid (show Dt y m d ∧ dn y m d = A from ⟨hd, hdn⟩)
  have q1 := hd.1
  have q2 := hd.2.1
  have q3 := hd.dle
  clear hd hdn
  go_wp2_with fail
  refine (HB.out _).mono ?_
  rintro e w3 ⟨rfl, rfl⟩
  go_wp2_with fail
  refine (rparts_yes B h2 _).mono ?_
  rintro e w4 ⟨y', m', d', hd', hdn', rfl, hB4⟩
  have hB4 := Below.next hB2 hB4
  have HD' := hid (show Dt y' m' d' ∧ dn y' m' d' = B from ⟨hd', hdn'⟩)
  have q4 := hd'.1
  have q5 := hd'.2.1
  have q6 := hd'.dle
  clear hd' hdn' hB2
  go_wp2_with fail
  have eS : 360 * (1900 + (y' : Int) - (1900 + (y : Int))) + 30 * ((m' : Int) + 1 - ((m : Int) + 1)) + min (d' : Int) 30 - min (d : Int) 30 = sd y' m' d' - sd y m d := by unfold sd; omega
  rw [eS]
  have HS := hid (rdiv_any ((sd y' m' d' - sd y m d) * 1000000) 360000000)
  refine (HS.out _).mono ?_
  rintro e w5 ⟨rfl, rfl⟩
  go_wp2
  go_ret
  exact ⟨y, m, d, y', m', d', HD.out.1, HD.out.2, HD'.out.1, HD'.out.2, rfl, hB4⟩
end Go.Proofs.YtddbiiejilcbbaaGreatDoor
