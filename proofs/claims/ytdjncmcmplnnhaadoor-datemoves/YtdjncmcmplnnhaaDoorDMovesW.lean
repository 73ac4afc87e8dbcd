/- The walk of DateMoves. -/
import Derived.Test.YtdjncmcmplnnhaaDoorDDaysW
import Derived.Test.YtdjncmcmplnnhaaDoorDRefB
namespace Go.Proofs.YtdjncmcmplnnhaaDoor
open Go Go.RowKit

set_option maxRecDepth 100000 in
set_option maxHeartbeats 800000 in
theorem dateMoves_walk (day other n : Int) (w : World) (ht : Tab w) (_a0 : -9223372036854775808 ≤ day) (_a1 : day ≤ 9223372036854775807) (_b0 : -9223372036854775808 ≤ other) (_b1 : other ≤ 9223372036854775807) (_n0 : -9223372036854775808 ≤ n) (_n1 : n ≤ 9223372036854775807) :
    Calls Tryd.prog 5 #[.int .i64 day, .int .i64 other, .int .i64 n] w fun e w' => e = .returned (.bool true) ∧ Below w.heap.size w w' := by
  have HT := hid ht
  clear ht
  go_enter Tryd.func5, Tryd.ntmps5
  go_wp2_with fail
  refine (shown_any w HT.out).mono ?_
  rintro e w1 ⟨rfl, hB1⟩
  have HP := hid (plus_any day n)
  have HPr := hid (rplus_any day n)
  generalize plusV day n = P at *
  go_wp2_with fail
  refine (HP.out _).mono ?_
  rintro e w2 ⟨rfl, rfl⟩
  go_wp2_with fail
  refine (HPr.out _).mono ?_
  rintro e w2 ⟨rfl, rfl⟩
  go_wp2_with fail
  refine (months_any day n _ (HT.out.below hB1)).mono ?_
  rintro e w3 ⟨y, m, d, hd, hdn, rfl, hB3⟩
  have hB3 := Below.next hB1 hB3
  have HD := hid (show Dt y m d ∧ dn y m d = clampD day from ⟨hd, hdn⟩)
  clear hd hdn
  go_wp2_with fail
  refine (rmonths_any day n _).mono ?_
  rintro e w4 ⟨y', m', d', hd, hdn, rfl, hB4⟩
  have hB4 := Below.next hB3 hB4
  obtain ⟨rfl, rfl, rfl⟩ := dn_inj HD.out.1 hd (by rw [HD.out.2, hdn])
  clear hd hdn HD
  have HY := hid (years_any day other)
  have HYr := hid (ryears_any day other)
  generalize shareV ((clampD other : Int) - (clampD day : Int)) 365 = S at *
  generalize monV y m d n = M at *
  go_wp2_with fail
  refine (HY.out _).mono ?_
  rintro e w5 ⟨rfl, j, rfl⟩
  have hB5 := Below.next hB4 (drewN_below _ j)
  go_wp2_with fail
  refine (HYr.out _).mono ?_
  rintro e w5 ⟨rfl, rfl⟩
  go_wp2_with fail
  refine (years30_any day other _ (HT.out.below hB5)).mono ?_
  rintro e w6 ⟨y, m, d, y', m', d', q1, q2, q3, q4, rfl, hB6⟩
  have hB6 := Below.next hB5 hB6
  have HQ := hid (show Dt y m d ∧ dn y m d = clampD day ∧ Dt y' m' d' ∧ dn y' m' d' = clampD other from ⟨q1, q2, q3, q4⟩)
  clear q1 q2 q3 q4
  go_wp2_with fail
  refine (ryears30_any day other _).mono ?_
  rintro e w7 ⟨a, b, c, a', b', c', q1, q2, q3, q4, rfl, hB7⟩
  have hB7 := Below.next hB6 hB7
  obtain ⟨rfl, rfl, rfl⟩ := dn_inj HQ.out.1 q1 (by rw [HQ.out.2.1, q2])
  obtain ⟨rfl, rfl, rfl⟩ := dn_inj HQ.out.2.2.1 q3 (by rw [HQ.out.2.2.2, q4])
  clear q1 q2 q3 q4 HQ
  generalize shareV (sd y' m' d' - sd y m d) 360 = R at *
  go_wp2
  go_ret
  exact ⟨rfl, hB7⟩
end Go.Proofs.YtdjncmcmplnnhaaDoor
