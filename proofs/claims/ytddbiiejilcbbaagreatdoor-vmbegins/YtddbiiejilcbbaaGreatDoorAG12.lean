/- texts put together: DYears -/
import Derived.Test.YtddbiiejilcbbaaGreatDoorAG10
import Derived.Test.YtddbiiejilcbbaaGreatDoorAG1
namespace Go.Proofs.YtddbiiejilcbbaaGreatDoor
open Go Go.RowKit

def shareV (days year : Int) : Int := divI (days * 1000000) (year * 1000000)
set_option maxHeartbeats 800000 in
theorem share_any (a b : Int) (ha : -1000000 ≤ a ∧ a ≤ 1000000) (hb : -1000000 ≤ b ∧ b ≤ 1000000) (w : World) :
    Calls Tryz.prog 197 #[.int .i64 a, .int .i64 b] w fun e w' => e = .returned (.int .i64 (shareV a b)) ∧ ∃ n, w' = w.drewN n := by
  have HD := hid (div_any (a * 1000000) (b * 1000000))
  unfold shareV
  go_enter Tryz.func197, Tryz.ntmps197
  go_wp2_with fail
  refine (HD.out _).mono ?_
  rintro e w1 ⟨rfl, n, rfl⟩
  go_wp2
  go_ret
  exact ⟨rfl, _, rfl⟩

/-- The days of a date, as if all months had 30. -/
def sd (y m d : Nat) : Int := (1900 + (y : Int)) * 360 + (m : Int) * 30 + ((min d 30 : Nat) : Int)
theorem sd_bounds {y m d : Nat} (h : Dt y m d) : 0 ≤ sd y m d ∧ sd y m d ≤ 800000 := by
  have := h.1; have := h.2.1; unfold sd; omega
set_option maxHeartbeats 800000 in
theorem shortDays_any (y m d : Nat) (h : Dt y m d) (w : World) :
    Calls Tryz.prog 198 #[.agg #[.int .i64 (1900 + (y : Int)), .int .i64 m, .int .i64 d]] w fun e w' => e = .returned (.int .i64 (sd y m d)) ∧ Below w.heap.size w w' := by
  have hd31 := h.dle
  have hy := h.1
  have hm := h.2.1
  have hB := (Below.refl w.heap.size w).alloc (Nat.le_refl _) (.cells #[.int .i64 (1900 + (y : Int)), .int .i64 m, .int .i64 d] 217)
  obtain ⟨c0, c1, c2⟩ := laid3 w (.int .i64 (1900 + (y : Int))) (.int .i64 m) (.int .i64 d)
  have HF : Hid (Below w.heap.size w (w.alloc (.cells #[.int .i64 (1900 + (y : Int)), .int .i64 m, .int .i64 d] 217))) := hB
  clear hB h
  have e30 : (if (30 : Int) < (d : Int) then (30 : Int) else (d : Int)) = ((min d 30 : Nat) : Int) := by split <;> omega
  have v1 : IntKind.i64.wrap ((1900 + (y : Int)) * 360) = (1900 + (y : Int)) * 360 := IntWalk.i64_in _ ⟨by omega, by omega⟩
  have v2 : IntKind.i64.wrap ((m : Int) * 30) = (m : Int) * 30 := IntWalk.i64_in _ ⟨by omega, by omega⟩
  have v3 : IntKind.i64.wrap ((1900 + (y : Int)) * 360 + (m : Int) * 30) = (1900 + (y : Int)) * 360 + (m : Int) * 30 := IntWalk.i64_in _ ⟨by omega, by omega⟩
  go_enter Tryz.func198, Tryz.ntmps198
  go_wp2
  go_ret
  refine ⟨ret_intD ?_, HF.out⟩
  unfold sd
  omega

set_option maxHeartbeats 800000 in
theorem years_any (a b : Int) (w : World) :
    Calls Tryz.prog 155 #[.int .i64 a, .int .i64 b] w fun e w' => e = .returned (.int .i64 (shareV ((clampD b : Int) - (clampD a : Int)) 365)) ∧ ∃ n, w' = w.drewN n := by
  have h1 := clampD_le a
  have h2 := clampD_le b
  have HS := hid (share_any ((clampD b : Int) - (clampD a : Int)) 365 (by omega) (by omega))
  have HA := hid (clamp_day a)
  have HB := hid (clamp_day b)
  generalize shareV ((clampD b : Int) - (clampD a : Int)) 365 = R at *
  generalize clampD a = A at *
  generalize clampD b = B at *
  go_enter Tryz.func155, Tryz.ntmps155
  go_wp2_with fail
  refine (HB.out _).mono ?_
  rintro e w1 ⟨rfl, rfl⟩
  go_wp2_with fail
  refine (HA.out _).mono ?_
  rintro e w1 ⟨rfl, rfl⟩
  go_wp2_with fail
  refine (HS.out _).mono ?_
  rintro e w1 ⟨rfl, n, rfl⟩
  go_wp2
  go_ret
  exact ⟨rfl, _, rfl⟩

set_option maxHeartbeats 800000 in
theorem years30_any (a b : Int) (w : World) (ht : Tab w) :
    Calls Tryz.prog 156 #[.int .i64 a, .int .i64 b] w fun e w' => ∃ y m d y' m' d' : Nat, Dt y m d ∧ dn y m d = clampD a ∧ Dt y' m' d' ∧ dn y' m' d' = clampD b ∧ e = .returned (.int .i64 (shareV (sd y' m' d' - sd y m d) 360)) ∧ Below w.heap.size w w' := by
  have h1 := clampD_le a
  have h2 := clampD_le b
  have HT := hid ht
  have HA := hid (clamp_day a)
  have HB := hid (clamp_day b)
  clear ht
  generalize clampD a = A at *
  generalize clampD b = B at *
  go_enter Tryz.func156, Tryz.ntmps156
  go_wp2_with fail
  refine (HB.out _).mono ?_
  rintro e w1 ⟨rfl, rfl⟩
  go_wp2_with fail
  refine (dateOf_any B h2 _ HT.out).mono ?_
  rintro e w2 ⟨y', m', d', hd', hdn', rfl, hB2⟩
  have HD' := hid (show Dt y' m' d' ∧ dn y' m' d' = B from ⟨hd', hdn'⟩)
  clear hd' hdn'
  go_wp2_with fail
  refine (shortDays_any y' m' d' HD'.out.1 _).mono ?_
  rintro e w3 ⟨rfl, hB3⟩
  have hB3 := Below.next hB2 hB3
  clear hB2
  go_wp2_with fail
  refine (HA.out _).mono ?_
  rintro e w3 ⟨rfl, rfl⟩
  go_wp2_with fail
  refine (dateOf_any A h1 _ (HT.out.below hB3)).mono ?_
  rintro e w4 ⟨y, m, d, hd, hdn, rfl, hB4⟩
  have hB4 := Below.next hB3 hB4
  have HD := hid (show Dt y m d ∧ dn y m d = A from ⟨hd, hdn⟩)
  clear hd hdn hB3
  go_wp2_with fail
  refine (shortDays_any y m d HD.out.1 _).mono ?_
  rintro e w5 ⟨rfl, hB5⟩
  have hB5 := Below.next hB4 hB5
  clear hB4
  have b1 := sd_bounds HD.out.1
  have b2 := sd_bounds HD'.out.1
  have HS := hid (share_any (sd y' m' d' - sd y m d) 360 (by omega) (by omega))
  go_wp2_with fail
  refine (HS.out _).mono ?_
  rintro e w1 ⟨rfl, n, rfl⟩
  go_wp2
  go_ret
  exact ⟨y, m, d, y', m', d', HD.out.1, HD.out.2, HD'.out.1, HD'.out.2, rfl, Below.next hB5 (drewN_below _ _)⟩
end Go.Proofs.YtddbiiejilcbbaaGreatDoor
