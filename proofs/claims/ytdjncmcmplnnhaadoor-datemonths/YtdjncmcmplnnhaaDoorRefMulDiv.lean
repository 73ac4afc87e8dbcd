/- The walks of the reference's Mul and Div. -/
import Derived.Test.YtdjncmcmplnnhaaDoorRefRatio
namespace Go.Proofs.YtdjncmcmplnnhaaDoor
open Go.RowKit

theorem wrapI (a b : Nat) (h : a * b ≤ 9223372036854775807) : wrap64 ((a : Int) * (b : Int)) = ((a * b : Nat) : Int) := by
  rw [← Int.natCast_mul]; exact IntWalk.wrap64_in _ ⟨by omega, by omega⟩


theorem pow_step (x y k : Nat) (hy : 0 < y) : x * 10 ^ (k + 1) / y = 10 * (x * 10 ^ k / y) + 10 * (x * 10 ^ k % y) / y ∧ x * 10 ^ (k + 1) % y = 10 * (x * 10 ^ k % y) % y ∧ 10 * (x * 10 ^ k % y) / y ≤ 9 := by
  have e : x * 10 ^ (k + 1) = 10 * (x * 10 ^ k) := by rw [Nat.pow_succ, ← Nat.mul_assoc, Nat.mul_comm]
  rw [e]
  have d := Nat.div_add_mod (x * 10 ^ k) y
  have m := Nat.mod_lt (x * 10 ^ k) hy
  generalize x * 10 ^ k = p at *
  have e2 : 10 * p = y * (10 * (p / y)) + 10 * (p % y) := by
    rw [Nat.mul_left_comm, ← Nat.mul_add, d]
  refine ⟨?_, ?_, ?_⟩
  · rw [e2, Nat.mul_add_div hy]
  · rw [e2, Nat.mul_add_mod]
  · have : 10 * (p % y) / y < 10 := by rw [Nat.div_lt_iff_lt_mul hy]; omega
    omega

theorem pow_bound (x y k : Nat) (hy : 0 < y) (h : x / y ≤ 1000000000) (hk : k ≤ 6) : x * 10 ^ k / y ≤ 1000001000000 * 1000 := by
  have h1 : x < (1000000001) * y := Nat.lt_mul_of_div_lt (show x / y < 1000000001 by omega) hy
  have h2 : 10 ^ k ≤ 10 ^ 6 := Nat.pow_le_pow_right (by omega) hk
  have h3 : x * 10 ^ k ≤ (1000000001 * y) * 10 ^ 6 := Nat.mul_le_mul (by omega) h2
  have h4 : x * 10 ^ k / y ≤ ((1000000001 * y) * 10 ^ 6) / y := Nat.div_le_div_right h3
  rw [Nat.mul_right_comm, Nat.mul_div_cancel _ hy] at h4
  omega

theorem big_div {x y : Nat} (hy : 0 < y) (h : 1000000000 < x / y) : 1000000000000000 ≤ x * 1000000 / y := by
  rw [Nat.le_div_iff_mul_le hy]
  have h1 : (1000000001) * y ≤ x := (Nat.le_div_iff_mul_le hy).1 (by omega)
  omega

set_option maxHeartbeats 400000 in
theorem rdiv_any (a b : Int) (w : World) :
    Calls Tryd.prog 42 #[.int .i64 a, .int .i64 b] w fun e w' => e = .returned (.int .i64 (divI a b)) ∧ w' = w := by
  by_cases hb0 : b = 0
  · subst hb0
    have z := clampI_zero
    have z2 : Hid (divI a 0 = 0) := divI_zero a
    go_enter Tryd.func42, Tryd.ntmps42
    go_wp2_with (first | (go_at_call 50; refine (rclamp_any _ _).mono ?_; rintro e w ⟨rfl, rfl⟩))
    go_ret
    exact ⟨ret_int z2.out.symm, rfl⟩
  have hbne := clampI_ne hb0
  have d0 : (clampI b == 0) = false := by simpa using hbne
  have HA : Hid (∀ w : World, Calls Tryd.prog 51 #[.int .i64 (clampI a)] w fun e w' => e = .returned (.int .i64 ((clampI a).natAbs : Int)) ∧ w' = w) := fun w => rsize_any _ w (clampI_ge a) (clampI_le a)
  have HB : Hid (∀ w : World, Calls Tryd.prog 51 #[.int .i64 (clampI b)] w fun e w' => e = .returned (.int .i64 ((clampI b).natAbs : Int)) ∧ w' = w) := fun w => rsize_any _ w (clampI_ge b) (clampI_le b)
  have hx : (clampI a).natAbs ≤ 1000000000000000 := by have := clampI_ge a; have := clampI_le a; omega
  have hy : (clampI b).natAbs ≤ 1000000000000000 := by have := clampI_ge b; have := clampI_le b; omega
  have hy0 : 0 < (clampI b).natAbs := by omega
  have HM := divI_ref (a := a) hb0
  have HM1 : 1000000000000000 ≤ (clampI a).natAbs * 1000000 / (clampI b).natAbs → clampI (signR (clampI a) (clampI b) 1000000000000000) = divI a b := fun h => by rw [HM]; exact clamp_max _ _ _ _ _ h
  have HM2 : clampI (signR (clampI a) (clampI b) (rndN ((clampI a).natAbs * 1000000 / (clampI b).natAbs) ((clampI a).natAbs * 1000000 % (clampI b).natAbs) (clampI b).natAbs)) = divI a b := by
    rw [HM]; exact clamp_rnd _ _ _ _ _
  clear HM hb0
  generalize (clampI a).natAbs = x at *
  generalize (clampI b).natAbs = y at *
  have e1 : ((y : Int) == 0) = false := by simp; omega
  have y1 : (1 : Int) ≤ (y : Int) := by omega
  have y2 : (y : Int) ≤ 1000000000000000 := by omega
  have x2 : (x : Int) ≤ 1000000000000000 := by omega
  have m0 := Nat.mod_lt x hy0
  have s0 := Nat.div_le_self x y
  obtain ⟨q, hq⟩ : ∃ q, q = x / y := ⟨_, rfl⟩
  obtain ⟨r, hr⟩ : ∃ r, r = x % y := ⟨_, rfl⟩
  have rq : (x : Int) / (y : Int) = (q : Int) := by rw [hq]; exact (Int.natCast_ediv x y).symm
  have rr : (x : Int) % (y : Int) = (r : Int) := by rw [hr]; exact (Int.natCast_emod x y).symm
  rw [← hq] at s0
  have bq : (q : Int) ≤ 1000000000000000 := by omega
  by_cases hH : 1000000000 < q
  · have HE : Hid (clampI (signR (clampI a) (clampI b) 1000000000000000) = divI a b) := HM1 (big_div hy0 (hq ▸ hH))
    have d1 : decide ((1000000000 : Int) < (q : Int)) = true := by simp; omega
    clear HM1 HM2 hH hx hy hq hr m0 s0 hbne
    go_enter Tryd.func42, Tryd.ntmps42
    go_wp2_with (first | (go_at_call 50; refine (rclamp_any _ _).mono ?_; rintro e w ⟨rfl, rfl⟩))
    refine (HA.out _).mono ?_
    rintro e w ⟨rfl, rfl⟩
    go_wp2_with fail
    refine (HB.out _).mono ?_
    rintro e w ⟨rfl, rfl⟩
    go_wp2_with fail
    refine (rsigned_any 1000000000000000 _ _ _ (by omega)).mono ?_
    rintro e w ⟨rfl, rfl⟩
    rw [HE.out]
    go_wp2
    go_ret
    exact ⟨rfl, rfl⟩
  · have d1 : decide ((1000000000 : Int) < (q : Int)) = false := by simp; omega
    have HP : Hid (∀ k, k ≤ 6 → x * 10 ^ k / y ≤ 1000001000000 * 1000) := fun k hk => pow_bound x y k hy0 (by omega) hk
    have HQ : Hid (q = x * 10 ^ 0 / y ∧ r = x * 10 ^ 0 % y) := ⟨by rw [hq]; simp, by rw [hr]; simp⟩
    have HZ : Hid (clampI (signR (clampI a) (clampI b) (rndN (x * 10 ^ 6 / y) (x * 10 ^ 6 % y) y)) = divI a b) := HM2
    clear HM1 HM2 hH hx hq hr m0 s0 hbne
    go_enter Tryd.func42, Tryd.ntmps42
    go_wp2_with (first | (go_at_call 50; refine (rclamp_any _ _).mono ?_; rintro e w ⟨rfl, rfl⟩))
    refine (HA.out _).mono ?_
    rintro e w ⟨rfl, rfl⟩
    go_wp2_with fail
    refine (HB.out _).mono ?_
    rintro e w ⟨rfl, rfl⟩
    go_wp2_with fail
    go_loop [7, 8, 9] (fun a b i => ∃ k : Nat, k ≤ 6 ∧ i = .int .i64 k ∧ a = .int .i64 ((x * 10 ^ k / y : Nat) : Int) ∧ b = .int .i64 ((x * 10 ^ k % y : Nat) : Int)) (fun _ _ i => 6 - (intOf i).toNat)
    case atStart =>
      refine ⟨0, by omega, rfl, ?_, ?_⟩
      · rw [← HQ.out.1]
      · rw [← HQ.out.2, ← rr]
    case round =>
      obtain ⟨k, hk, rfl, rfl, rfl⟩ := hrel
      clear rq rr bq d1
      have p1 := HP.out k hk
      have p3 := Nat.mod_lt (x * 10 ^ k) hy0
      obtain ⟨s1, s2, s3⟩ := pow_step x y k hy0
      by_cases hlt : k < 6
      · have HS : Hid (x * 10 ^ (k + 1) / y = 10 * (x * 10 ^ k / y) + 10 * (x * 10 ^ k % y) / y ∧ x * 10 ^ (k + 1) % y = 10 * (x * 10 ^ k % y) % y) := ⟨s1, s2⟩
        clear s1 s2
        generalize x * 10 ^ k / y = Q at *
        generalize x * 10 ^ k % y = R at *
        obtain ⟨T, hT⟩ : ∃ T, T = 10 * R / y := ⟨_, rfl⟩
        obtain ⟨R', hR'⟩ : ∃ R', R' = 10 * R % y := ⟨_, rfl⟩
        rw [← hT] at s3
        have rT : 10 * (R : Int) / (y : Int) = (T : Int) := by rw [hT]; simp
        have rR : 10 * (R : Int) % (y : Int) = (R' : Int) := by rw [hR']; simp
        have HT : Hid (T = 10 * R / y) := hT
        have HR : Hid (R' = 10 * R % y) := hR'
        have bQ : (Q : Int) ≤ 1000001000000000 := by omega
        have bR : (R : Int) ≤ 1000000000000000 := by omega
        have bT : (T : Int) ≤ 9 := by omega
        clear hT hR' p1 p3 s3 hy
        go_wp2
        go_round
        case rel =>
          refine ⟨k + 1, by omega, by go_num, ?_, ?_⟩
          · rw [HS.out.1, ← HT.out]; go_num
          · rw [HS.out.2, ← HR.out, ← rR]
        case measure => simp [intOf]; omega
      · obtain rfl : k = 6 := by omega
        clear s1 s2 s3
        have HS := fun w => rrounded_any (x * 10 ^ 6 / y) (x * 10 ^ 6 % y) y w p3 hy (by omega)
        have bn : rndN (x * 10 ^ 6 / y) (x * 10 ^ 6 % y) y ≤ 10000000000000000 := by have := rndN_le (x * 10 ^ 6 / y) (x * 10 ^ 6 % y) y; omega
        have HT := fun w => rsigned_any (rndN (x * 10 ^ 6 / y) (x * 10 ^ 6 % y) y) (clampI a) (clampI b) w bn
        rw [HZ.out] at HT
        generalize rndN (x * 10 ^ 6 / y) (x * 10 ^ 6 % y) y = Z at *
        generalize x * 10 ^ 6 / y = Q at *
        generalize x * 10 ^ 6 % y = R at *
        have HSh : Hid (∀ w : World, Calls Tryd.prog 53 #[.int .i64 Q, .int .i64 R, .int .i64 y] w fun e w' => e = .returned (.int .i64 (Z : Int)) ∧ w' = w) := HS
        have HTh : Hid (∀ w : World, Calls Tryd.prog 52 #[.int .i64 (Z : Int), .int .i64 (clampI a), .int .i64 (clampI b)] w fun e w' => e = .returned (.int .i64 (divI a b)) ∧ w' = w) := HT
        clear HS HT bn p1 p3 hy
        go_wp2_with fail
        refine (HSh.out _).mono ?_
        rintro e w ⟨rfl, rfl⟩
        go_wp2_with fail
        refine (HTh.out _).mono ?_
        rintro e w ⟨rfl, rfl⟩
        go_wp2
        go_ret
        exact ⟨rfl, rfl⟩
end Go.Proofs.YtdjncmcmplnnhaaDoor
