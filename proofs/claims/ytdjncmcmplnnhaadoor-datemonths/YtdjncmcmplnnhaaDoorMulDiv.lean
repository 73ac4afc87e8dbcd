/- The walks of num's ratio, Mul and Div. -/
import Derived.Test.YtdjncmcmplnnhaaDoorRatio
namespace Go.Proofs.YtdjncmcmplnnhaaDoor
open Go.RowKit

set_option maxHeartbeats 1600000 in
theorem ratio_any (a b c : Int) (w : World) (a0 : -1000000000000000 ≤ a) (a1 : a ≤ 1000000000000000) (b0 : -1000000000000000 ≤ b) (b1 : b ≤ 1000000000000000)
    (c0 : -1000000000000000 ≤ c) (c1 : c ≤ 1000000000000000) (hc : c ≠ 0) :
    Calls Tryd.prog 54 #[.int .i64 a, .int .i64 b, .int .i64 c] w fun e w' => e = .returned (.int .i64 (ratI a b c)) ∧ ∃ n, w' = w.drewN n := by
  obtain ⟨N, hN⟩ : ∃ N, N = ratN a.natAbs b.natAbs c.natAbs := ⟨_, rfl⟩
  have hle : N ≤ 1000000000000000 := hN ▸ ratN_le _ _ _
  have HA : Hid (∀ w : World, Calls Tryd.prog 56 #[.int .i64 a] w fun e w' => e = .returned (.int .u64 (a.natAbs : Int)) ∧ w' = w) := fun w => size_any a w a0 a1
  have HB : Hid (∀ w : World, Calls Tryd.prog 56 #[.int .i64 b] w fun e w' => e = .returned (.int .u64 (b.natAbs : Int)) ∧ w' = w) := fun w => size_any b w b0 b1
  have HC : Hid (∀ w : World, Calls Tryd.prog 56 #[.int .i64 c] w fun e w' => e = .returned (.int .u64 (c.natAbs : Int)) ∧ w' = w) := fun w => size_any c w c0 c1
  have HR : Hid (∀ w : World, Calls Tryd.prog 55 #[.int .u64 (a.natAbs : Int), .int .u64 (b.natAbs : Int), .int .u64 (c.natAbs : Int)] w fun e w' => e = .returned (.int .u64 (N : Int)) ∧ ∃ n, w' = w.drewN n) := fun w => by
    rw [hN]; exact ratioOf_any _ _ _ w (by omega) (by omega) (by omega) (by omega)
  have rn : IntKind.i64.wrap (N : Int) = (N : Int) := IntWalk.i64_in _ ⟨by omega, by omega⟩
  have rm : IntKind.i64.wrap (-(N : Int)) = -(N : Int) := IntWalk.i64_in _ ⟨by omega, by omega⟩
  have HI : Hid (ratI a b c = if sgnB a b c then -(N : Int) else (N : Int)) := by show ratI a b c = _; rw [hN]; rfl
  clear hN hle a0 a1 b0 b1 c0 c1 hc
  obtain ⟨x, hx⟩ : ∃ x : Nat, x = a.natAbs := ⟨_, rfl⟩
  obtain ⟨y, hy⟩ : ∃ y : Nat, y = b.natAbs := ⟨_, rfl⟩
  obtain ⟨z, hz⟩ : ∃ z : Nat, z = c.natAbs := ⟨_, rfl⟩
  rw [← hx, ← hy, ← hz] at HR
  rw [← hx] at HA
  rw [← hy] at HB
  rw [← hz] at HC
  clear hx hy hz
  cases da : decide (a < 0) <;> cases db : decide (b < 0) <;> cases dc : decide (c < 0)
  all_goals cases hs : sgnB a b c
  all_goals rw [hs] at HI
  all_goals simp only [sgnB, da, db, dc] at hs
  all_goals first | exact absurd hs (by decide) | clear hs
  all_goals
    go_enter Tryd.func54, Tryd.ntmps54
    go_wp2_with fail
    refine (HA.out _).mono ?_
    rintro e w ⟨rfl, rfl⟩
    go_wp2_with fail
    refine (HB.out _).mono ?_
    rintro e w ⟨rfl, rfl⟩
    go_wp2_with fail
    refine (HC.out _).mono ?_
    rintro e w ⟨rfl, rfl⟩
    go_wp2_with fail
    refine (HR.out _).mono ?_
    rintro e w2 ⟨rfl, n, rfl⟩
    go_wp2
    go_ret
    exact ⟨by rw [HI.out]; rfl, n, rfl⟩


set_option maxHeartbeats 400000 in
theorem div_any (a b : Int) (w : World) :
    Calls Tryd.prog 49 #[.int .i64 a, .int .i64 b] w fun e w' => e = .returned (.int .i64 (divI a b)) ∧ ∃ n, w' = w.drewN n := by
  by_cases h : b = 0
  · subst h
    go_enter Tryd.func49, Tryd.ntmps49
    go_wp2
    go_ret
    exact ⟨rfl, 0, rfl⟩
  · have d0 : (b == 0) = false := by simpa using h
    have HE : Hid (divI a b = ratI (clampI a) 1000000 (clampI b)) := by show divI a b = _; unfold divI; rw [if_neg h]
    have HR : Hid (∀ w : World, Calls Tryd.prog 54 #[.int .i64 (clampI a), .int .i64 1000000, .int .i64 (clampI b)] w fun e w' => e = .returned (.int .i64 (divI a b)) ∧ ∃ n, w' = w.drewN n) :=
      fun w => by rw [HE.out]; exact ratio_any _ _ _ w (clampI_ge a) (clampI_le a) (by omega) (by omega) (clampI_ge b) (clampI_le b) (clampI_ne h)
    clear h
    go_enter Tryd.func49, Tryd.ntmps49
    go_wp2_with (first | (go_at_call 44; refine (clamp_any _ _).mono ?_; rintro e w ⟨rfl, rfl⟩))
    refine (HR.out _).mono ?_
    rintro e w2 ⟨rfl, n, rfl⟩
    go_wp2
    go_ret
    exact ⟨rfl, n, rfl⟩
end Go.Proofs.YtdjncmcmplnnhaaDoor
