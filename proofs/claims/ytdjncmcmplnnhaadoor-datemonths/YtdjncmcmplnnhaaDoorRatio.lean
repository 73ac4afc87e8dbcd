/- The walks of num's Mul and Div, and what they stand on. -/
import Derived.Test.YtdjncmcmplnnhaaDoorRatioPlain
import Derived.Test.YtdjncmcmplnnhaaDoorBase
import Derived.Test.YtdjncmcmplnnhaaDoorDiv64W
namespace Go.Proofs.YtdjncmcmplnnhaaDoor
open Go.RowKit

set_option maxHeartbeats 400000 in
theorem size_any (a : Int) (w : World) (h0 : -1000000000000000 ≤ a) (h1 : a ≤ 1000000000000000) :
    Calls Tryd.prog 56 #[.int .i64 a] w fun e w' => e = .returned (.int .u64 (a.natAbs : Int)) ∧ w' = w := by
  by_cases hn : a < 0
  · have e : Hid ((a.natAbs : Int) = -a) := by show (a.natAbs : Int) = -a; omega
    go_enter Tryd.func56, Tryd.ntmps56
    go_wp2
    go_ret
    exact ⟨ret_int e.out.symm, rfl⟩
  · have e : Hid ((a.natAbs : Int) = a) := by show (a.natAbs : Int) = a; omega
    go_enter Tryd.func56, Tryd.ntmps56
    go_wp2
    go_ret
    exact ⟨ret_int e.out.symm, rfl⟩

set_option maxHeartbeats 400000 in
theorem roundsUp_any (n r c : Nat) (w : World) (hr : r < c) (hc : c < 18446744073709551616) (_hn : n < 18446744073709551616) :
    Calls Tryd.prog 59 #[.int .u64 n, .int .u64 r, .int .u64 c] w fun e w' => e = .returned (.bool (upB n r c)) ∧ w' = w := by
  obtain ⟨m, hm⟩ : ∃ m, m = c - r := ⟨_, rfl⟩
  have rm : (c : Int) - (r : Int) = (m : Int) := by omega
  have rw1 : IntKind.u64.wrap (m : Int) = (m : Int) := IntWalk.u64_in _ ⟨by omega, by omega⟩
  by_cases h1 : m < r
  · have d1 : decide ((m : Int) < (r : Int)) = true := by simp; omega
    have HE : Hid (upB n r c = true) := by show upB n r c = true; unfold upB; rw [← hm]; simp [h1]
    clear hm
    go_enter Tryd.func59, Tryd.ntmps59
    go_wp2
    go_ret
    exact ⟨by rw [HE.out]; rfl, rfl⟩
  · have d1 : decide ((m : Int) < (r : Int)) = false := by simp; omega
    by_cases h2 : r = m
    · have d2 : ((r : Int) == (m : Int)) = true := by simp; omega
      have HE : Hid (upB n r c = decide (n % 2 = 1)) := by show upB n r c = _; unfold upB; rw [← hm]; simp [h2]
      by_cases h3 : n % 2 = 1
      · have d3 : ((n : Int) % 2 == 1) = true := by simp; omega
        have HF : Hid (upB n r c = true) := by show upB n r c = true; rw [HE.out]; simp [h3]
        clear hm h2 h3
        go_enter Tryd.func59, Tryd.ntmps59
        go_wp2
        go_ret
        exact ⟨by rw [HF.out]; rfl, rfl⟩
      · have d3 : ((n : Int) % 2 == 1) = false := by simp; omega
        have HF : Hid (upB n r c = false) := by show upB n r c = false; rw [HE.out]; simp [h3]
        clear hm h2 h3
        go_enter Tryd.func59, Tryd.ntmps59
        go_wp2
        go_ret
        exact ⟨by rw [HF.out]; rfl, rfl⟩
    · have d2 : ((r : Int) == (m : Int)) = false := by simp; omega
      have HF : Hid (upB n r c = false) := by show upB n r c = false; unfold upB; rw [← hm]; simp [h1, h2]
      clear hm h2
      go_enter Tryd.func59, Tryd.ntmps59
      go_wp2
      go_ret
      exact ⟨by rw [HF.out]; rfl, rfl⟩

theorem big_quot {p c : Nat} (hc : 0 < c) (h : c ≤ p / 18446744073709551616) : 1000000000000000 ≤ p / c := by
  rw [Nat.le_div_iff_mul_le hc]
  have : c * 1000000000000000 ≤ p / 18446744073709551616 * 18446744073709551616 := Nat.mul_le_mul h (by omega)
  omega

set_option maxHeartbeats 800000 in
theorem ratioOf_any (a b c : Nat) (w : World) (ha : a ≤ 1000000000000000) (hb : b ≤ 1000000000000000) (hc0 : 0 < c) (hc : c ≤ 1000000000000000) :
    Calls Tryd.prog 55 #[.int .u64 a, .int .u64 b, .int .u64 c] w fun e w' => e = .returned (.int .u64 (ratN a b c : Int)) ∧ ∃ n, w' = w.drewN n := by
  have hp : a * b ≤ 1000000000000000 * 1000000000000000 := Nat.mul_le_mul ha hb
  have HM := Tryd.bits_Mul64 a b (by omega) (by omega)
  have HR : ratN a b c = if 1000000000000000 ≤ a * b / c then 1000000000000000 else if upB (a * b / c) (a * b % c) c then a * b / c + 1 else a * b / c := rfl
  have hm := Nat.mod_lt (a * b) (show c > 0 from hc0)
  generalize a * b = p at *
  obtain ⟨h, hh⟩ : ∃ h, h = p / 18446744073709551616 := ⟨_, rfl⟩
  obtain ⟨l, hl⟩ : ∃ l, l = p % 18446744073709551616 := ⟨_, rfl⟩
  rw [← hh, ← hl] at HM
  have HMh : Hid (∀ w : World, Calls Tryd.prog 57 #[.int .u64 a, .int .u64 b] w fun e w' => e = .returned (.tuple #[.int .u64 (h : Int), .int .u64 (l : Int)]) ∧ w' = w) := HM
  by_cases h1 : c ≤ h
  · have HE : Hid (ratN a b c = 1000000000000000) := by show ratN a b c = _; rw [HR, if_pos (big_quot hc0 (hh ▸ h1))]
    clear HM HR hh hl hm hp
    go_enter Tryd.func55, Tryd.ntmps55
    go_wp2_with (go_at_call 57; refine (HMh.out _).mono ?_; rintro e w ⟨rfl, rfl⟩)
    go_ret
    exact ⟨by rw [HE.out]; rfl, 0, rfl⟩
  · have HD := fun w => div64_any h l c w (by omega) (by omega) (by omega)
    rw [show h * 18446744073709551616 + l = p by omega] at HD
    have HRs : ratN a b c = if 1000000000000000 ≤ p / c then 1000000000000000 else if upB (p / c) (p % c) c then p / c + 1 else p / c := HR
    generalize p / c = q at *
    generalize p % c = r at *
    have HDh : Hid (∀ w : World, Calls Tryd.prog 58 #[.int .u64 h, .int .u64 l, .int .u64 c] w fun e w' => e = .returned (.tuple #[.int .u64 (q : Int), .int .u64 (r : Int)]) ∧ ∃ n, w' = w.drewN n) := HD
    by_cases h2 : 1000000000000000 ≤ q
    · have d2 : decide ((1000000000000000 : Int) ≤ (q : Int)) = true := by simp; omega
      have HE : Hid (ratN a b c = 1000000000000000) := by show ratN a b c = _; rw [HRs, if_pos h2]
      clear HM HR hh hl hm hp HD HRs h2 ha hb hc hc0
      go_enter Tryd.func55, Tryd.ntmps55
      go_wp2_with (first | (go_at_call 57; refine (HMh.out _).mono ?_; rintro e w ⟨rfl, rfl⟩) | (go_at_call 58; refine (HDh.out _).mono ?_; rintro e w2 ⟨rfl, n, rfl⟩))
      go_ret
      exact ⟨by rw [HE.out]; rfl, _, rfl⟩
    · have d2 : decide ((1000000000000000 : Int) ≤ (q : Int)) = false := by simp; omega
      have rq1 : IntKind.u64.wrap ((q : Int) + 1) = (q : Int) + 1 := IntWalk.u64_in _ ⟨by omega, by omega⟩
      have HU := fun w => roundsUp_any q r c w hm (by omega) (by omega)
      have HUh : Hid (∀ w : World, Calls Tryd.prog 59 #[.int .u64 q, .int .u64 r, .int .u64 c] w fun e w' => e = .returned (.bool (upB q r c)) ∧ w' = w) := HU
      cases h3 : upB q r c
      · have HE : Hid (ratN a b c = q) := by show ratN a b c = _; rw [HRs, if_neg h2, h3]; rfl
        rw [h3] at HUh
        clear HM HR hh hl hm hp HD HRs HU h3 h2 ha hb hc hc0
        go_enter Tryd.func55, Tryd.ntmps55
        go_wp2_with (first | (go_at_call 57; refine (HMh.out _).mono ?_; rintro e w ⟨rfl, rfl⟩) | (go_at_call 58; refine (HDh.out _).mono ?_; rintro e w2 ⟨rfl, n, rfl⟩) | (go_at_call 59; refine (HUh.out _).mono ?_; rintro e w3 ⟨rfl, rfl⟩))
        go_ret
        exact ⟨by rw [HE.out]; rfl, _, rfl⟩
      · have HE : Hid (ratN a b c = q + 1) := by show ratN a b c = _; rw [HRs, if_neg h2, h3]; rfl
        rw [h3] at HUh
        clear HM HR hh hl hm hp HD HRs HU h3 h2 ha hb hc hc0
        go_enter Tryd.func55, Tryd.ntmps55
        go_wp2_with (first | (go_at_call 57; refine (HMh.out _).mono ?_; rintro e w ⟨rfl, rfl⟩) | (go_at_call 58; refine (HDh.out _).mono ?_; rintro e w2 ⟨rfl, n, rfl⟩) | (go_at_call 59; refine (HUh.out _).mono ?_; rintro e w3 ⟨rfl, rfl⟩))
        go_ret
        exact ⟨by rw [HE.out]; rfl, _, rfl⟩
end Go.Proofs.YtdjncmcmplnnhaaDoor
