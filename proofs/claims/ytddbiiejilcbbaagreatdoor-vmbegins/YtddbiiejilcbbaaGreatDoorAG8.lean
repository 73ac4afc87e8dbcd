/- texts put together: DLoops -/
import Derived.Test.YtddbiiejilcbbaaGreatDoorAG7
import Derived.LoopTactic
import Derived.Below
namespace Go.Proofs.YtddbiiejilcbbaaGreatDoor
open Go Go.RowKit

set_option maxHeartbeats 400000 in
theorem daysOfY_any (n : Nat) (hn : n ≤ 200) (w : World) :
    Calls Tryz.prog 231 #[.int .i64 1900, .int .i64 n, .func (.func 229) #[] #[]] w fun e w' => e = .returned (.int .i64 (yd n : Nat)) ∧ w' = w := by
  have H := hid (fun (k : Nat) (hk : k ≤ 5000) w => yearLater_any 1900 k (by omega) hk w)
  go_enter Tryz.func231, Tryz.ntmps231
  go_wp2_with fail
  go_loop [7, 10] (fun s i => ∃ k : Nat, k ≤ n ∧ i = .int .i64 k ∧ s = .int .i64 (yd k : Nat)) (fun _ i => n - (intOf i).toNat)
  case atStart => exact ⟨0, by omega, rfl, rfl⟩
  case round =>
    obtain ⟨k, hk, rfl, rfl⟩ := hrel
    have hy := yd_le (n := k) (by omega)
    have hyl := yl_le (1900 + k)
    by_cases hlt : k < n
    · go_wp2_with fail
      refine (H.out k (by omega) _).mono ?_
      rintro e w ⟨rfl, rfl⟩
      go_wp2
      refine ⟨⟨k + 1, by omega, rfl, ?_⟩, by simp [intOf]; omega⟩
      rw [yd_step]; simp
    · have : k = n := by omega
      subst this
      go_wp2
      go_ret
      exact ⟨rfl, rfl⟩

set_option maxHeartbeats 400000 in
theorem daysOfM_any (y n : Nat) (hy : y ≤ 5000) (hn : n ≤ 12) (w : World) (ht : Tab w) :
    Calls Tryz.prog 231 #[.int .i64 y, .int .i64 n, .func (.func 195) #[] #[]] w fun e w' => e = .returned (.int .i64 (md y n : Nat)) ∧ ∃ j, w' = w.drewN j := by
  have H := hid (fun (k : Nat) (hk : k < 12) (j : Nat) => month_any y k (by omega) hk (w.drewN j) (ht.drewN j))
  clear ht
  go_enter Tryz.func231, Tryz.ntmps231
  go_wp2_with fail
  go_loopw [7, 10] (fun s i wr => ∃ k j : Nat, k ≤ n ∧ i = .int .i64 k ∧ s = .int .i64 (md y k : Nat) ∧ wr = w.drewN j) (fun _ i _ => n - (intOf i).toNat)
  case atStart => exact ⟨0, 0, by omega, rfl, rfl, rfl⟩
  case round =>
    obtain ⟨k, j, hk, rfl, rfl, rfl⟩ := hrel
    have hy := md_le y (m := k) (by omega)
    have hyl := yl_le y
    by_cases hlt : k < n
    · have hm := ml_le y (m := k) (by omega)
      go_wp2_with fail
      refine (H.out k (by omega) j).mono ?_
      rintro e w1 ⟨rfl, i, rfl⟩
      go_wp2
      refine ⟨⟨k + 1, j + i, by omega, rfl, ?_, rfl⟩, by simp [intOf]; omega⟩
      rw [md_step]; simp
    · have : k = n := by omega
      subst this
      go_wp2
      go_ret
      exact ⟨rfl, _, rfl⟩

set_option maxHeartbeats 400000 in
theorem piecesInY_any (n : Nat) (hn : n ≤ 73048) (w : World) :
    Calls Tryz.prog 228 #[.int .i64 1900, .int .i64 n, .func (.func 229) #[] #[]] w fun e w' => ∃ y l : Nat, e = .returned (.tuple #[.int .i64 y, .int .i64 l]) ∧ y < 200 ∧ l < yl (1900 + y) ∧ yd y + l = n ∧ w' = w := by
  have H := hid (fun (k : Nat) (hk : k ≤ 5000) w => yearLater_any 1900 k (by omega) hk w)
  go_enter Tryz.func228, Tryz.ntmps228
  go_wp2_with fail
  go_loop [1, 8] (fun s i => ∃ k l : Nat, k ≤ 200 ∧ i = .int .i64 k ∧ s = .int .i64 l ∧ yd k + l = n) (fun s _ => (intOf s).toNat)
  case atStart => exact ⟨0, n, by omega, rfl, rfl, by simp [yd]⟩
  case round =>
    obtain ⟨k, l, hk, rfl, rfl, hkl⟩ := hrel
    have hyl := yl_le (1900 + k)
    have hyg := yl_ge (1900 + k)
    have hk2 : k < 200 := by
      rcases Nat.lt_or_ge k 200 with h | h
      · exact h
      · have : k = 200 := by omega
        subst this
        rw [yd_all] at hkl; omega
    have hst := yd_step k
    by_cases hlt : yl (1900 + k) ≤ l
    · go_wp2_with fail
      refine (H.out k (by omega) _).mono ?_
      rintro e w ⟨rfl, rfl⟩
      go_wp2_with fail
      refine (H.out k (by omega) _).mono ?_
      rintro e w ⟨rfl, rfl⟩
      go_wp2
      refine ⟨⟨k + 1, l - yl (1900 + k), by omega, rfl, ?_, by omega⟩, by simp [intOf]; omega⟩
      congr 1; omega
    · go_wp2_with fail
      refine (H.out k (by omega) _).mono ?_
      rintro e w ⟨rfl, rfl⟩
      go_wp2
      go_ret2
      exact ⟨k, l, rfl, hk2, by omega, hkl, rfl⟩

set_option maxHeartbeats 400000 in
theorem piecesInM_any (y n : Nat) (hy : y ≤ 5000) (hn : n < yl y) (w : World) (ht : Tab w) :
    Calls Tryz.prog 228 #[.int .i64 y, .int .i64 n, .func (.func 195) #[] #[]] w fun e w' => ∃ m l : Nat, e = .returned (.tuple #[.int .i64 m, .int .i64 l]) ∧ m < 12 ∧ l < ml y m ∧ md y m + l = n ∧ ∃ j, w' = w.drewN j := by
  have H := hid (fun (k : Nat) (hk : k < 12) (j : Nat) => month_any y k (by omega) hk (w.drewN j) (ht.drewN j))
  have hyy := yl_le y
  clear ht
  go_enter Tryz.func228, Tryz.ntmps228
  go_wp2_with fail
  go_loopw [1, 8] (fun s i wr => ∃ k l j : Nat, k ≤ 12 ∧ i = .int .i64 k ∧ s = .int .i64 l ∧ md y k + l = n ∧ wr = w.drewN j) (fun s _ _ => (intOf s).toNat)
  case atStart => exact ⟨0, n, 0, by omega, rfl, rfl, by simp [md], rfl⟩
  case round =>
    obtain ⟨k, l, j, hk, rfl, rfl, hkl, rfl⟩ := hrel
    have hk2 : k < 12 := by
      rcases Nat.lt_or_ge k 12 with h | h
      · exact h
      · have : k = 12 := by omega
        subst this
        rw [md_twelve] at hkl; omega
    have hyl := ml_le y hk2
    have hyg := ml_ge y hk2
    have hst := md_step y k
    by_cases hlt : ml y k ≤ l
    · go_wp2_with fail
      refine (H.out k (by omega) _).mono ?_
      rintro e w1 ⟨rfl, i1, rfl⟩
      rw [World.drewN_drewN]
      go_wp2_with fail
      refine (H.out k (by omega) _).mono ?_
      rintro e w1 ⟨rfl, i2, rfl⟩
      go_wp2
      refine ⟨⟨k + 1, l - ml y k, _, by omega, rfl, ?_, by omega, rfl⟩, by simp [intOf]; omega⟩
      congr 1; omega
    · go_wp2_with fail
      refine (H.out k (by omega) _).mono ?_
      rintro e w1 ⟨rfl, i1, rfl⟩
      go_wp2
      go_ret2
      exact ⟨k, l, rfl, hk2, by omega, hkl, _, rfl⟩
end Go.Proofs.YtddbiiejilcbbaaGreatDoor
