/- texts put together: DDate -/
import Derived.Test.YtddbiiejilcbbaaGreatDoorAG8
import Derived.Handy
import Derived.Deep.RegionWith
namespace Go.Proofs.YtddbiiejilcbbaaGreatDoor
open Go Go.RowKit

theorem Tab.below {w w' : World} (h : Tab w) (hB : Below w.heap.size w w') : Tab w' := fun k hk => by
  rw [hB.cell (p := ⟨1, k, none⟩) (World.block_lt_of_cell? w _ (h k hk))]; exact h k hk
theorem Below.next {w w1 w2 : World} (hb : Below w.heap.size w w1) (h : Below w1.heap.size w1 w2) : Below w.heap.size w w2 := hb.trans (h.mono hb.size)
theorem drewN_below (w : World) (j : Nat) : Below w.heap.size w (w.drewN j) := by
  induction j with
  | zero => exact Below.refl _ _
  | succ j ih => exact (by have := ih.drew; exact this)


set_option maxHeartbeats 400000 in
theorem clamp_day (n : Int) (w : World) :
    Calls Tryz.prog 146 #[.int .i64 n] w fun e w' => e = .returned (.int .i64 (clampD n : Nat)) ∧ w' = w := by
  unfold clampD
  by_cases h0 : n < 0
  · go_enter Tryz.func146, Tryz.ntmps146
    rw [if_pos h0]
    go_wp2
    all_goals
      go_ret
      exact ⟨ret_intD (by omega), rfl⟩
  · by_cases h1 : 73048 < n
    · go_enter Tryz.func146, Tryz.ntmps146
      rw [if_neg h0, if_pos h1]
      go_wp2
      all_goals
        go_ret
        exact ⟨ret_intD (by omega), rfl⟩
    · go_enter Tryz.func146, Tryz.ntmps146
      rw [if_neg h0, if_neg h1]
      go_wp2
      all_goals
        go_ret
        exact ⟨ret_intD (by omega), rfl⟩

set_option maxHeartbeats 400000 in
theorem dateOf_any (n : Nat) (hn : n ≤ 73048) (w : World) (ht : Tab w) :
    Calls Tryz.prog 194 #[.int .i64 n] w fun e w' => ∃ y m d : Nat, Dt y m d ∧ dn y m d = n ∧ e = .returned (.agg #[.int .i64 (1900 + (y : Int)), .int .i64 m, .int .i64 d]) ∧ Below w.heap.size w w' := by
  have H1 := hid (piecesInY_any n hn)
  have HT := hid ht
  clear ht
  go_enter Tryz.func194, Tryz.ntmps194
  go_wp2_with fail
  refine (H1.out _).mono ?_
  rintro e w1 ⟨y, l, rfl, hy, hl, hyl, rfl⟩
  go_wp2_with fail
  refine (piecesInM_any (1900 + y) l (by omega) hl _ (HT.out.below ((Below.refl _ _).alloc (Nat.le_refl _) _))).mono ?_
  rintro e w2 ⟨m, l', rfl, hm, hl', hml, j, rfl⟩
  go_wp2
  go_returns
  refine ⟨y, m, l' + 1, ⟨hy, hm, by omega, by omega⟩, by unfold dn; omega, rfl, ?_⟩
  have h0 := ((Below.refl w.heap.size w).alloc (Nat.le_refl _) (.cells #[.int .i64 0, .int .i64 0, .int .i64 0] 217))
  have h1 := Below.next h0 (drewN_below _ j)
  exact ((h1.setCell (p := ⟨w.heap.size, 0, none⟩) (Nat.le_refl _) _).setCell (p := ⟨w.heap.size, 1, none⟩) (Nat.le_refl _) _).setCell (p := ⟨w.heap.size, 2, none⟩) (Nat.le_refl _) _

/-- A struct of three numbers, laid anew. -/
theorem laid3 (w : World) (a b c : Value) : (w.alloc (.cells #[a, b, c] 217)).cell? ⟨w.heap.size, 0, none⟩ = some a ∧ (w.alloc (.cells #[a, b, c] 217)).cell? ⟨w.heap.size, 1, none⟩ = some b ∧ (w.alloc (.cells #[a, b, c] 217)).cell? ⟨w.heap.size, 2, none⟩ = some c := by
  have h := World.cell?_alloc_mark w #[a, b, c] 217 (0, 0)
  exact ⟨h 0, h 1, h 2⟩

set_option maxHeartbeats 800000 in
theorem dayNumber_any (y m d : Nat) (h : Dt y m d) (Y : Int) (hY : Y = 1900 + (y : Int)) (w : World) (ht : Tab w) :
    Calls Tryz.prog 196 #[.agg #[.int .i64 Y, .int .i64 m, .int .i64 d]] w fun e w' => e = .returned (.int .i64 (dn y m d : Nat)) ∧ Below w.heap.size w w' := by
  have hd31 := h.dle
  obtain ⟨hy, hm, hd0, hd1⟩ := h
  have hyd := yd_le (n := y) (by omega)
  have hmd := md_le (1900 + y) (m := m) (by omega)
  have hyl := yl_le (1900 + y)
  have hB := (Below.refl w.heap.size w).alloc (Nat.le_refl _) (.cells #[.int .i64 Y, .int .i64 m, .int .i64 d] 217)
  have ht' := ht.below hB
  obtain ⟨c0, c1, c2⟩ := laid3 w (.int .i64 Y) (.int .i64 m) (.int .i64 d)
  clear ht
  have HF : Hid (Below w.heap.size w (w.alloc (.cells #[.int .i64 Y, .int .i64 m, .int .i64 d] 217))) := hB
  have HYY := hid hY
  clear hB hY
  go_enter Tryz.func196, Tryz.ntmps196
  go_wp2_with fail
  generalize w.alloc (.cells #[.int .i64 Y, .int .i64 m, .int .i64 d] 217) = W at *
  have HT : Hid (Tab W) := ht'
  clear ht'
  have hY := HYY.out
  have HM := hid (fun j => daysOfM_any (1900 + y) m (by omega) (by omega) (W.drewN j) HT.out)
  have HY := hid (fun j => daysOfY_any y (by omega) (W.drewN j))
  have e19 : ((1900 + y : Nat) : Int) = Y := by omega
  rw [e19] at HM
  have v1 : IntKind.i64.wrap (Y - 1900) = (y : Int) := by rw [IntWalk.i64_in _ ⟨by omega, by omega⟩]; omega
  clear hY HYY e19
  generalize hA : yd y = A at *
  generalize hB : md (1900 + y) m = B at *
  have v2 : IntKind.i64.wrap ((A : Int) + (B : Int)) = (A : Int) + (B : Int) := IntWalk.i64_in _ ⟨by omega, by omega⟩
  have v3 : IntKind.i64.wrap ((A : Int) + (B : Int) + (d : Int)) = (A : Int) + (B : Int) + (d : Int) := IntWalk.i64_in _ ⟨by omega, by omega⟩
  have v4 : IntKind.i64.wrap ((A : Int) + (B : Int) + (d : Int) - 1) = (A : Int) + (B : Int) + (d : Int) - 1 := IntWalk.i64_in _ ⟨by omega, by omega⟩
  go_quiet (first | (go_at_call_of 231 Y; exact Calls.quiet_of (HM.out _)) | (go_at_call 231; exact Calls.quiet_of_same (HY.out _)))
  go_wp2
  go_ret
  refine ⟨ret_intD (by unfold dn; omega), Below.next HF.out (drewN_below _ _)⟩

end Go.Proofs.YtddbiiejilcbbaaGreatDoor
