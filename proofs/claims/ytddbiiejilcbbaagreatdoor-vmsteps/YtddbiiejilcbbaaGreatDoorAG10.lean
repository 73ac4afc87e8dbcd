/- texts put together: DFuncs -/
import Derived.Test.YtddbiiejilcbbaaGreatDoorAG9
namespace Go.Proofs.YtddbiiejilcbbaaGreatDoor
open Go Go.RowKit

theorem Below.laid {w w1 : World} (h : Below w.heap.size w w1) (o : Obj) : Below w.heap.size w (w1.alloc o) := h.alloc h.size o
/-- A date as it is handed in. -/
def Valid (y m d : Int) : Prop := 1900 ≤ y ∧ 1 ≤ m ∧ 0 ≤ d ∧ Dt (y - 1900).toNat (m - 1).toNat d.toNat
instance (y m d : Int) : Decidable (Valid y m d) := by unfold Valid; infer_instance
def ofV (y m d : Int) : Value := if Valid y m d then .tuple #[.int .i64 (dn (y - 1900).toNat (m - 1).toNat d.toNat : Nat), .int .i64 0] else .tuple #[.int .i64 0, .int .i64 30]



def withinI (n most : Int) : Int := if n < -most then -most else if most < n then most else n
theorem withinI_in {n most : Int} (h : 0 ≤ most) : -most ≤ withinI n most ∧ withinI n most ≤ most := by unfold withinI; split <;> (try split) <;> omega
set_option maxHeartbeats 800000 in
theorem within_any (n : Int) (k : Nat) (hk : k ≤ 1000000) (w : World) :
    Calls Tryz.prog 147 #[.int .i64 n, .int .i64 k] w fun e w' => e = .returned (.int .i64 (withinI n k)) ∧ w' = w := by
  unfold withinI
  by_cases h0 : n < -(k : Int)
  · rw [if_pos h0]
    go_enter Tryz.func147, Tryz.ntmps147
    go_wp2
    all_goals
      go_ret
      exact ⟨ret_intD (by omega), rfl⟩
  · by_cases h1 : (k : Int) < n
    · rw [if_neg h0, if_pos h1]
      go_enter Tryz.func147, Tryz.ntmps147
      go_wp2
      all_goals
        go_ret
        exact ⟨ret_intD (by omega), rfl⟩
    · rw [if_neg h0, if_neg h1]
      go_enter Tryz.func147, Tryz.ntmps147
      go_wp2
      all_goals
        go_ret
        exact ⟨ret_intD (by omega), rfl⟩

def plusV (day n : Int) : Nat := clampD ((clampD day : Int) + withinI n 73048)
set_option maxHeartbeats 800000 in
theorem plus_any (day n : Int) (w : World) :
    Calls Tryz.prog 112 #[.int .i64 day, .int .i64 n] w fun e w' => e = .returned (.int .i64 (plusV day n : Nat)) ∧ w' = w := by
  have h1 := clampD_le day
  have h2 := withinI_in (n := n) (most := 73048) (by omega)
  unfold plusV
  have HW := hid (within_any n 73048 (by omega))
  have HC1 := hid (clamp_day day)
  have HC2 := hid (clamp_day ((clampD day : Int) + withinI n 73048))
  rw [show ((73048 : Nat) : Int) = 73048 from rfl] at HW
  generalize clampD ((clampD day : Int) + withinI n 73048) = R at *
  generalize clampD day = D at *
  generalize withinI n 73048 = N at *
  go_enter Tryz.func112, Tryz.ntmps112
  go_wp2_with fail
  refine (HC1.out _).mono ?_
  rintro e w1 ⟨rfl, rfl⟩
  go_wp2_with fail
  refine (HW.out _).mono ?_
  rintro e w1 ⟨rfl, rfl⟩
  go_wp2_with fail
  refine (HC2.out _).mono ?_
  rintro e w1 ⟨rfl, rfl⟩
  go_wp2
  go_ret
  exact ⟨rfl, rfl⟩

/-- A struct of three that may be written. -/
def St3 (w : World) (p : Nat) (x y z : Value) : Prop :=
  (w.cell? ⟨p, 0, none⟩ = some x ∧ w.cell? ⟨p, 1, none⟩ = some y ∧ w.cell? ⟨p, 2, none⟩ = some z) ∧ w.frozen? ⟨p, 0, none⟩ = false ∧ w.frozen? ⟨p, 1, none⟩ = false ∧ w.frozen? ⟨p, 2, none⟩ = false
theorem St3.drewN {w : World} {p : Nat} {x y z : Value} (h : St3 w p x y z) (n : Nat) : St3 (w.drewN n) p x y z := h
theorem St3.set0 {w : World} {p : Nat} {x y z : Value} (h : St3 w p x y z) (v : Value) : St3 (w.setCell ⟨p, 0, none⟩ v) p v y z := by
  obtain ⟨⟨a, b, c⟩, d, e, f⟩ := h
  exact ⟨⟨World.cell?_setCell_same _ _ _ a, (World.cell?_setCell_other _ _ _ _ (by simp)).trans b, (World.cell?_setCell_other _ _ _ _ (by simp)).trans c⟩, by simpa using d, by simpa using e, by simpa using f⟩
theorem St3.set1 {w : World} {p : Nat} {x y z : Value} (h : St3 w p x y z) (v : Value) : St3 (w.setCell ⟨p, 1, none⟩ v) p x v z := by
  obtain ⟨⟨a, b, c⟩, d, e, f⟩ := h
  exact ⟨⟨(World.cell?_setCell_other _ _ _ _ (by simp)).trans a, World.cell?_setCell_same _ _ _ b, (World.cell?_setCell_other _ _ _ _ (by simp)).trans c⟩, by simpa using d, by simpa using e, by simpa using f⟩
theorem St3.set2 {w : World} {p : Nat} {x y z : Value} (h : St3 w p x y z) (v : Value) : St3 (w.setCell ⟨p, 2, none⟩ v) p x y v := by
  obtain ⟨⟨a, b, c⟩, d, e, f⟩ := h
  exact ⟨⟨(World.cell?_setCell_other _ _ _ _ (by simp)).trans a, (World.cell?_setCell_other _ _ _ _ (by simp)).trans b, World.cell?_setCell_same _ _ _ c⟩, by simpa using d, by simpa using e, by simpa using f⟩

def monK (y m : Nat) (n : Int) : Int := withinI n 2400 + (y : Int) * 12 + (m : Int)
def monV (y m d : Nat) (n : Int) : Nat :=
  if monK y m n < 0 then 0 else if 2400 ≤ monK y m n then 73048 else
    dn ((monK y m n).toNat / 12) ((monK y m n).toNat % 12) (min d (ml (1900 + (monK y m n).toNat / 12) ((monK y m n).toNat % 12)))
set_option maxHeartbeats 800000 in
theorem months_any (day n : Int) (w : World) (ht : Tab w) :
    Calls Tryz.prog 154 #[.int .i64 day, .int .i64 n] w fun e w' => ∃ y m d : Nat, Dt y m d ∧ dn y m d = clampD day ∧ e = .returned (.int .i64 (monV y m d n : Nat)) ∧ Below w.heap.size w w' := by
  have HT := hid ht
  clear ht
  have hcl := clampD_le day
  have HC1 := hid (clamp_day day)
  have hw2 := withinI_in (n := n) (most := 2400) (by omega)
  have HW := hid (within_any n 2400 (by omega))
  rw [show ((2400 : Nat) : Int) = 2400 from rfl] at HW
  unfold monV monK
  generalize clampD day = D at *
  generalize withinI n 2400 = N at *
  go_enter Tryz.func154, Tryz.ntmps154
  go_wp2_with fail
  refine (HC1.out _).mono ?_
  rintro e w1 ⟨rfl, rfl⟩
  go_wp2_with fail
  refine (dateOf_any D hcl _ HT.out).mono ?_
  rintro e w2 ⟨y, m, d, hd, hdn, rfl, hB⟩
  obtain ⟨c0, c1, c2⟩ := laid3 w2 (.int .i64 (1900 + (y : Int))) (.int .i64 m) (.int .i64 d)
  have HD := hid hd
  have HDN := hid hdn
  have hm := hd.2.1
  have hy := hd.1
  have hBl := hid (Below.laid hB (.cells #[.int .i64 (1900 + (y : Int)), .int .i64 m, .int .i64 d] 217))
  have hlt : w2.heap.size < (w2.alloc (.cells #[.int .i64 (1900 + (y : Int)), .int .i64 m, .int .i64 d] 217)).heap.size := by simp
  clear hd hdn
  have v1 : IntKind.i64.wrap (1900 + (y : Int) - 1900) = (y : Int) := by rw [IntWalk.i64_in _ ⟨by omega, by omega⟩]; omega
  have v2 : IntKind.i64.wrap ((y : Int) * 12) = (y : Int) * 12 := IntWalk.i64_in _ ⟨by omega, by omega⟩
  have v3 : IntKind.i64.wrap (N + (y : Int) * 12) = N + (y : Int) * 12 := IntWalk.i64_in _ ⟨by omega, by omega⟩
  have v4 : IntKind.i64.wrap (N + (y : Int) * 12 + (m : Int)) = N + (y : Int) * 12 + (m : Int) := IntWalk.i64_in _ ⟨by omega, by omega⟩
  go_wp2_with fail
  have HW2 : Hid (w2.heap.size < (w2.alloc (.cells #[.int .i64 (1900 + (y : Int)), .int .i64 m, .int .i64 d] 217)).heap.size) := hlt
  clear hlt
  have f0 : (w2.alloc (.cells #[.int .i64 (1900 + (y : Int)), .int .i64 m, .int .i64 d] 217)).frozen? ⟨w2.heap.size, 0, none⟩ = false := World.frozen?_alloc_new _ _ _ _
  have f1 : (w2.alloc (.cells #[.int .i64 (1900 + (y : Int)), .int .i64 m, .int .i64 d] 217)).frozen? ⟨w2.heap.size, 1, none⟩ = false := World.frozen?_alloc_new _ _ _ _
  have f2 : (w2.alloc (.cells #[.int .i64 (1900 + (y : Int)), .int .i64 m, .int .i64 d] 217)).frozen? ⟨w2.heap.size, 2, none⟩ = false := World.frozen?_alloc_new _ _ _ _
  generalize w2.alloc (.cells #[.int .i64 (1900 + (y : Int)), .int .i64 m, .int .i64 d] 217) = W at *
  go_quiet ((go_at_call 147; exact Calls.quiet_of_same (HW.out _)))
  by_cases hk0 : N + (y : Int) * 12 + (m : Int) < 0
  · go_wp2
    go_ret
    refine ⟨y, m, d, HD.out, HDN.out, ret_intD ?_, Below.next hBl.out (drewN_below _ _)⟩
    rw [if_pos hk0]; rfl
  · by_cases hk1 : 2400 ≤ N + (y : Int) * 12 + (m : Int)
    · go_wp2
      go_ret
      refine ⟨y, m, d, HD.out, HDN.out, ret_intD ?_, Below.next hBl.out (drewN_below _ _)⟩
      rw [if_neg (by omega), if_pos hk1]; rfl
    · clear v1 v2 v3 v4
      generalize hK : N + (y : Int) * 12 + (m : Int) = K at *
      obtain ⟨k, rfl⟩ := Int.eq_ofNat_of_zero_le (a := K) (by omega)
      go_wp2_with fail
      have e1 : (1900 + (k : Int) / 12) = ((1900 + k / 12 : Nat) : Int) := by omega
      have e2 : (k : Int) % 12 = ((k % 12 : Nat) : Int) := by omega
      rw [e1, e2]
      have hY1 : k / 12 < 200 := by omega
      have hM1 : k % 12 < 12 := by omega
      have hD1 := HD.out.dle
      have hD0 := HD.out.2.2.1
      have HK := hid (⟨hK, hk0, hk1⟩ : N + (y : Int) * 12 + (m : Int) = (k : Int) ∧ 0 ≤ (k : Int) ∧ (k : Int) < 2400)
      clear e1 e2 hK hk0 hk1
      generalize hYe : k / 12 = Y at *
      generalize hMe : k % 12 = M at *
      have HYe := hid hYe
      have HMe := hid hMe
      clear hYe hMe
      have gb := ((Below.next hBl.out (drewN_below W nq)).setCell (p := ⟨w2.heap.size, 0, none⟩) hB.size (.int .i64 ((1900 + Y : Nat) : Int))).setCell (p := ⟨w2.heap.size, 1, none⟩) hB.size (.int .i64 (M : Int))
      have hs3 : St3 W w2.heap.size (.int .i64 (1900 + (y : Int))) (.int .i64 m) (.int .i64 d) := ⟨⟨c0, c1, c2⟩, f0, f1, f2⟩
      have hs4 := ((hs3.drewN nq).set0 (.int .i64 ((1900 + Y : Nat) : Int))).set1 (.int .i64 (M : Int))
      clear hs3 c0 c1 c2 f0 f1 f2
      have HG := hid gb
      clear gb
      generalize ((W.drewN nq).setCell ⟨w2.heap.size, 0, none⟩ (.int .i64 ((1900 + Y : Nat) : Int))).setCell ⟨w2.heap.size, 1, none⟩ (.int .i64 (M : Int)) = U at *
      have HM := hid (fun j => month_any (1900 + Y) M (by omega) hM1 (U.drewN j) ((HT.out.below HG.out).drewN j))
      have hml := ml_le (1900 + Y) hM1
      have hmg := ml_ge (1900 + Y) hM1
      generalize hL : ml (1900 + Y) M = L at *
      have hYI : ((1900 + Y : Nat) : Int) = 1900 + (Y : Int) := by omega
      have HYI := hid hYI
      clear hYI
      generalize ((1900 + Y : Nat) : Int) = YI at *
      have HS4 := hid hs4
      obtain ⟨⟨c0, c1, c2⟩, f0, f1, f2⟩ := hs4
      go_region_with (go_at_call 195; refine (HM.out _).mono ?_; rintro e w' ⟨rfl, j, rfl⟩)
      all_goals
        have em : (if L < d then (L : Int) else (d : Int)) = ((min d L : Nat) : Int) := by split <;> omega
        rw [em]
        have hs5 := (HS4.out.drewN (1 + j)).set2 (.int .i64 ((min d L : Nat) : Int))
        have gb := (Below.next HG.out (drewN_below U (1 + j))).setCell (p := ⟨w2.heap.size, 2, none⟩) hB.size (.int .i64 ((min d L : Nat) : Int))
        have hDt : Dt Y M (min d L) := ⟨hY1, hM1, by omega, by rw [hL]; omega⟩
        clear c0 c1 c2 f0 f1 f2 em
        generalize (U.drewN (1 + j)).setCell ⟨w2.heap.size, 2, none⟩ (.int .i64 ((min d L : Nat) : Int)) = V at *
        obtain ⟨⟨c0, c1, c2⟩, _, _, _⟩ := hs5
        generalize hE : min d L = E at *
        go_wp2_with fail
        refine (dayNumber_any Y M E hDt YI HYI.out _ (HT.out.below gb)).mono ?_
        rintro e w9 ⟨rfl, hB9⟩
        go_wp2
        go_ret
        refine ⟨y, m, d, HD.out, HDN.out, ret_intD ?_, Below.next gb hB9⟩
        rw [HK.out.1, if_neg (by have := HK.out; omega), if_neg (by have := HK.out; omega)]
        simp only [Int.toNat_natCast]
        rw [HYe.out, HMe.out, hL, hE]
end Go.Proofs.YtddbiiejilcbbaaGreatDoor
