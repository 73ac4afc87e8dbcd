/- the text PPlaysW -/
import Derived.Test.YtcmgclkbhhdnaaaGreatDoorPScrC
namespace Go.Proofs.YtcmgclkbhhdnaaaGreatDoor
open Go Go.RowKit

set_option maxRecDepth 100000 in
set_option maxHeartbeats 4000000 in
theorem pagerPlays_walk (c : Int) (a : Option Addr) (N cap : Nat) (xs : List Op8) (W : World) (ht : Tab W) (hc : -9223372036854775808 ≤ c ∧ c ≤ 9223372036854775807) (hs : Ops8 W a N xs) (hN : N ≤ 9223372036854775807) :
    Calls Tryz.prog 3 #[.int .i64 c, .slice a N cap] W fun e w' => e = .returned (.bool true) ∧ Below W.heap.size W w' := by
  obtain ⟨B, hB⟩ : ∃ B, W.heap.size = B := ⟨_, rfl⟩
  rw [hB]
  have HSH := hid (shown_any W ht)
  have HT := hid ht
  have HTL : Hid (0 < B) := hid (by rw [← hB]; exact tab_lt ht)
  have HC := hid hc
  have HSC0 := hid hs
  have HNN := hid hN
  have HB := hid hB
  have hpk := pk_lt c (n := 300) (by decide)
  obtain ⟨n, hn⟩ : ∃ n, 32 + pk c 300 = n := ⟨_, rfl⟩
  have Hn : Hid ((32 ≤ n ∧ n ≤ 331) ∧ 32 + pk c 300 = n) := hid ⟨by omega, hn⟩
  have hnb := pgOf_le (n := n) (by omega) (by omega)
  obtain ⟨L, hL⟩ : ∃ L, pgOf n = L := ⟨_, rfl⟩
  have HL : Hid (1 ≤ L ∧ nbOf n ≤ 170 ∧ pgOf n = L) := hid ⟨by omega, hnb.2, hL⟩
  clear ht hc hs hN hpk hn hB hnb hL
  go_enter Tryz.func3, Tryz.ntmps3
  go_wp2_with fail
  refine HSH.out.mono ?_
  rintro e w1 ⟨rfl, hB1⟩
  have hbg := begun_any c HC.out.1 HC.out.2 w1 (HT.out.below hB1)
  rw [Hn.out.2] at hbg
  have HBG := hid hbg
  rw [HB.out] at hB1
  have HB1 : Hid (Below B W w1 ∧ B ≤ w1.heap.size) := hid ⟨hB1, by have := hB1.size; have := HB.out; omega⟩
  have HNO := hid (none_any w1)
  clear hB1 hbg HSH
  go_wp2_with fail
  refine HNO.out.mono ?_
  rintro e wz ⟨rfl, hwz⟩
  obtain rfl := hwz.symm
  clear HNO
  go_wp2_with fail
  refine HBG.out.mono ?_
  intro e w2 hbg
  obtain ⟨d, j, p0, r, rfl, hP⟩ := Pl.begun hbg Hn.out.1 HB1.out.1 HB1.out.2 HTL.out
  rw [HL.out.2.2] at hP
  have HI0 := hid hP
  clear hbg hP HBG HB1
  go_wp2_with fail
  go_loopw [9, 11, 12, 13, 14, 15, 16] (fun v9 v11 _ _ _ _ _ wr => ∃ i p : Nat, i ≤ N ∧ i ≤ 120 ∧ v9 = .pointer (some ⟨p, 0, none⟩) ∧ v11 = .int .i64 i ∧ Pl W B n L i p j d r wr) (fun _ v11 _ _ _ _ _ _ => 120 - (intOf v11).toNat)
  case atStart => exact ⟨0, p0, Nat.zero_le _, Nat.zero_le _, rfl, rfl, HI0.out⟩
  case round =>
    clear HI0
    obtain ⟨i, p, hiN, hi, rfl, rfl, hP⟩ := hrel
    have hnn := HNN.out
    have hwk : IntKind.i64.wrap ((i : Int) + 1) = ((i + 1 : Nat) : Int) := by rw [IntWalk.i64_in _ ⟨by omega, by omega⟩]; omega
    by_cases hlt : i < N ∧ i < 120
    · have hlt1 : (i : Int) < (N : Int) := by omega
      have hlt2 : (i : Int) < 120 := by omega
      obtain ⟨x, hx⟩ : ∃ x, xs[i]? = some x := ⟨_, List.getElem?_eq_getElem (by have := HSC0.out.1; omega)⟩
      obtain ⟨hxo, b, off, rfl, hc0, hc1, hc2⟩ := HSC0.out.2 i x hx
      obtain ⟨v, hv⟩ := byte_of hxo.2.2
      have hbl : b < B := by have h1 : b < W.heap.size := World.block_lt_of_cell? W _ hc0; have := HB.out; omega
      have hBw := hP.below
      rw [← Nat.add_assoc] at hc1 hc2
      have hd0 : wr.cell? ⟨b, off + i * 3, none⟩ = some (.int .i64 x.kd) := (hBw.cell (p := ⟨b, off + i * 3, none⟩) hbl).trans hc0
      have hd1 : wr.cell? ⟨b, off + i * 3 + 1, none⟩ = some (.int .i64 x.pg) := (hBw.cell (p := ⟨b, off + i * 3 + 1, none⟩) hbl).trans hc1
      have hd2 : wr.cell? ⟨b, off + i * 3 + 2, none⟩ = some (cb v) := ((hBw.cell (p := ⟨b, off + i * 3 + 2, none⟩) hbl).trans hc2).trans (by rw [hv]; rfl)
      have HLD0 := hid (load1 Tryz.isAgg3 hd0)
      have HLX := hid (load32 hd0 hd1 hd2)
      have HIX := hid hlt.1
      have HLT := hid hlt
      have HX := hid hxo
      have HPK := hid (pick_any x.kd 11 hxo.1.1 hxo.1.2 (by decide) wr)
      have hk11 := pk_lt x.kd (n := 11) (by decide)
      obtain ⟨kd, hkd⟩ : ∃ kd, pk x.kd 11 = kd := ⟨_, rfl⟩
      have HKD := hid hkd
      rw [hkd] at HPK hk11
      have HP := hid hP
      clear hP hxo hx hv hbl hBw hd0 hd1 hd2 hc0 hc1 hc2 hlt hiN hi hnn hkd
      by_cases hk10 : kd = 10
      · subst hk10
        clear hk11
        go_upto_region 9 with fail
        refine wp_region_lit ?_
        refine wp_y (v := .slice (some ⟨b, off, none⟩) N cap) rfl rfl (y_move rfl (by kernel_rfl) (by kernel_rfl)) rfl ?_
        try simp only [List.setIfInBounds_toArray, List.set_cons_zero, List.set_cons_succ]
        refine wp_y (v := .int .i64 (i : Nat)) rfl rfl (y_move rfl (by kernel_rfl) (by kernel_rfl)) rfl ?_
        try simp only [List.setIfInBounds_toArray, List.set_cons_zero, List.set_cons_succ]
        refine wp_y (v := .pointer (some ⟨b, off + i * 3, none⟩)) rfl rfl (y_index rfl (by kernel_rfl) (by kernel_rfl) (by kernel_rfl) (idx22 b off N cap i HIX.out)) rfl ?_
        try simp only [List.setIfInBounds_toArray, List.set_cons_zero, List.set_cons_succ]
        refine wp_y (v := .pointer (some ⟨b, off + i * 3, none⟩)) rfl rfl (y_faddr rfl (by kernel_rfl) (by kernel_rfl) (fg32_0 (b) (off + i * 3))) rfl ?_
        try simp only [List.setIfInBounds_toArray, List.set_cons_zero, List.set_cons_succ]
        refine wp_y (v := .int .i64 x.kd) rfl rfl (y_load rfl (by kernel_rfl) (by kernel_rfl) (fun w' h => by rw [h]; exact HLD0.out)) rfl ?_
        try simp only [List.setIfInBounds_toArray, List.set_cons_zero, List.set_cons_succ]
        refine wp_call (f := 12) (args := #[.int .i64 x.kd, .int .i64 11]) (by kernel_rfl) (fun w => by go_simp) ?_
        refine HPK.out.mono ?_
        rintro e wz ⟨rfl, hwz⟩
        obtain rfl := hwz.symm
        refine ⟨_, rfl, ?_⟩
        dsimp only [Act.put]
        try simp only [List.setIfInBounds_toArray, List.set_cons_zero, List.set_cons_succ]
        refine wp_y (v := .bool true) rfl rfl (y_bin (k := .i64) (k' := .i64) (m := (10 : Nat)) (n := 10) rfl (by kernel_rfl) (by kernel_rfl) (by kernel_rfl) (qeql _ _ _ rfl)) rfl ?_
        try simp only [List.setIfInBounds_toArray, List.set_cons_zero, List.set_cons_succ]
        refine wp_end ?_
        have HOP := hid (HP.out.open HL.out.1)
        clear HLD0 HPK HLX
        go_wp2_with fail
        refine HOP.out.mono ?_
        rintro e w3 ⟨p2, rfl, hC⟩
        have HAB := hid hC
        clear hC HOP
        go_wp2_with fail
        refine HAB.out.mono ?_
        rintro e w4 ⟨rfl, hP4⟩
        have HQ : Hid (Pl W B n L (i + 1) p2 j d r w4) := hid (hP4.mono (by omega))
        clear hP4 HAB
        have HHA := hid HQ.out.has
        go_wp2_with fail
        refine HHA.out.mono ?_
        rintro e w5 ⟨rfl, hP5⟩
        have HZ := hid hP5
        clear hP5 HHA HQ
        go_wp2_with fail
        exact ⟨⟨i + 1, p2, HLT.out.1, HLT.out.2, rfl, rfl, HZ.out⟩, by have := HLT.out; simp [intOf]; omega⟩
      · have hne : ((kd : Int) == 10) = false := by rw [beq_eq_false_iff_ne]; omega
        have HK : Hid (kd < 10) := hid (by omega)
        clear hk10 hk11
        go_upto_region 9 with fail
        refine wp_region_lit ?_
        refine wp_y (v := .slice (some ⟨b, off, none⟩) N cap) rfl rfl (y_move rfl (by kernel_rfl) (by kernel_rfl)) rfl ?_
        try simp only [List.setIfInBounds_toArray, List.set_cons_zero, List.set_cons_succ]
        refine wp_y (v := .int .i64 (i : Nat)) rfl rfl (y_move rfl (by kernel_rfl) (by kernel_rfl)) rfl ?_
        try simp only [List.setIfInBounds_toArray, List.set_cons_zero, List.set_cons_succ]
        refine wp_y (v := .pointer (some ⟨b, off + i * 3, none⟩)) rfl rfl (y_index rfl (by kernel_rfl) (by kernel_rfl) (by kernel_rfl) (idx22 b off N cap i HIX.out)) rfl ?_
        try simp only [List.setIfInBounds_toArray, List.set_cons_zero, List.set_cons_succ]
        refine wp_y (v := .pointer (some ⟨b, off + i * 3, none⟩)) rfl rfl (y_faddr rfl (by kernel_rfl) (by kernel_rfl) (fg32_0 (b) (off + i * 3))) rfl ?_
        try simp only [List.setIfInBounds_toArray, List.set_cons_zero, List.set_cons_succ]
        refine wp_y (v := .int .i64 x.kd) rfl rfl (y_load rfl (by kernel_rfl) (by kernel_rfl) (fun w' h => by rw [h]; exact HLD0.out)) rfl ?_
        try simp only [List.setIfInBounds_toArray, List.set_cons_zero, List.set_cons_succ]
        refine wp_call (f := 12) (args := #[.int .i64 x.kd, .int .i64 11]) (by kernel_rfl) (fun w => by go_simp) ?_
        refine HPK.out.mono ?_
        rintro e wz ⟨rfl, hwz⟩
        obtain rfl := hwz.symm
        refine ⟨_, rfl, ?_⟩
        dsimp only [Act.put]
        try simp only [List.setIfInBounds_toArray, List.set_cons_zero, List.set_cons_succ]
        refine wp_y (v := .bool false) rfl rfl (y_bin (k := .i64) (k' := .i64) (m := (kd : Nat)) (n := 10) rfl (by kernel_rfl) (by kernel_rfl) (by kernel_rfl) (qeql _ _ _ hne)) rfl ?_
        try simp only [List.setIfInBounds_toArray, List.set_cons_zero, List.set_cons_succ]
        refine wp_end ?_
        clear HLD0 HPK
        obtain ⟨go, wa, wb, wc, hal, hsr, hlk, hsc, hlo, hBb, hBc⟩ := scr_any wr x.kd x.pg ((kd : Nat) : Int) v
        have HAL := hid hal
        have HSR := hid hsr
        have HLK := hid hlk
        have HSC := hid hsc
        have HLO := hid hlo
        have HBC := hid hBc
        have HPK2 := hid (pick_any x.kd 11 HX.out.1.1 HX.out.1.2 (by decide) wb)
        rw [HKD.out] at HPK2
        clear hal hsr hlk hsc hlo hBb hBc
        go_upto_region 15 with fail
        refine wp_region_lit ?_
        refine wp_y (v := .slice (some ⟨b, off, none⟩) N cap) rfl rfl (y_move rfl (by kernel_rfl) (by kernel_rfl)) rfl ?_
        try simp only [List.setIfInBounds_toArray, List.set_cons_zero, List.set_cons_succ]
        refine wp_y (v := .int .i64 (i : Nat)) rfl rfl (y_move rfl (by kernel_rfl) (by kernel_rfl)) rfl ?_
        try simp only [List.setIfInBounds_toArray, List.set_cons_zero, List.set_cons_succ]
        refine wp_y (v := .pointer (some ⟨b, off + i * 3, none⟩)) rfl rfl (y_index rfl (by kernel_rfl) (by kernel_rfl) (by kernel_rfl) (idx22 b off N cap i HIX.out)) rfl ?_
        try simp only [List.setIfInBounds_toArray, List.set_cons_zero, List.set_cons_succ]
        refine wp_y (v := .agg #[.int .i64 x.kd, .int .i64 x.pg, cb v]) rfl rfl (y_load rfl (by kernel_rfl) (by kernel_rfl) (fun w' h => by rw [h]; exact HLX.out)) rfl ?_
        try simp only [List.setIfInBounds_toArray, List.set_cons_zero, List.set_cons_succ]
        refine wp_run (v := .pointer (some ⟨go, 0, none⟩)) rfl rfl (run_alOp rfl HAL.out) rfl ?_
        try simp only [List.setIfInBounds_toArray, List.set_cons_zero, List.set_cons_succ]
        refine wp_do rfl rfl (run_storeOp rfl (by kernel_rfl) (by kernel_rfl) HSR.out) ?_
        try simp only [List.setIfInBounds_toArray, List.set_cons_zero, List.set_cons_succ]
        refine wp_end ?_
        go_upto_region 16 with fail
        refine wp_region_lit ?_
        refine wp_y (v := .pointer (some ⟨go, 0, none⟩)) rfl rfl (y_faddr rfl (by kernel_rfl) (by kernel_rfl) (fg32_0 (go) (0))) rfl ?_
        try simp only [List.setIfInBounds_toArray, List.set_cons_zero, List.set_cons_succ]
        refine wp_y (v := .int .i64 x.kd) rfl rfl (y_load rfl (by kernel_rfl) (by kernel_rfl) (fun w' h => by rw [h]; exact HLK.out)) rfl ?_
        try simp only [List.setIfInBounds_toArray, List.set_cons_zero, List.set_cons_succ]
        refine wp_call (f := 12) (args := #[.int .i64 x.kd, .int .i64 11]) (by kernel_rfl) (fun w => by go_simp) ?_
        refine HPK2.out.mono ?_
        rintro e wz ⟨rfl, hwz⟩
        obtain rfl := hwz.symm
        refine ⟨_, rfl, ?_⟩
        dsimp only [Act.put]
        try simp only [List.setIfInBounds_toArray, List.set_cons_zero, List.set_cons_succ]
        refine wp_y (v := .pointer (some ⟨go, 0, none⟩)) rfl rfl (y_faddr rfl (by kernel_rfl) (by kernel_rfl) (fg32_0 (go) (0))) rfl ?_
        try simp only [List.setIfInBounds_toArray, List.set_cons_zero, List.set_cons_succ]
        refine wp_do rfl rfl (run_storeOp rfl (by kernel_rfl) (by kernel_rfl) HSC.out) ?_
        try simp only [List.setIfInBounds_toArray, List.set_cons_zero, List.set_cons_succ]
        refine wp_end ?_
        have HDO := hid (HP.out.does HBC.out HL.out.1 HL.out.2.1 (by have := HLT.out; omega) kd HK.out x.pg v)
        clear HAL HSR HLK HSC HPK2 HLX
        go_upto_region 17 with fail
        refine wp_region_lit ?_
        refine wp_y (v := .pointer (some ⟨p, 0, none⟩)) rfl rfl (y_move rfl (by kernel_rfl) (by kernel_rfl)) rfl ?_
        try simp only [List.setIfInBounds_toArray, List.set_cons_zero, List.set_cons_succ]
        refine wp_y (v := .pointer (some ⟨r, 0, none⟩)) rfl rfl (y_move rfl (by kernel_rfl) (by kernel_rfl)) rfl ?_
        try simp only [List.setIfInBounds_toArray, List.set_cons_zero, List.set_cons_succ]
        refine wp_y (v := .agg #[.int .i64 (kd : Nat), .int .i64 x.pg, cb v]) rfl rfl (y_load rfl (by kernel_rfl) (by kernel_rfl) (fun w' h => by rw [h]; exact HLO.out)) rfl ?_
        try simp only [List.setIfInBounds_toArray, List.set_cons_zero, List.set_cons_succ]
        refine wp_call (f := 15) (args := #[.pointer (some ⟨p, 0, none⟩), .pointer (some ⟨r, 0, none⟩), .agg #[.int .i64 (kd : Nat), .int .i64 x.pg, cb v]]) (by kernel_rfl) (fun w => by go_simp) ?_
        refine HDO.out.mono ?_
        rintro e w4 ⟨rfl, hP4⟩
        refine ⟨_, rfl, ?_⟩
        have HQ := hid hP4
        clear hP4 HDO HLO HBC
        dsimp only [Act.put]
        try simp only [List.setIfInBounds_toArray, List.set_cons_zero, List.set_cons_succ]
        refine wp_y (v := .bool true) rfl rfl (y_assign rfl (by kernel_rfl) (by kernel_rfl)) rfl ?_
        try simp only [List.setIfInBounds_toArray, List.set_cons_zero, List.set_cons_succ]
        refine wp_end ?_
        have HHA := hid HQ.out.has
        go_wp2_with fail
        refine HHA.out.mono ?_
        rintro e w5 ⟨rfl, hP5⟩
        have HZ := hid hP5
        clear hP5 HHA HQ
        go_wp2_with fail
        exact ⟨⟨i + 1, p, HLT.out.1, HLT.out.2, rfl, rfl, HZ.out⟩, by have := HLT.out; simp [intOf]; omega⟩
    · have HZ := hid hP.below
      clear hP hnn
      by_cases h1 : (i : Int) < (N : Int)
      · have h2 : ¬ (i : Int) < 120 := by omega
        clear hlt hiN hi
        go_wp2_with fail
        go_ret
        exact ⟨rfl, HZ.out⟩
      · clear hlt hiN hi
        go_wp2_with fail
        go_ret
        exact ⟨rfl, HZ.out⟩
end Go.Proofs.YtcmgclkbhhdnaaaGreatDoor
