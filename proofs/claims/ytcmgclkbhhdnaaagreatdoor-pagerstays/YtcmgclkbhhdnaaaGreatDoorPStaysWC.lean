/- the text PStaysW -/
import Derived.Test.YtcmgclkbhhdnaaaGreatDoorPStaysMC
namespace Go.Proofs.YtcmgclkbhhdnaaaGreatDoor
open Go Go.RowKit

theorem lenO (p : Option Addr) (n c : Nat) (ty : TypeId) (w : World) : (Builtin.len_ #[22] ty #[.slice p n c]).run Tryz.prog w = .ok (.int .i64 n) w := by go_simp
set_option maxRecDepth 100000 in
set_option maxHeartbeats 8000000 in
theorem pagerStays_walk (c : Int) (a : Option Addr) (N cap : Nat) (xs : List Op8) (a2 : Option Addr) (N2 cap2 : Nat) (xs2 : List Op8) (W : World) (ht : Tab W) (hc : -9223372036854775808 ≤ c ∧ c ≤ 9223372036854775807) (hs : Ops8 W a N xs) (hN : N ≤ 9223372036854775807) (hs2 : Ops8 W a2 N2 xs2) (hN2 : N2 ≤ 9223372036854775807) :
    Calls Tryz.prog 7 #[.int .i64 c, .slice a N cap, .slice a2 N2 cap2] W fun e w' => e = .returned (.bool true) ∧ Below W.heap.size W w' := by
  obtain ⟨B, hB⟩ : ∃ B, W.heap.size = B := ⟨_, rfl⟩
  rw [hB]
  have HSH := hid (shown_any W ht)
  have HT := hid ht
  have HTL : Hid (0 < B) := hid (by rw [← hB]; exact tab_lt ht)
  have HC := hid hc
  have HSC0 := hid hs
  have HSC2 := hid hs2
  have HNN := hid hN
  have HNN2 := hid hN2
  have HB := hid hB
  have hpk := pk_lt c (n := 300) (by decide)
  obtain ⟨n, hn⟩ : ∃ n, 32 + pk c 300 = n := ⟨_, rfl⟩
  have Hn : Hid ((32 ≤ n ∧ n ≤ 331) ∧ 32 + pk c 300 = n) := hid ⟨by omega, hn⟩
  have hnb := pgOf_le (n := n) (by omega) (by omega)
  obtain ⟨L, hL⟩ : ∃ L, pgOf n = L := ⟨_, rfl⟩
  have HL : Hid (1 ≤ L ∧ nbOf n ≤ 170 ∧ pgOf n = L ∧ L ≤ 1000) := hid ⟨by omega, hnb.2, hL, by rw [← hL]; unfold pgOf; omega⟩
  clear ht hc hs hN hs2 hN2 hpk hn hB hnb hL
  go_enter Tryz.func7, Tryz.ntmps7
  go_wp2_with fail
  refine HSH.out.mono ?_
  rintro e w1 ⟨rfl, hB1⟩
  have hbg := begun_any c HC.out.1 HC.out.2 w1 (HT.out.below hB1)
  rw [Hn.out.2] at hbg
  have HBG := hid hbg
  rw [HB.out] at hB1
  have HB1 : Hid (Below B W w1 ∧ B ≤ w1.heap.size) := hid ⟨hB1, by have := hB1.size; have := HB.out; omega⟩
  clear hB1 hbg HSH
  go_wp2_with fail
  refine HBG.out.mono ?_
  intro e w2 hbg
  obtain ⟨d, j, p, r, rfl, hP⟩ := Pl.begun hbg Hn.out.1 HB1.out.1 HB1.out.2 HTL.out
  rw [HL.out.2.2.1] at hP
  have HI0 := hid hP
  clear hbg hP HBG HB1
  go_wp2_with fail
  go_loopw [12, 13] (fun v12 _ wr => ∃ i : Nat, i ≤ N ∧ i ≤ 60 ∧ v12 = .int .i64 i ∧ Pl W B n L i p j d r wr) (fun v12 _ _ => 60 - (intOf v12).toNat)
  case atStart => exact ⟨0, Nat.zero_le _, Nat.zero_le _, rfl, HI0.out⟩
  case round =>
    clear HI0
    obtain ⟨i, hiN, hi, rfl, hP⟩ := hrel
    have hnn := HNN.out
    have hwk : IntKind.i64.wrap ((i : Int) + 1) = ((i + 1 : Nat) : Int) := by rw [IntWalk.i64_in _ ⟨by omega, by omega⟩]; omega
    by_cases hlt : i < N ∧ i < 60
    · have hlt1 : (i : Int) < (N : Int) := by omega
      have hlt2 : (i : Int) < 60 := by omega
      obtain ⟨x, hx⟩ : ∃ x, xs[i]? = some x := ⟨_, List.getElem?_eq_getElem (by have := HSC0.out.1; omega)⟩
      obtain ⟨hxo, b, off, rfl, hc0, hc1, hc2⟩ := HSC0.out.2 i x hx
      obtain ⟨v, hv⟩ := byte_of hxo.2.2
      have hbl : b < B := by have h1 : b < W.heap.size := World.block_lt_of_cell? W _ hc0; have := HB.out; omega
      have hBw := hP.below
      rw [← Nat.add_assoc] at hc1 hc2
      have hd0 : wr.cell? ⟨b, off + i * 3, none⟩ = some (.int .i64 x.kd) := (hBw.cell (p := ⟨b, off + i * 3, none⟩) hbl).trans hc0
      have hd1 : wr.cell? ⟨b, off + i * 3 + 1, none⟩ = some (.int .i64 x.pg) := (hBw.cell (p := ⟨b, off + i * 3 + 1, none⟩) hbl).trans hc1
      have hd2 : wr.cell? ⟨b, off + i * 3 + 2, none⟩ = some (cb v) := ((hBw.cell (p := ⟨b, off + i * 3 + 2, none⟩) hbl).trans hc2).trans (by rw [hv]; rfl)
      have HLX := hid (load32 hd0 hd1 hd2)
      have HIX := hid hlt.1
      have HLT := hid hlt
      have HX := hid hxo
      have hk11 := pk_lt x.kd (n := 10) (by decide)
      obtain ⟨kd, hkd⟩ : ∃ kd, pk x.kd 10 = kd := ⟨_, rfl⟩
      have HKD := hid hkd
      rw [hkd] at hk11
      have HK := hid hk11
      have HP := hid hP
      clear hP hxo hx hv hbl hBw hd0 hd1 hd2 hc0 hc1 hc2 hlt hiN hi hnn hkd hk11
      obtain ⟨go, wa, wb, wc, hal, hsr, hlk, hsc, hlo, hBb, hBc⟩ := scr_any wr x.kd x.pg ((kd : Nat) : Int) v
      have HAL := hid hal
      have HSR := hid hsr
      have HLK := hid hlk
      have HSC := hid hsc
      have HLO := hid hlo
      have HBC := hid hBc
      have HPK2 := hid (pick_any x.kd 10 HX.out.1.1 HX.out.1.2 (by decide) wb)
      rw [HKD.out] at HPK2
      clear hal hsr hlk hsc hlo hBb hBc
      go_upto_region 8 with fail
      refine wp_region_lit ?_
      refine wp_y (v := .slice (some ⟨b, off, none⟩) N cap) rfl rfl (y_move rfl (by kernel_rfl) (by kernel_rfl)) rfl ?_
      try simp only [List.setIfInBounds_toArray, List.set_cons_zero, List.set_cons_succ]
      refine wp_y (v := .int .i64 (i : Nat)) rfl rfl (y_move rfl (by kernel_rfl) (by kernel_rfl)) rfl ?_
      try simp only [List.setIfInBounds_toArray, List.set_cons_zero, List.set_cons_succ]
      refine wp_y (v := .pointer (some ⟨b, off + i * 3, none⟩)) rfl rfl (y_index rfl (by kernel_rfl) (by kernel_rfl) (by kernel_rfl) (idx22 b off N cap i HIX.out)) rfl ?_
      try simp only [List.setIfInBounds_toArray, List.set_cons_zero, List.set_cons_succ]
      refine wp_y (v := .agg #[.int .i64 x.kd, .int .i64 x.pg, cb v]) rfl rfl (y_load rfl (by kernel_rfl) (by kernel_rfl) (fun w' h => by rw [h]; exact HLX.out)) rfl ?_
      try simp only [List.setIfInBounds_toArray, List.set_cons_zero, List.set_cons_succ]
      refine wp_run (v := .pointer (some ⟨go, 0, none⟩)) rfl rfl (run_alOp rfl HAL.out) rfl ?_
      try simp only [List.setIfInBounds_toArray, List.set_cons_zero, List.set_cons_succ]
      refine wp_do rfl rfl (run_storeOp rfl (by kernel_rfl) (by kernel_rfl) HSR.out) ?_
      try simp only [List.setIfInBounds_toArray, List.set_cons_zero, List.set_cons_succ]
      refine wp_end ?_
      go_upto_region 9 with fail
      refine wp_region_lit ?_
      refine wp_y (v := .pointer (some ⟨go, 0, none⟩)) rfl rfl (y_faddr rfl (by kernel_rfl) (by kernel_rfl) (fg32_0 (go) (0))) rfl ?_
      try simp only [List.setIfInBounds_toArray, List.set_cons_zero, List.set_cons_succ]
      refine wp_y (v := .int .i64 x.kd) rfl rfl (y_load rfl (by kernel_rfl) (by kernel_rfl) (fun w' h => by rw [h]; exact HLK.out)) rfl ?_
      try simp only [List.setIfInBounds_toArray, List.set_cons_zero, List.set_cons_succ]
      refine wp_call (f := 12) (args := #[.int .i64 x.kd, .int .i64 10]) (by kernel_rfl) (fun w => by go_simp) ?_
      refine HPK2.out.mono ?_
      rintro e wz ⟨rfl, hwz⟩
      obtain rfl := hwz.symm
      refine ⟨_, rfl, ?_⟩
      dsimp only [Act.put]
      try simp only [List.setIfInBounds_toArray, List.set_cons_zero, List.set_cons_succ]
      refine wp_y (v := .pointer (some ⟨go, 0, none⟩)) rfl rfl (y_faddr rfl (by kernel_rfl) (by kernel_rfl) (fg32_0 (go) (0))) rfl ?_
      try simp only [List.setIfInBounds_toArray, List.set_cons_zero, List.set_cons_succ]
      refine wp_do rfl rfl (run_storeOp rfl (by kernel_rfl) (by kernel_rfl) HSC.out) ?_
      try simp only [List.setIfInBounds_toArray, List.set_cons_zero, List.set_cons_succ]
      refine wp_end ?_
      have HDO := hid (HP.out.does HBC.out HL.out.1 HL.out.2.1 (by have := HLT.out; omega) kd HK.out x.pg v)
      clear HAL HSR HLK HSC HPK2 HLX
      go_upto_region 10 with fail
      refine wp_region_lit ?_
      refine wp_y (v := .pointer (some ⟨p, 0, none⟩)) rfl rfl (y_move rfl (by kernel_rfl) (by kernel_rfl)) rfl ?_
      try simp only [List.setIfInBounds_toArray, List.set_cons_zero, List.set_cons_succ]
      refine wp_y (v := .pointer (some ⟨r, 0, none⟩)) rfl rfl (y_move rfl (by kernel_rfl) (by kernel_rfl)) rfl ?_
      try simp only [List.setIfInBounds_toArray, List.set_cons_zero, List.set_cons_succ]
      refine wp_y (v := .agg #[.int .i64 (kd : Nat), .int .i64 x.pg, cb v]) rfl rfl (y_load rfl (by kernel_rfl) (by kernel_rfl) (fun w' h => by rw [h]; exact HLO.out)) rfl ?_
      try simp only [List.setIfInBounds_toArray, List.set_cons_zero, List.set_cons_succ]
      refine wp_call (f := 15) (args := #[.pointer (some ⟨p, 0, none⟩), .pointer (some ⟨r, 0, none⟩), .agg #[.int .i64 (kd : Nat), .int .i64 x.pg, cb v]]) (by kernel_rfl) (fun w => by go_simp) ?_
      refine HDO.out.mono ?_
      rintro e w4 ⟨rfl, hP4⟩
      refine ⟨_, rfl, ?_⟩
      have HQ := hid hP4
      clear hP4 HDO HLO HBC
      dsimp only [Act.put]
      try simp only [List.setIfInBounds_toArray, List.set_cons_zero, List.set_cons_succ]
      refine wp_end ?_
      go_wp2_with fail
      exact ⟨⟨i + 1, HLT.out.1, HLT.out.2, rfl, HQ.out⟩, by have := HLT.out; simp [intOf]; omega⟩
    · have HCO := hid (hP.commit HL.out.2.1 (by omega))
      clear hP hnn hiN hi hwk
      obtain ⟨b1, hb1⟩ : ∃ b, decide (((i : Nat) : Int) < ((N : Nat) : Int)) = b := ⟨_, rfl⟩
      have HB1 := hid hb1
      have HB2 : Hid (b1 = true → decide (((i : Nat) : Int) < 60) = false) := hid (fun e => by rw [e, decide_eq_true_iff] at hb1; exact decide_eq_false (by omega))
      clear hb1
      go_upto_region 6 with fail
      refine wp_region_lit ?_
      refine wp_y (v := .int .i64 (i : Nat)) rfl rfl (y_move rfl (by kernel_rfl) (by kernel_rfl)) rfl ?_
      try simp only [List.setIfInBounds_toArray, List.set_cons_zero, List.set_cons_succ]
      refine wp_y (v := .slice a N cap) rfl rfl (y_move rfl (by kernel_rfl) (by kernel_rfl)) rfl ?_
      try simp only [List.setIfInBounds_toArray, List.set_cons_zero, List.set_cons_succ]
      refine wp_y (v := .int .i64 (N : Nat)) rfl rfl (y_lenT lenO (p := a) (c := cap) rfl (by kernel_rfl) (by kernel_rfl)) rfl ?_
      try simp only [List.setIfInBounds_toArray, List.set_cons_zero, List.set_cons_succ]
      refine wp_y (v := .bool b1) rfl rfl (y_bin (k := .i64) (k' := .i64) (m := (i : Nat)) (n := (N : Nat)) rfl (by kernel_rfl) (by kernel_rfl) (by kernel_rfl) (qlss _ _ _ HB1.out)) rfl ?_
      try simp only [List.setIfInBounds_toArray, List.set_cons_zero, List.set_cons_succ]
      refine wp_y (v := .bool b1) rfl rfl (y_move rfl (by kernel_rfl) (by kernel_rfl)) rfl ?_
      try simp only [List.setIfInBounds_toArray, List.set_cons_zero, List.set_cons_succ]
      refine wp_yg (v := bif b1 then .int .i64 (i : Nat) else undef) rfl (by
        cases b1
        · exact y_skip (by kernel_rfl) rfl
        · exact y_move rfl (by kernel_rfl) (by kernel_rfl)) rfl ?_
      try simp only [List.setIfInBounds_toArray, List.set_cons_zero, List.set_cons_succ]
      refine wp_yg (v := bif b1 then .bool false else undef) rfl (by
        cases b1
        · exact y_skip (by kernel_rfl) rfl
        · exact y_bin (k := .i64) (k' := .i64) (m := (i : Nat)) (n := 60) rfl (by kernel_rfl) (by kernel_rfl) (by kernel_rfl) (qlss _ _ _ (HB2.out rfl))) rfl ?_
      try simp only [List.setIfInBounds_toArray, List.set_cons_zero, List.set_cons_succ]
      refine wp_y (v := .bool false) rfl rfl (by
        cases b1
        · exact y_pick (b := false) rfl (by kernel_rfl) (by kernel_rfl) (by kernel_rfl)
        · exact y_pick (b := true) rfl (by kernel_rfl) (by kernel_rfl) (by kernel_rfl)) rfl ?_
      try simp only [List.setIfInBounds_toArray, List.set_cons_zero, List.set_cons_succ]
      refine wp_end ?_
      generalize (bif b1 then .int .i64 (i : Nat) else undef) = x49
      generalize (bif b1 then .bool false else undef) = x50
      generalize Value.bool b1 = x48
      clear HB1 HB2
      clear hlt
      go_wp2_with fail
      refine HCO.out.mono ?_
      rintro e w3 ⟨rfl, C, R0, hSc⟩
      obtain ⟨B2, hB2⟩ : ∃ B2, w3.heap.size = B2 := ⟨_, rfl⟩
      have HB2 := hid hB2
      have HSc := hid hSc
      have hb := hSc
      have HCL : Hid (C.length = L ∧ B ≤ B2) := hid (by obtain ⟨s, sq, bl, wa, wo, h1, h2, h3⟩ := hSc; exact ⟨h2, by rw [← hB2]; exact h1.1.Bw⟩)
      clear hSc hB2 hb HCO
      go_wp2_with fail
      go_loopw [14, 15, 16, 17, 18] (fun v14 v15 v16 _ _ wv => ∃ k : Nat, v16 = .int .i64 k ∧ S2 B2 L C k v14 v15 w3 wv) (fun _ _ v16 _ _ _ => L - (intOf v16).toNat)
      case atStart => exact ⟨0, rfl, Below.refl _ _, World.ownsRow_nil _ _ _ _, World.ownsRow_nil _ _ _ _, Nat.zero_le _⟩
      case round =>
        obtain ⟨i, rfl, hS2⟩ := hrel
        have hll := HL.out
        have hik := hS2.2.2.2
        have hwk : IntKind.i64.wrap ((i : Int) + 1) = ((i + 1 : Nat) : Int) := by rw [IntWalk.i64_in _ ⟨by omega, by omega⟩]; omega
        have hSw : Sc W B L C R0 p j d r wr := by
          obtain ⟨s, sq, bl, wa, wo, h1, h2, h3⟩ := HSc.out
          have hb : Below w3.heap.size w3 wr := by rw [HB2.out]; exact hS2.1
          exact ⟨s, sq, bl, wa, wo, h1.below hb, h2, h3.trans (hb.mono h1.1.Bw)⟩
        have hpg : Calls Tryz.prog 29 #[.pointer (some ⟨p, 0, none⟩)] wr fun e w' => e = .returned (.int .i64 (L : Nat)) ∧ w' = wr := by
          obtain ⟨s, sq, bl, wa, wo, h1, h2, h3⟩ := hSw
          have h := h1.1.pages
          rw [h2] at h
          exact h
        have HPG := hid hpg
        have HSw := hid hSw
        have HS2 := hid hS2
        have HWB : Hid (B2 ≤ wr.heap.size) := hid (by rw [← HB2.out]; exact hS2.1.size)
        clear hpg hSw hS2
        by_cases hlt : i < L
        · have hlt' : (i : Int) < (L : Int) := by omega
          have HIX := hid hlt
          clear hlt hik hll
          go_wp2_with fail
          refine HPG.out.mono ?_
          rintro e wz ⟨rfl, hwz⟩
          obtain rfl := hwz.symm
          clear HPG
          obtain ⟨l1, hl1⟩ : ∃ l, pgB C (i : Nat) = l := ⟨_, rfl⟩
          obtain ⟨e1, he1⟩ : ∃ l, pgE C (i : Nat) = l := ⟨_, rfl⟩
          have hrd : Calls Tryz.prog 23 #[.pointer (some ⟨p, 0, none⟩), .int .i64 (i : Nat)] wr fun e w' => ∃ v, e = .returned (.tuple #[v, .int .i64 e1]) ∧ Red wr w' l1 v := by
            obtain ⟨s, sq, bl, wa, wo, h1, h2, h3⟩ := HSw.out
            have h := h1.1.readAny (i : Nat)
            rw [hl1, he1] at h
            exact h
          have HRE := hid hrd
          have HPE := hid (And.intro hl1 he1)
          clear hrd hl1 he1
          go_wp2_with fail
          refine HRE.out.mono ?_
          rintro e w4 ⟨v, rfl, hR4⟩
          have HSL := hid hR4.sl
          have h2 := HS2.out
          have hwb4 : B2 ≤ w4.heap.size := Nat.le_trans HWB.out hR4.1.size
          have hll := HL.out
          have hlt := HIX.out
          obtain ⟨v', w5, hap, hT5, hB5, hO5⟩ := more_row Tryz.underlying62 infoS rfl (by decide) (h2.2.1.kr (Kr.of_below hR4.1)) rfl (by omega) hwb4 62
          have hwb5 : B2 ≤ w5.heap.size := Nat.le_trans hwb4 hB5.size
          have hE5 : Ex w5 B2 u15 i C := owns_oth (h2.2.2.1.kr (Kr.of_below hR4.1)) hO5 (by decide)
          obtain ⟨v'', w6, hap2, hE6, hB6, hO6⟩ := more_row Tryz.underlying63 infoE rfl (by decide) hE5 rfl (by omega) hwb5 63
          have hT6 : Tx w6 B2 v' (i + 1) C := owns_oth hT5 hO6 (by decide)
          have HZ : Hid (S2 B2 L C (i + 1) v' v'' w3 w6) := hid ⟨((h2.1.trans (hR4.1.mono HWB.out)).trans hB5).trans hB6, hT6, hE6, by omega⟩
          have hbs := bsS w4 l1
          have hbs2 := bsE w5 e1
          rw [HPE.out.1] at hap
          rw [HPE.out.2] at hap2
          obtain ⟨g7, hg7⟩ : ∃ g, w4.heap.size = g := ⟨_, rfl⟩
          obtain ⟨g8, hg8⟩ : ∃ g, w5.heap.size = g := ⟨_, rfl⟩
          rw [hg7] at hbs hap
          rw [hg8] at hbs2 hap2
          generalize w4.alloc (.cells #[strV l1] 9) = wx at *
          generalize w5.alloc (.cells #[.int .i64 e1] 33) = wy at *
          have HBS := hid hbs
          have HBS2 := hid hbs2
          have HAP := hid hap
          have HAP2 := hid hap2
          clear hR4 h2 hwb4 hll hlt hap hT5 hB5 hO5 hwb5 hE5 hap2 hE6 hB6 hO6 hT6 hbs hbs2 hg7 hg8 HRE HPE HSw HS2 HWB
          go_upto_region 19 with fail
          refine wp_region_lit ?_
          refine wp_y (v := u14) rfl rfl (y_move rfl (by kernel_rfl) (by kernel_rfl)) rfl ?_
          try simp only [List.setIfInBounds_toArray, List.set_cons_zero, List.set_cons_succ]
          refine wp_y (v := v) rfl rfl (y_move rfl (by kernel_rfl) (by kernel_rfl)) rfl ?_
          try simp only [List.setIfInBounds_toArray, List.set_cons_zero, List.set_cons_succ]
          refine wp_y (v := strV l1) rfl rfl (y_convS rfl (by kernel_rfl) (by kernel_rfl) (fun w' h => by rw [h]; exact conv_sl HSL.out)) rfl ?_
          try simp only [List.setIfInBounds_toArray, List.set_cons_zero, List.set_cons_succ]
          refine wp_run (v := .slice (some ⟨g7, 0, none⟩) 1 1) rfl rfl (run_bsOp rfl (by kernel_rfl) HBS.out) rfl ?_
          try simp only [List.setIfInBounds_toArray, List.set_cons_zero, List.set_cons_succ]
          refine wp_run (v := v') rfl rfl (run_appOp rfl (by kernel_rfl) (by kernel_rfl) HAP.out) rfl ?_
          try simp only [List.setIfInBounds_toArray, List.set_cons_zero, List.set_cons_succ]
          refine wp_y (v := v') rfl rfl (y_assign rfl (by kernel_rfl) (by kernel_rfl)) rfl ?_
          try simp only [List.setIfInBounds_toArray, List.set_cons_zero, List.set_cons_succ]
          refine wp_end ?_
          go_upto_region 20 with fail
          refine wp_region_lit ?_
          refine wp_y (v := u15) rfl rfl (y_move rfl (by kernel_rfl) (by kernel_rfl)) rfl ?_
          try simp only [List.setIfInBounds_toArray, List.set_cons_zero, List.set_cons_succ]
          refine wp_y (v := .int .i64 e1) rfl rfl (y_move rfl (by kernel_rfl) (by kernel_rfl)) rfl ?_
          try simp only [List.setIfInBounds_toArray, List.set_cons_zero, List.set_cons_succ]
          refine wp_run (v := .slice (some ⟨g8, 0, none⟩) 1 1) rfl rfl (run_bsOp rfl (by kernel_rfl) HBS2.out) rfl ?_
          try simp only [List.setIfInBounds_toArray, List.set_cons_zero, List.set_cons_succ]
          refine wp_run (v := v'') rfl rfl (run_appOp rfl (by kernel_rfl) (by kernel_rfl) HAP2.out) rfl ?_
          try simp only [List.setIfInBounds_toArray, List.set_cons_zero, List.set_cons_succ]
          refine wp_y (v := v'') rfl rfl (y_assign rfl (by kernel_rfl) (by kernel_rfl)) rfl ?_
          try simp only [List.setIfInBounds_toArray, List.set_cons_zero, List.set_cons_succ]
          refine wp_end ?_
          go_wp2_with fail
          exact ⟨⟨i + 1, rfl, HZ.out⟩, by have := HIX.out; simp [intOf]; omega⟩
        · have hiL : i = L := by omega
          subst i
          have hlt' : ¬ (L : Int) < (L : Int) := by omega
          obtain ⟨nc, hnc⟩ : ∃ m, nf C = m := ⟨_, rfl⟩
          have HNC := hid hnc
          have hrp : Calls Tryz.prog 35 #[.pointer (some ⟨p, 0, none⟩)] wr fun e w' => e = .returned (.int .i64 R0) ∧ w' = wr := by
            obtain ⟨s, sq, bl, wa, wo, h1, h2, h3⟩ := HSw.out
            exact h1.1.root
          have hlp : Calls Tryz.prog 26 #[.pointer (some ⟨p, 0, none⟩)] wr fun e w' => e = .returned (.int .i64 (nc : Nat)) ∧ w' = wr := by
            obtain ⟨s, sq, bl, wa, wo, h1, h2, h3⟩ := HSw.out
            have h := h1.1.left
            rw [hnc] at h
            exact h
          have HRP := hid hrp
          have HLP := hid hlp
          obtain ⟨g14, c14, rfl, _⟩ := HS2.out.2.1.at HL.out.1
          obtain ⟨g15, c15, rfl, _⟩ := HS2.out.2.2.1.at HL.out.1
          have HSr : Hid (Sr W B L C R0 p j d r (.slice (some ⟨g14, 0, none⟩) L c14) (.slice (some ⟨g15, 0, none⟩) L c15) wr) := hid (by
            obtain ⟨s, sq, bl, wa, wo, h1, h2, h3⟩ := HSw.out
            have hs := HS2.out
            exact ⟨⟨s, sq, bl, C, R0, wa, wo, h1, h2⟩, owns_mono hs.2.1 HCL.out.2, owns_mono hs.2.2.1 HCL.out.2, h3⟩)
          clear hlt hik hll hwk hrp hlp hnc HSw HS2 HWB HSc HB2
          go_wp2_with fail
          refine HPG.out.mono ?_
          rintro e wz ⟨rfl, hwz⟩
          obtain rfl := hwz.symm
          clear HPG
          go_wp2_with fail
          refine HRP.out.mono ?_
          rintro e wz ⟨rfl, hwz⟩
          obtain rfl := hwz.symm
          clear HRP
          go_wp2_with fail
          refine HLP.out.mono ?_
          rintro e wz ⟨rfl, hwz⟩
          obtain rfl := hwz.symm
          clear HLP
          go_wp2_with fail
          go_loopw [21, 22] (fun v21 _ wv => ∃ i : Nat, i ≤ N2 ∧ i ≤ 60 ∧ v21 = .int .i64 i ∧ Sr W B L C R0 p j d r (.slice (some ⟨g14, 0, none⟩) L c14) (.slice (some ⟨g15, 0, none⟩) L c15) wv) (fun v21 _ _ => 60 - (intOf v21).toNat)
          case atStart => exact ⟨0, Nat.zero_le _, Nat.zero_le _, rfl, HSr.out⟩
          case round =>
            clear HSr
            obtain ⟨i, hiN, hi, rfl, hP⟩ := hrel
            have hnn := HNN2.out
            have hwk : IntKind.i64.wrap ((i : Int) + 1) = ((i + 1 : Nat) : Int) := by rw [IntWalk.i64_in _ ⟨by omega, by omega⟩]; omega
            by_cases hlt : i < N2 ∧ i < 60
            · have hlt1 : (i : Int) < (N2 : Int) := by omega
              have hlt2 : (i : Int) < 60 := by omega
              obtain ⟨x, hx⟩ : ∃ x, xs2[i]? = some x := ⟨_, List.getElem?_eq_getElem (by have := HSC2.out.1; omega)⟩
              obtain ⟨hxo, b, off, rfl, hc0, hc1, hc2⟩ := HSC2.out.2 i x hx
              obtain ⟨v, hv⟩ := byte_of hxo.2.2
              have hbl : b < B := by have h1 : b < W.heap.size := World.block_lt_of_cell? W _ hc0; have := HB.out; omega
              have hBw := hP.2.2.2
              rw [← Nat.add_assoc] at hc1 hc2
              have hd0 : wr.cell? ⟨b, off + i * 3, none⟩ = some (.int .i64 x.kd) := (hBw.cell (p := ⟨b, off + i * 3, none⟩) hbl).trans hc0
              have hd1 : wr.cell? ⟨b, off + i * 3 + 1, none⟩ = some (.int .i64 x.pg) := (hBw.cell (p := ⟨b, off + i * 3 + 1, none⟩) hbl).trans hc1
              have hd2 : wr.cell? ⟨b, off + i * 3 + 2, none⟩ = some (cb v) := ((hBw.cell (p := ⟨b, off + i * 3 + 2, none⟩) hbl).trans hc2).trans (by rw [hv]; rfl)
              have HLX := hid (load32 hd0 hd1 hd2)
              have HIX := hid hlt.1
              have HLT := hid hlt
              have HX := hid hxo
              have hk11 := pk_lt x.kd (n := 7) (by decide)
              obtain ⟨kd, hkd⟩ : ∃ kd, pk x.kd 7 = kd := ⟨_, rfl⟩
              have HKD := hid hkd
              rw [hkd] at hk11
              have HK := hid hk11
              have HP := hid hP
              clear hP hxo hx hv hbl hBw hd0 hd1 hd2 hc0 hc1 hc2 hlt hiN hi hnn hkd hk11
              obtain ⟨go, wa, wb, wc, hal, hsr, hlk, hsc, hlo, hBb, hBc⟩ := scr_any wr x.kd x.pg ((kd : Nat) : Int) v
              have HAL := hid hal
              have HSR := hid hsr
              have HLK := hid hlk
              have HSC := hid hsc
              have HLO := hid hlo
              have HBC := hid hBc
              have HPK2 := hid (pick_any x.kd 7 HX.out.1.1 HX.out.1.2 (by decide) wb)
              rw [HKD.out] at HPK2
              clear hal hsr hlk hsc hlo hBb hBc
              go_upto_region 26 with fail
              refine wp_region_lit ?_
              refine wp_y (v := .slice (some ⟨b, off, none⟩) N2 cap2) rfl rfl (y_move rfl (by kernel_rfl) (by kernel_rfl)) rfl ?_
              try simp only [List.setIfInBounds_toArray, List.set_cons_zero, List.set_cons_succ]
              refine wp_y (v := .int .i64 (i : Nat)) rfl rfl (y_move rfl (by kernel_rfl) (by kernel_rfl)) rfl ?_
              try simp only [List.setIfInBounds_toArray, List.set_cons_zero, List.set_cons_succ]
              refine wp_y (v := .pointer (some ⟨b, off + i * 3, none⟩)) rfl rfl (y_index rfl (by kernel_rfl) (by kernel_rfl) (by kernel_rfl) (idx22 b off N2 cap2 i HIX.out)) rfl ?_
              try simp only [List.setIfInBounds_toArray, List.set_cons_zero, List.set_cons_succ]
              refine wp_y (v := .agg #[.int .i64 x.kd, .int .i64 x.pg, cb v]) rfl rfl (y_load rfl (by kernel_rfl) (by kernel_rfl) (fun w' h => by rw [h]; exact HLX.out)) rfl ?_
              try simp only [List.setIfInBounds_toArray, List.set_cons_zero, List.set_cons_succ]
              refine wp_run (v := .pointer (some ⟨go, 0, none⟩)) rfl rfl (run_alOp rfl HAL.out) rfl ?_
              try simp only [List.setIfInBounds_toArray, List.set_cons_zero, List.set_cons_succ]
              refine wp_do rfl rfl (run_storeOp rfl (by kernel_rfl) (by kernel_rfl) HSR.out) ?_
              try simp only [List.setIfInBounds_toArray, List.set_cons_zero, List.set_cons_succ]
              refine wp_end ?_
              go_upto_region 27 with fail
              refine wp_region_lit ?_
              refine wp_y (v := .pointer (some ⟨go, 0, none⟩)) rfl rfl (y_faddr rfl (by kernel_rfl) (by kernel_rfl) (fg32_0 (go) (0))) rfl ?_
              try simp only [List.setIfInBounds_toArray, List.set_cons_zero, List.set_cons_succ]
              refine wp_y (v := .int .i64 x.kd) rfl rfl (y_load rfl (by kernel_rfl) (by kernel_rfl) (fun w' h => by rw [h]; exact HLK.out)) rfl ?_
              try simp only [List.setIfInBounds_toArray, List.set_cons_zero, List.set_cons_succ]
              refine wp_call (f := 12) (args := #[.int .i64 x.kd, .int .i64 7]) (by kernel_rfl) (fun w => by go_simp) ?_
              refine HPK2.out.mono ?_
              rintro e wz ⟨rfl, hwz⟩
              obtain rfl := hwz.symm
              refine ⟨_, rfl, ?_⟩
              dsimp only [Act.put]
              try simp only [List.setIfInBounds_toArray, List.set_cons_zero, List.set_cons_succ]
              refine wp_y (v := .pointer (some ⟨go, 0, none⟩)) rfl rfl (y_faddr rfl (by kernel_rfl) (by kernel_rfl) (fg32_0 (go) (0))) rfl ?_
              try simp only [List.setIfInBounds_toArray, List.set_cons_zero, List.set_cons_succ]
              refine wp_do rfl rfl (run_storeOp rfl (by kernel_rfl) (by kernel_rfl) HSC.out) ?_
              try simp only [List.setIfInBounds_toArray, List.set_cons_zero, List.set_cons_succ]
              refine wp_end ?_
              have HDO := hid (HP.out.does HBC.out HL.out.1 kd HK.out x.pg v)
              clear HAL HSR HLK HSC HPK2 HLX
              go_upto_region 28 with fail
              refine wp_region_lit ?_
              refine wp_y (v := .pointer (some ⟨p, 0, none⟩)) rfl rfl (y_move rfl (by kernel_rfl) (by kernel_rfl)) rfl ?_
              try simp only [List.setIfInBounds_toArray, List.set_cons_zero, List.set_cons_succ]
              refine wp_y (v := .pointer (some ⟨r, 0, none⟩)) rfl rfl (y_move rfl (by kernel_rfl) (by kernel_rfl)) rfl ?_
              try simp only [List.setIfInBounds_toArray, List.set_cons_zero, List.set_cons_succ]
              refine wp_y (v := .agg #[.int .i64 (kd : Nat), .int .i64 x.pg, cb v]) rfl rfl (y_load rfl (by kernel_rfl) (by kernel_rfl) (fun w' h => by rw [h]; exact HLO.out)) rfl ?_
              try simp only [List.setIfInBounds_toArray, List.set_cons_zero, List.set_cons_succ]
              refine wp_call (f := 15) (args := #[.pointer (some ⟨p, 0, none⟩), .pointer (some ⟨r, 0, none⟩), .agg #[.int .i64 (kd : Nat), .int .i64 x.pg, cb v]]) (by kernel_rfl) (fun w => by go_simp) ?_
              refine HDO.out.mono ?_
              rintro e w4 ⟨rfl, hP4⟩
              refine ⟨_, rfl, ?_⟩
              have HQ := hid hP4
              clear hP4 HDO HLO HBC
              dsimp only [Act.put]
              try simp only [List.setIfInBounds_toArray, List.set_cons_zero, List.set_cons_succ]
              refine wp_end ?_
              go_wp2_with fail
              exact ⟨⟨i + 1, HLT.out.1, HLT.out.2, rfl, HQ.out⟩, by have := HLT.out; simp [intOf]; omega⟩
            · have hnn2 := hnn
              clear hnn hiN hi hwk
              obtain ⟨b1, hb1⟩ : ∃ b, decide (((i : Nat) : Int) < ((N2 : Nat) : Int)) = b := ⟨_, rfl⟩
              have HB1 := hid hb1
              have HB2 : Hid (b1 = true → decide (((i : Nat) : Int) < 60) = false) := hid (fun e => by rw [e, decide_eq_true_iff] at hb1; exact decide_eq_false (by omega))
              clear hb1
              go_upto_region 24 with fail
              refine wp_region_lit ?_
              refine wp_y (v := .int .i64 (i : Nat)) rfl rfl (y_move rfl (by kernel_rfl) (by kernel_rfl)) rfl ?_
              try simp only [List.setIfInBounds_toArray, List.set_cons_zero, List.set_cons_succ]
              refine wp_y (v := .slice a2 N2 cap2) rfl rfl (y_move rfl (by kernel_rfl) (by kernel_rfl)) rfl ?_
              try simp only [List.setIfInBounds_toArray, List.set_cons_zero, List.set_cons_succ]
              refine wp_y (v := .int .i64 (N2 : Nat)) rfl rfl (y_lenT lenO (p := a2) (c := cap2) rfl (by kernel_rfl) (by kernel_rfl)) rfl ?_
              try simp only [List.setIfInBounds_toArray, List.set_cons_zero, List.set_cons_succ]
              refine wp_y (v := .bool b1) rfl rfl (y_bin (k := .i64) (k' := .i64) (m := (i : Nat)) (n := (N2 : Nat)) rfl (by kernel_rfl) (by kernel_rfl) (by kernel_rfl) (qlss _ _ _ HB1.out)) rfl ?_
              try simp only [List.setIfInBounds_toArray, List.set_cons_zero, List.set_cons_succ]
              refine wp_y (v := .bool b1) rfl rfl (y_move rfl (by kernel_rfl) (by kernel_rfl)) rfl ?_
              try simp only [List.setIfInBounds_toArray, List.set_cons_zero, List.set_cons_succ]
              refine wp_yg (v := bif b1 then .int .i64 (i : Nat) else undef) rfl (by
                cases b1
                · exact y_skip (by kernel_rfl) rfl
                · exact y_move rfl (by kernel_rfl) (by kernel_rfl)) rfl ?_
              try simp only [List.setIfInBounds_toArray, List.set_cons_zero, List.set_cons_succ]
              refine wp_yg (v := bif b1 then .bool false else undef) rfl (by
                cases b1
                · exact y_skip (by kernel_rfl) rfl
                · exact y_bin (k := .i64) (k' := .i64) (m := (i : Nat)) (n := 60) rfl (by kernel_rfl) (by kernel_rfl) (by kernel_rfl) (qlss _ _ _ (HB2.out rfl))) rfl ?_
              try simp only [List.setIfInBounds_toArray, List.set_cons_zero, List.set_cons_succ]
              refine wp_y (v := .bool false) rfl rfl (by
                cases b1
                · exact y_pick (b := false) rfl (by kernel_rfl) (by kernel_rfl) (by kernel_rfl)
                · exact y_pick (b := true) rfl (by kernel_rfl) (by kernel_rfl) (by kernel_rfl)) rfl ?_
              try simp only [List.setIfInBounds_toArray, List.set_cons_zero, List.set_cons_succ]
              refine wp_end ?_
              generalize (bif b1 then .int .i64 (i : Nat) else undef) = x99
              generalize (bif b1 then .bool false else undef) = x100
              generalize Value.bool b1 = x98
              clear HB1 HB2
              have HOP := hid hP.open
              clear hP hnn2
              clear hlt
              go_wp2_with fail
              refine HOP.out.mono ?_
              rintro e w6 ⟨q, rfl, hC⟩
              have HAB := hid hC
              clear hC HOP
              go_wp2_with fail
              refine HAB.out.mono ?_
              rintro e w7 ⟨rfl, hS7⟩
              have HSQ := hid hS7
              have hrp : Calls Tryz.prog 35 #[.pointer (some ⟨p, 0, none⟩)] w7 fun e w' => e = .returned (.int .i64 R0) ∧ w' = w7 := by
                obtain ⟨⟨j, d, s, sq, bl, h1⟩, _⟩ := hS7
                exact h1.root
              have hrq : Calls Tryz.prog 35 #[.pointer (some ⟨q, 0, none⟩)] w7 fun e w' => e = .returned (.int .i64 R0) ∧ w' = w7 := by
                obtain ⟨_, ⟨j, d, s, sq, bl, h1⟩, _⟩ := hS7
                exact h1.root
              have hlp : Calls Tryz.prog 26 #[.pointer (some ⟨p, 0, none⟩)] w7 fun e w' => e = .returned (.int .i64 (nc : Nat)) ∧ w' = w7 := by
                obtain ⟨⟨j, d, s, sq, bl, h1⟩, _⟩ := hS7
                have h := h1.left
                rw [HNC.out] at h
                exact h
              have hlq : Calls Tryz.prog 26 #[.pointer (some ⟨q, 0, none⟩)] w7 fun e w' => e = .returned (.int .i64 (nc : Nat)) ∧ w' = w7 := by
                obtain ⟨_, ⟨j, d, s, sq, bl, h1⟩, _⟩ := hS7
                have h := h1.left
                rw [HNC.out] at h
                exact h
              have HRP := hid hrp
              have HRQ := hid hrq
              have HLP := hid hlp
              have HLQ := hid hlq
              clear hrp hrq hlp hlq hS7 HAB
              go_wp2_with fail
              refine HRP.out.mono ?_
              rintro e wz ⟨rfl, hwz⟩
              obtain rfl := hwz.symm
              clear HRP
              go_wp2_with fail
              refine HLP.out.mono ?_
              rintro e wz ⟨rfl, hwz⟩
              obtain rfl := hwz.symm
              clear HLP
              go_wp2_with fail
              refine HRQ.out.mono ?_
              rintro e wz ⟨rfl, hwz⟩
              obtain rfl := hwz.symm
              clear HRQ
              go_wp2_with fail
              refine HLQ.out.mono ?_
              rintro e wz ⟨rfl, hwz⟩
              obtain rfl := hwz.symm
              clear HLQ
              go_wp2_with fail
              go_loopw [25, 26, 27, 28, 29] (fun v25 _ _ _ _ wv => ∃ i : Nat, i ≤ L ∧ v25 = .int .i64 i ∧ Sq W B L C R0 p q (.slice (some ⟨g14, 0, none⟩) L c14) (.slice (some ⟨g15, 0, none⟩) L c15) wv) (fun v25 _ _ _ _ _ => L - (intOf v25).toNat)
              case atStart => exact ⟨0, Nat.zero_le _, rfl, HSQ.out⟩
              case round =>
                clear HSQ
                obtain ⟨i, hi, rfl, hS4⟩ := hrel
                have hll := HL.out
                have hwk : IntKind.i64.wrap ((i : Int) + 1) = ((i + 1 : Nat) : Int) := by rw [IntWalk.i64_in _ ⟨by omega, by omega⟩]; omega
                have hpg : Calls Tryz.prog 29 #[.pointer (some ⟨p, 0, none⟩)] wr fun e w' => e = .returned (.int .i64 (L : Nat)) ∧ w' = wr := by
                  obtain ⟨⟨j, d, s, sq, bl, h1⟩, _, _, _, h5, _⟩ := hS4
                  have h := h1.pages
                  rw [h5] at h
                  exact h
                have HPG := hid hpg
                have HS4 := hid hS4
                clear hpg hS4
                by_cases hlt : i < L
                · have hlt' : (i : Int) < (L : Int) := by omega
                  have HIX := hid hlt
                  clear hlt hi hll
                  go_wp2_with fail
                  refine HPG.out.mono ?_
                  rintro e wz ⟨rfl, hwz⟩
                  obtain rfl := hwz.symm
                  clear HPG
                  obtain ⟨l1, hl1⟩ : ∃ l, pgB C (i : Nat) = l := ⟨_, rfl⟩
                  obtain ⟨e1, he1⟩ : ∃ l, pgE C (i : Nat) = l := ⟨_, rfl⟩
                  have hrd : Calls Tryz.prog 23 #[.pointer (some ⟨p, 0, none⟩), .int .i64 (i : Nat)] wr fun e w' => ∃ v, e = .returned (.tuple #[v, .int .i64 e1]) ∧ Red wr w' l1 v := by
                    obtain ⟨⟨j, d, s, sq, bl, h1⟩, _⟩ := HS4.out
                    have h := h1.readAny (i : Nat)
                    rw [hl1, he1] at h
                    exact h
                  have HRE := hid hrd
                  have HPE := hid (And.intro hl1 he1)
                  clear hrd hl1 he1
                  go_wp2_with fail
                  refine HRE.out.mono ?_
                  rintro e w3 ⟨v, rfl, hR3⟩
                  have hS3 := HS4.out.below hR3.1
                  have hrd : Calls Tryz.prog 23 #[.pointer (some ⟨q, 0, none⟩), .int .i64 (i : Nat)] w3 fun e w' => ∃ v, e = .returned (.tuple #[v, .int .i64 e1]) ∧ Red w3 w' l1 v := by
                    obtain ⟨_, ⟨j, d, s, sq, bl, h1⟩, _⟩ := hS3
                    have h := h1.readAny (i : Nat)
                    rw [HPE.out.1, HPE.out.2] at h
                    exact h
                  have HRE2 := hid hrd
                  have HS3 := hid hS3
                  have HSL0 := hid hR3.sl
                  clear hrd hS3 hR3 HRE HS4
                  go_wp2_with fail
                  refine HRE2.out.mono ?_
                  rintro e w4 ⟨v2, rfl, hR4⟩
                  have hS5 := HS3.out.below hR4.1
                  have hd : Below w4.heap.size w4 w4.drew := (Below.refl _ _).drew
                  have hS6 := hS5.below hd
                  have HSL1 := hid ((HSL0.out.below hR4.1).below hd)
                  have HSL2 := hid (hR4.sl.below hd)
                  obtain ⟨g, c, he, ht⟩ := hS6.2.2.1.at HL.out.1
                  obtain ⟨g', c', he', hE⟩ := hS6.2.2.2.1.at HL.out.1
                  have hts := ht i HIX.out
                  have htE := hE i HIX.out
                  rw [HPE.out.1] at hts
                  rw [HPE.out.2] at htE
                  cases he
                  cases he'
                  have HLS := hid (load1 Tryz.isAgg9 hts)
                  have HLE := hid (load1 Tryz.isAgg33 htE)
                  have HS6 := hid hS6
                  clear hS5 hd hS6 hR4 ht hE hts htE HRE2 HS3 HSL0 HPE
                  go_upto_region 38 with fail
                  refine h_openL (S := fun w' => w' = w4.drew) (by kernel_rfl) (by kernel_rfl) (fun _ _ _ _ _ h => h) (L := #[false, false, false, false, false, false, false, false, false, false, false, false, false, false, false, false, false, false, false, false, false, false, false, false, false, false, false, false, false, false, false, false]) (by kernel_rfl) ?_
                  intro Q' hns hP hN
                  have hS := (rfl : w4.drew = w4.drew)
                  try simp only [List.setIfInBounds_toArray, List.set_cons_zero, List.set_cons_succ]
                  refine h_takeL (i := 0) (v := v) hns rfl rfl (by kernel_rfl) (by kernel_rfl) hP (y_move rfl (by kernel_rfl) (by kernel_rfl)) hS rfl (L' := #[true, false, false, false, false, false, false, false, false, false, false, false, false, false, false, false, false, false, false, false, false, false, false, false, false, false, false, false, false, false, false, false]) (by kernel_rfl) ?_
                  try simp only [List.setIfInBounds_toArray, List.set_cons_zero, List.set_cons_succ]
                  refine h_takeL (i := 1) (v := strV l1) hns rfl rfl (by kernel_rfl) (by kernel_rfl) hP (y_convS rfl (by kernel_rfl) (by kernel_rfl) (fun w' h => by rw [h]; exact conv_sl HSL1.out)) hS rfl (L' := #[true, true, false, false, false, false, false, false, false, false, false, false, false, false, false, false, false, false, false, false, false, false, false, false, false, false, false, false, false, false, false, false]) (by kernel_rfl) ?_
                  try simp only [List.setIfInBounds_toArray, List.set_cons_zero, List.set_cons_succ]
                  refine h_takeL (i := 2) (v := .slice (some ⟨g14, 0, none⟩) L c14) hns rfl rfl (by kernel_rfl) (by kernel_rfl) hP (y_move rfl (by kernel_rfl) (by kernel_rfl)) hS rfl (L' := #[true, true, true, false, false, false, false, false, false, false, false, false, false, false, false, false, false, false, false, false, false, false, false, false, false, false, false, false, false, false, false, false]) (by kernel_rfl) ?_
                  try simp only [List.setIfInBounds_toArray, List.set_cons_zero, List.set_cons_succ]
                  refine h_takeL (i := 3) (v := .int .i64 (i : Nat)) hns rfl rfl (by kernel_rfl) (by kernel_rfl) hP (y_move rfl (by kernel_rfl) (by kernel_rfl)) hS rfl (L' := #[true, true, true, true, false, false, false, false, false, false, false, false, false, false, false, false, false, false, false, false, false, false, false, false, false, false, false, false, false, false, false, false]) (by kernel_rfl) ?_
                  try simp only [List.setIfInBounds_toArray, List.set_cons_zero, List.set_cons_succ]
                  refine h_takeL (i := 4) (v := .pointer (some ⟨g14, i, none⟩)) hns rfl rfl (by kernel_rfl) (by kernel_rfl) hP (y_index rfl (by kernel_rfl) (by kernel_rfl) (by kernel_rfl) (idxS g14 L c14 i HIX.out)) hS rfl (L' := #[true, true, true, true, true, false, false, false, false, false, false, false, false, false, false, false, false, false, false, false, false, false, false, false, false, false, false, false, false, false, false, false]) (by kernel_rfl) ?_
                  try simp only [List.setIfInBounds_toArray, List.set_cons_zero, List.set_cons_succ]
                  refine h_takeL (i := 5) (v := strV l1) hns rfl rfl (by kernel_rfl) (by kernel_rfl) hP (y_load rfl (by kernel_rfl) (by kernel_rfl) (fun w' h => by rw [h]; exact HLS.out)) hS rfl (L' := #[true, true, true, true, true, true, false, false, false, false, false, false, false, false, false, false, false, false, false, false, false, false, false, false, false, false, false, false, false, false, false, false]) (by kernel_rfl) ?_
                  try simp only [List.setIfInBounds_toArray, List.set_cons_zero, List.set_cons_succ]
                  refine h_takeL (i := 6) (v := .bool false) hns rfl rfl (by kernel_rfl) (by kernel_rfl) hP (y_neqS (l := l1) (m := l1) rfl (by kernel_rfl) (by kernel_rfl) (by kernel_rfl) (decide_eq_false (fun h => h rfl))) hS rfl (L' := #[true, true, true, true, true, true, true, false, false, false, false, false, false, false, false, false, false, false, false, false, false, false, false, false, false, false, false, false, false, false, false, false]) (by kernel_rfl) ?_
                  try simp only [List.setIfInBounds_toArray, List.set_cons_zero, List.set_cons_succ]
                  refine h_takeL (i := 7) (v := .bool false) hns rfl rfl (by kernel_rfl) (by kernel_rfl) hP (y_move rfl (by kernel_rfl) (by kernel_rfl)) hS rfl (L' := #[true, true, true, true, true, true, true, true, false, false, false, false, false, false, false, false, false, false, false, false, false, false, false, false, false, false, false, false, false, false, false, false]) (by kernel_rfl) ?_
                  try simp only [List.setIfInBounds_toArray, List.set_cons_zero, List.set_cons_succ]
                  refine h_takeL (i := 8) (v := .int .i64 e1) hns rfl rfl (by kernel_rfl) (by kernel_rfl) hP (y_move rfl (by kernel_rfl) (by kernel_rfl)) hS rfl (L' := #[true, true, true, true, true, true, true, true, true, false, false, false, false, false, false, false, false, false, false, false, false, false, false, false, false, false, false, false, false, false, false, false]) (by kernel_rfl) ?_
                  try simp only [List.setIfInBounds_toArray, List.set_cons_zero, List.set_cons_succ]
                  refine h_takeL (i := 9) (v := .slice (some ⟨g15, 0, none⟩) L c15) hns rfl rfl (by kernel_rfl) (by kernel_rfl) hP (y_move rfl (by kernel_rfl) (by kernel_rfl)) hS rfl (L' := #[true, true, true, true, true, true, true, true, true, true, false, false, false, false, false, false, false, false, false, false, false, false, false, false, false, false, false, false, false, false, false, false]) (by kernel_rfl) ?_
                  try simp only [List.setIfInBounds_toArray, List.set_cons_zero, List.set_cons_succ]
                  refine h_takeL (i := 10) (v := .int .i64 (i : Nat)) hns rfl rfl (by kernel_rfl) (by kernel_rfl) hP (y_move rfl (by kernel_rfl) (by kernel_rfl)) hS rfl (L' := #[true, true, true, true, true, true, true, true, true, true, true, false, false, false, false, false, false, false, false, false, false, false, false, false, false, false, false, false, false, false, false, false]) (by kernel_rfl) ?_
                  try simp only [List.setIfInBounds_toArray, List.set_cons_zero, List.set_cons_succ]
                  refine h_takeL (i := 11) (v := .pointer (some ⟨g15, i, none⟩)) hns rfl rfl (by kernel_rfl) (by kernel_rfl) hP (y_index rfl (by kernel_rfl) (by kernel_rfl) (by kernel_rfl) (idxE g15 L c15 i HIX.out)) hS rfl (L' := #[true, true, true, true, true, true, true, true, true, true, true, true, false, false, false, false, false, false, false, false, false, false, false, false, false, false, false, false, false, false, false, false]) (by kernel_rfl) ?_
                  try simp only [List.setIfInBounds_toArray, List.set_cons_zero, List.set_cons_succ]
                  refine h_takeL (i := 12) (v := .int .i64 e1) hns rfl rfl (by kernel_rfl) (by kernel_rfl) hP (y_load rfl (by kernel_rfl) (by kernel_rfl) (fun w' h => by rw [h]; exact HLE.out)) hS rfl (L' := #[true, true, true, true, true, true, true, true, true, true, true, true, true, false, false, false, false, false, false, false, false, false, false, false, false, false, false, false, false, false, false, false]) (by kernel_rfl) ?_
                  try simp only [List.setIfInBounds_toArray, List.set_cons_zero, List.set_cons_succ]
                  refine h_takeL (i := 13) (v := .bool false) hns rfl rfl (by kernel_rfl) (by kernel_rfl) hP (y_bin (k := .i64) (k' := .i64) (m := e1) (n := e1) rfl (by kernel_rfl) (by kernel_rfl) (by kernel_rfl) (neqE _ _ _ (bne_self_eq_false _))) hS rfl (L' := #[true, true, true, true, true, true, true, true, true, true, true, true, true, true, false, false, false, false, false, false, false, false, false, false, false, false, false, false, false, false, false, false]) (by kernel_rfl) ?_
                  try simp only [List.setIfInBounds_toArray, List.set_cons_zero, List.set_cons_succ]
                  refine h_takeL (i := 14) (v := .bool false) hns rfl rfl (by kernel_rfl) (by kernel_rfl) hP (y_pick (b := false) rfl (by kernel_rfl) (by kernel_rfl) (by kernel_rfl)) hS rfl (L' := #[true, true, true, true, true, true, true, true, true, true, true, true, true, true, true, false, false, false, false, false, false, false, false, false, false, false, false, false, false, false, false, false]) (by kernel_rfl) ?_
                  try simp only [List.setIfInBounds_toArray, List.set_cons_zero, List.set_cons_succ]
                  refine h_takeL (i := 15) (v := .bool false) hns rfl rfl (by kernel_rfl) (by kernel_rfl) hP (y_move rfl (by kernel_rfl) (by kernel_rfl)) hS rfl (L' := #[true, true, true, true, true, true, true, true, true, true, true, true, true, true, true, true, false, false, false, false, false, false, false, false, false, false, false, false, false, false, false, false]) (by kernel_rfl) ?_
                  try simp only [List.setIfInBounds_toArray, List.set_cons_zero, List.set_cons_succ]
                  refine h_takeL (i := 16) (v := v2) hns rfl rfl (by kernel_rfl) (by kernel_rfl) hP (y_move rfl (by kernel_rfl) (by kernel_rfl)) hS rfl (L' := #[true, true, true, true, true, true, true, true, true, true, true, true, true, true, true, true, true, false, false, false, false, false, false, false, false, false, false, false, false, false, false, false]) (by kernel_rfl) ?_
                  try simp only [List.setIfInBounds_toArray, List.set_cons_zero, List.set_cons_succ]
                  refine h_takeL (i := 17) (v := strV l1) hns rfl rfl (by kernel_rfl) (by kernel_rfl) hP (y_convS rfl (by kernel_rfl) (by kernel_rfl) (fun w' h => by rw [h]; exact conv_sl HSL2.out)) hS rfl (L' := #[true, true, true, true, true, true, true, true, true, true, true, true, true, true, true, true, true, true, false, false, false, false, false, false, false, false, false, false, false, false, false, false]) (by kernel_rfl) ?_
                  try simp only [List.setIfInBounds_toArray, List.set_cons_zero, List.set_cons_succ]
                  refine h_takeL (i := 18) (v := .slice (some ⟨g14, 0, none⟩) L c14) hns rfl rfl (by kernel_rfl) (by kernel_rfl) hP (y_move rfl (by kernel_rfl) (by kernel_rfl)) hS rfl (L' := #[true, true, true, true, true, true, true, true, true, true, true, true, true, true, true, true, true, true, true, false, false, false, false, false, false, false, false, false, false, false, false, false]) (by kernel_rfl) ?_
                  try simp only [List.setIfInBounds_toArray, List.set_cons_zero, List.set_cons_succ]
                  refine h_takeL (i := 19) (v := .int .i64 (i : Nat)) hns rfl rfl (by kernel_rfl) (by kernel_rfl) hP (y_move rfl (by kernel_rfl) (by kernel_rfl)) hS rfl (L' := #[true, true, true, true, true, true, true, true, true, true, true, true, true, true, true, true, true, true, true, true, false, false, false, false, false, false, false, false, false, false, false, false]) (by kernel_rfl) ?_
                  try simp only [List.setIfInBounds_toArray, List.set_cons_zero, List.set_cons_succ]
                  refine h_takeL (i := 20) (v := .pointer (some ⟨g14, i, none⟩)) hns rfl rfl (by kernel_rfl) (by kernel_rfl) hP (y_index rfl (by kernel_rfl) (by kernel_rfl) (by kernel_rfl) (idxS g14 L c14 i HIX.out)) hS rfl (L' := #[true, true, true, true, true, true, true, true, true, true, true, true, true, true, true, true, true, true, true, true, true, false, false, false, false, false, false, false, false, false, false, false]) (by kernel_rfl) ?_
                  try simp only [List.setIfInBounds_toArray, List.set_cons_zero, List.set_cons_succ]
                  refine h_takeL (i := 21) (v := strV l1) hns rfl rfl (by kernel_rfl) (by kernel_rfl) hP (y_load rfl (by kernel_rfl) (by kernel_rfl) (fun w' h => by rw [h]; exact HLS.out)) hS rfl (L' := #[true, true, true, true, true, true, true, true, true, true, true, true, true, true, true, true, true, true, true, true, true, true, false, false, false, false, false, false, false, false, false, false]) (by kernel_rfl) ?_
                  try simp only [List.setIfInBounds_toArray, List.set_cons_zero, List.set_cons_succ]
                  refine h_takeL (i := 22) (v := .bool false) hns rfl rfl (by kernel_rfl) (by kernel_rfl) hP (y_neqS (l := l1) (m := l1) rfl (by kernel_rfl) (by kernel_rfl) (by kernel_rfl) (decide_eq_false (fun h => h rfl))) hS rfl (L' := #[true, true, true, true, true, true, true, true, true, true, true, true, true, true, true, true, true, true, true, true, true, true, true, false, false, false, false, false, false, false, false, false]) (by kernel_rfl) ?_
                  try simp only [List.setIfInBounds_toArray, List.set_cons_zero, List.set_cons_succ]
                  refine h_takeL (i := 23) (v := .bool false) hns rfl rfl (by kernel_rfl) (by kernel_rfl) hP (y_pick (b := false) rfl (by kernel_rfl) (by kernel_rfl) (by kernel_rfl)) hS rfl (L' := #[true, true, true, true, true, true, true, true, true, true, true, true, true, true, true, true, true, true, true, true, true, true, true, true, false, false, false, false, false, false, false, false]) (by kernel_rfl) ?_
                  try simp only [List.setIfInBounds_toArray, List.set_cons_zero, List.set_cons_succ]
                  refine h_takeL (i := 24) (v := .bool false) hns rfl rfl (by kernel_rfl) (by kernel_rfl) hP (y_move rfl (by kernel_rfl) (by kernel_rfl)) hS rfl (L' := #[true, true, true, true, true, true, true, true, true, true, true, true, true, true, true, true, true, true, true, true, true, true, true, true, true, false, false, false, false, false, false, false]) (by kernel_rfl) ?_
                  try simp only [List.setIfInBounds_toArray, List.set_cons_zero, List.set_cons_succ]
                  refine h_takeL (i := 25) (v := .int .i64 e1) hns rfl rfl (by kernel_rfl) (by kernel_rfl) hP (y_move rfl (by kernel_rfl) (by kernel_rfl)) hS rfl (L' := #[true, true, true, true, true, true, true, true, true, true, true, true, true, true, true, true, true, true, true, true, true, true, true, true, true, true, false, false, false, false, false, false]) (by kernel_rfl) ?_
                  try simp only [List.setIfInBounds_toArray, List.set_cons_zero, List.set_cons_succ]
                  refine h_takeL (i := 26) (v := .slice (some ⟨g15, 0, none⟩) L c15) hns rfl rfl (by kernel_rfl) (by kernel_rfl) hP (y_move rfl (by kernel_rfl) (by kernel_rfl)) hS rfl (L' := #[true, true, true, true, true, true, true, true, true, true, true, true, true, true, true, true, true, true, true, true, true, true, true, true, true, true, true, false, false, false, false, false]) (by kernel_rfl) ?_
                  try simp only [List.setIfInBounds_toArray, List.set_cons_zero, List.set_cons_succ]
                  refine h_takeL (i := 27) (v := .int .i64 (i : Nat)) hns rfl rfl (by kernel_rfl) (by kernel_rfl) hP (y_move rfl (by kernel_rfl) (by kernel_rfl)) hS rfl (L' := #[true, true, true, true, true, true, true, true, true, true, true, true, true, true, true, true, true, true, true, true, true, true, true, true, true, true, true, true, false, false, false, false]) (by kernel_rfl) ?_
                  try simp only [List.setIfInBounds_toArray, List.set_cons_zero, List.set_cons_succ]
                  refine h_takeL (i := 28) (v := .pointer (some ⟨g15, i, none⟩)) hns rfl rfl (by kernel_rfl) (by kernel_rfl) hP (y_index rfl (by kernel_rfl) (by kernel_rfl) (by kernel_rfl) (idxE g15 L c15 i HIX.out)) hS rfl (L' := #[true, true, true, true, true, true, true, true, true, true, true, true, true, true, true, true, true, true, true, true, true, true, true, true, true, true, true, true, true, false, false, false]) (by kernel_rfl) ?_
                  try simp only [List.setIfInBounds_toArray, List.set_cons_zero, List.set_cons_succ]
                  refine h_takeL (i := 29) (v := .int .i64 e1) hns rfl rfl (by kernel_rfl) (by kernel_rfl) hP (y_load rfl (by kernel_rfl) (by kernel_rfl) (fun w' h => by rw [h]; exact HLE.out)) hS rfl (L' := #[true, true, true, true, true, true, true, true, true, true, true, true, true, true, true, true, true, true, true, true, true, true, true, true, true, true, true, true, true, true, false, false]) (by kernel_rfl) ?_
                  try simp only [List.setIfInBounds_toArray, List.set_cons_zero, List.set_cons_succ]
                  refine h_takeL (i := 30) (v := .bool false) hns rfl rfl (by kernel_rfl) (by kernel_rfl) hP (y_bin (k := .i64) (k' := .i64) (m := e1) (n := e1) rfl (by kernel_rfl) (by kernel_rfl) (by kernel_rfl) (neqE _ _ _ (bne_self_eq_false _))) hS rfl (L' := #[true, true, true, true, true, true, true, true, true, true, true, true, true, true, true, true, true, true, true, true, true, true, true, true, true, true, true, true, true, true, true, false]) (by kernel_rfl) ?_
                  try simp only [List.setIfInBounds_toArray, List.set_cons_zero, List.set_cons_succ]
                  refine h_takeL (i := 31) (v := .bool false) hns rfl rfl (by kernel_rfl) (by kernel_rfl) hP (y_pick (b := false) rfl (by kernel_rfl) (by kernel_rfl) (by kernel_rfl)) hS rfl (L' := #[true, true, true, true, true, true, true, true, true, true, true, true, true, true, true, true, true, true, true, true, true, true, true, true, true, true, true, true, true, true, true, true]) (by kernel_rfl) ?_
                  try simp only [List.setIfInBounds_toArray, List.set_cons_zero, List.set_cons_succ]
                  refine wpAnyH_done (by kernel_rfl) ?_ _
                  refine hN _ _ ?_
                  clear hP hN hns
                  clear hS HSL1 HSL2 HLS HLE
                  generalize w4.drew = w5 at *
                  go_wp2_with fail
                  exact ⟨⟨i + 1, HIX.out, rfl, HS6.out⟩, by have := HIX.out; simp [intOf]; omega⟩
                · have hiL : i = L := by omega
                  subst i
                  have hlt' : ¬ (L : Int) < (L : Int) := by omega
                  have HZ := hid HS4.out.2.2.2.2.2
                  clear hlt hi hll hwk HS4
                  go_wp2_with fail
                  refine HPG.out.mono ?_
                  rintro e wz ⟨rfl, hwz⟩
                  obtain rfl := hwz.symm
                  clear HPG
                  go_wp2_with fail
                  go_ret
                  exact ⟨rfl, HZ.out⟩
end Go.Proofs.YtcmgclkbhhdnaaaGreatDoor
