/- the text PLastsW -/
import Derived.Test.YtcmgclkbhhdnaaaGreatDoorPLastsSC
import Derived.Test.YtcmgclkbhhdnaaaGreatDoorPLivesC
namespace Go.Proofs.YtcmgclkbhhdnaaaGreatDoor
open Go Go.RowKit

theorem lenO (p : Option Addr) (n c : Nat) (ty : TypeId) (w : World) : (Builtin.len_ #[22] ty #[.slice p n c]).run Tryz.prog w = .ok (.int .i64 n) w := by go_simp
theorem idxL (b o n cap k : Nat) (h : k < n) (w : World) : (Instr.indexAt 39 (.slice (some ⟨b, o, none⟩) n cap) (.int .i64 k)).run Tryz.prog w = .ok (.pointer (some ⟨b, o + k * 3, none⟩)) w := by
  go_simp
theorem fg44_0 (b o : Nat) (w : World) : (Instr.fieldAt 44 (.pointer (some ⟨b, o, none⟩)) 0).run Tryz.prog w = .ok (.pointer (some ⟨b, o, none⟩)) w := by go_simp
theorem fg44_1 (b o : Nat) (w : World) : (Instr.fieldAt 44 (.pointer (some ⟨b, o, none⟩)) 1).run Tryz.prog w = .ok (.pointer (some ⟨b, o + 1, none⟩)) w := by go_simp
theorem fg44_2 (b o : Nat) (w : World) : (Instr.fieldAt 44 (.pointer (some ⟨b, o, none⟩)) 2).run Tryz.prog w = .ok (.pointer (some ⟨b, o + 2, none⟩)) w := by go_simp
/-- As scr_any; its kind may be read again. -/
theorem scr_any2 (w : World) (kd pg k2 : Int) (v : UInt8) : ∃ g wa wb wc, (Instr.alloc 32 true (.tuple #[])).run Tryz.prog w = .ok (.pointer (some ⟨g, 0, none⟩)) wa ∧
    (Instr.storeAt 32 (.pointer (some ⟨g, 0, none⟩)) (.agg #[.int .i64 kd, .int .i64 pg, cb v])).run Tryz.prog wa = .ok () wb ∧
    (Instr.loadAt 3 (.pointer (some ⟨g, 0, none⟩))).run Tryz.prog wb = .ok (.int .i64 kd) wb ∧
    (Instr.storeAt 3 (.pointer (some ⟨g, 0, none⟩)) (.int .i64 k2)).run Tryz.prog wb = .ok () wc ∧
    (Instr.loadAt 32 (.pointer (some ⟨g, 0, none⟩))).run Tryz.prog wc = .ok (.agg #[.int .i64 k2, .int .i64 pg, cb v]) wc ∧ (Instr.loadAt 3 (.pointer (some ⟨g, 0, none⟩))).run Tryz.prog wc = .ok (.int .i64 k2) wc ∧ Below w.heap.size w wb ∧ Below w.heap.size w wc := by
  have h1 : (Instr.alloc 32 true (.tuple #[])).run Tryz.prog w = .ok (.pointer (some ⟨w.heap.size, 0, none⟩)) (w.alloc (.cells #[.int .i64 0, .int .i64 0, .int .u8 0] 32)) := alloc_agg zero32 w
  have hB1 : Below w.heap.size w (w.alloc (.cells #[.int .i64 0, .int .i64 0, .int .u8 0] 32)) := (Below.refl _ _).alloc (Nat.le_refl _) _
  have hS1 : (w.alloc (.cells #[.int .i64 0, .int .i64 0, .int .u8 0] 32)).heap[w.heap.size]? = some (.cells #[.int .i64 0, .int .i64 0, .int .u8 0] 32 (0, 0)) := heap_alloc_last w _
  generalize w.alloc (.cells #[.int .i64 0, .int .i64 0, .int .u8 0] 32) = wa at *
  have h2 : (Instr.storeAt 32 (.pointer (some ⟨w.heap.size, 0, none⟩)) (.agg #[.int .i64 kd, .int .i64 pg, cb v])).run Tryz.prog wa = .ok () (wa.setRow w.heap.size #[.int .i64 kd, .int .i64 pg, cb v]) :=
    storeAt_all size32 rfl rfl hS1 (by intro u hu; simp at hu; rcases hu with rfl | rfl | rfl <;> rfl)
  have hF2 := Fr.setRow wa w.heap.size #[.int .i64 kd, .int .i64 pg, cb v]
  have hS2 : (wa.setRow w.heap.size #[.int .i64 kd, .int .i64 pg, cb v]).heap[w.heap.size]? = some (.cells #[.int .i64 kd, .int .i64 pg, cb v] 32 (0, 0)) := setRow_heap wa _ _ _ _ _ hS1
  generalize wa.setRow w.heap.size #[.int .i64 kd, .int .i64 pg, cb v] = wb at *
  have hB2 : Below w.heap.size w wb := hB1.trans (hF2.below hB1.size (by simp))
  have h3 := store1 Tryz.sizeOf3 (.int .i64 k2) rfl rfl (cell_at hS2 0 rfl) (open_at hS2 0)
  have hF3 := Fr.setCell wb w.heap.size 0 (.int .i64 k2)
  have hS3 := heap_setCell hS2 0 (.int .i64 k2)
  exact ⟨_, _, wb, _, h1, h2, load1 Tryz.isAgg3 (cell_at hS2 0 rfl), h3, load32 (cell_at hS3 0 rfl) (cell_at hS3 1 rfl) (cell_at hS3 2 rfl), load1 Tryz.isAgg3 (cell_at hS3 0 rfl), hB2, hB2.trans (hF3.below hB2.size (by simp))⟩
set_option maxRecDepth 100000 in
set_option maxHeartbeats 8000000 in
theorem pagerLasts_walk (c : Int) (a : Option Addr) (N cap : Nat) (vs : List Life8) (W : World) (ht : Tab W) (hc : -9223372036854775808 ≤ c ∧ c ≤ 9223372036854775807) (hs : Lives8 W a N vs) (hN : N ≤ 9223372036854775807) :
    Calls Tryz.prog 4 #[.int .i64 c, .slice a N cap] W fun e w' => e = .returned (.bool true) ∧ Below W.heap.size W w' := by
  obtain ⟨B, hB⟩ : ∃ B, W.heap.size = B := ⟨_, rfl⟩
  rw [hB]
  have HSH := hid (shown_any W ht)
  have HT := hid ht
  have HTL : Hid (0 < B) := hid (by rw [← hB]; exact tab_lt ht)
  have HC := hid hc
  have HSC0 := hid hs
  have HNN := hid hN
  have HB := hid hB
  have hpk := pk_lt c (n := 300) (by decide)
  obtain ⟨n, hn⟩ : ∃ n, 32 + pk c 300 = n := ⟨_, rfl⟩
  have Hn : Hid ((32 ≤ n ∧ n ≤ 331) ∧ 32 + pk c 300 = n) := hid ⟨by omega, hn⟩
  have hnb := pgOf_le (n := n) (by omega) (by omega)
  obtain ⟨L, hL⟩ : ∃ L, pgOf n = L := ⟨_, rfl⟩
  have HL : Hid (1 ≤ L ∧ nbOf n ≤ 170 ∧ pgOf n = L) := hid ⟨by omega, hnb.2, hL⟩
  clear ht hc hs hN hpk hn hB hnb hL
  go_enter Tryz.func4, Tryz.ntmps4
  go_wp2_with fail
  refine HSH.out.mono ?_
  rintro e w1 ⟨rfl, hB1⟩
  have hbg := begun_any c HC.out.1 HC.out.2 w1 (HT.out.below hB1)
  rw [Hn.out.2] at hbg
  have HBG := hid hbg
  rw [HB.out] at hB1
  have HB1 : Hid (Below B W w1 ∧ B ≤ w1.heap.size) := hid ⟨hB1, by have := hB1.size; have := HB.out; omega⟩
  clear hB1 hbg HSH
  go_wp2_with fail
  refine HBG.out.mono ?_
  intro e w2 hbg
  obtain ⟨d0, j0, p0, r0, rfl, hP⟩ := Lt.begun hbg Hn.out.1 HB1.out.1 HB1.out.2 HTL.out
  rw [HL.out.2.2] at hP
  have HI0 := hid hP
  clear hbg hP HBG HB1
  go_wp2_with fail
  go_loopw [6, 8, 9, 10, 11, 12, 13, 14, 15, 16, 17, 18, 19, 20, 21, 22, 23, 24, 25] (fun v6 v8 v9 v10 _ _ _ _ _ _ _ _ _ _ _ _ _ _ _ wv => ∃ i d p r : Nat, i ≤ N ∧ i ≤ 5 ∧ v10 = .int .i64 i ∧ v6 = .pointer (some ⟨d, 0, none⟩) ∧ v8 = .pointer (some ⟨p, 0, none⟩) ∧ v9 = .pointer (some ⟨r, 0, none⟩) ∧ Lt W B n L i d p r wv) (fun _ _ _ v10 _ _ _ _ _ _ _ _ _ _ _ _ _ _ _ _ => 5 - (intOf v10).toNat)
  case atStart => exact ⟨0, d0, p0, r0, Nat.zero_le _, Nat.zero_le _, rfl, rfl, rfl, rfl, HI0.out⟩
  case round =>
    clear HI0
    rename World => wo
    obtain ⟨i, d, p, r, hiN, hi, rfl, rfl, rfl, rfl, hP⟩ := hrel
    have hnn := HNN.out
    have hwi : IntKind.i64.wrap ((i : Int) + 1) = ((i + 1 : Nat) : Int) := by rw [IntWalk.i64_in _ ⟨by omega, by omega⟩]; omega
    by_cases hlt : i < N ∧ i < 5
    · have hlt1 : (i : Int) < (N : Int) := by omega
      have hlt2 : (i : Int) < 5 := by omega
      obtain ⟨v, hv⟩ : ∃ v, vs[i]? = some v := ⟨_, List.getElem?_eq_getElem (by have := HSC0.out.1; omega)⟩
      obtain ⟨hV, bo, oo, rfl, hc0, hc1, hc2⟩ := HSC0.out.2 i v hv
      have hbl : bo < B := by have h1 : bo < W.heap.size := World.block_lt_of_cell? W _ hc0; have := HB.out; omega
      have HIX := hid hlt.1
      have HLT := hid hlt
      have HV := hid hV
      have HCE : Hid (∀ w', Below B W w' → w'.cell? ⟨bo, oo + i * 3, none⟩ = some (.slice v.sa v.sn v.sc) ∧ w'.cell? ⟨bo, oo + i * 3 + 1, none⟩ = some (.int .i64 v.cut) ∧ w'.cell? ⟨bo, oo + i * 3 + 2, none⟩ = some (.slice v.ta v.tn v.tc)) := hid (fun w' hb => ⟨(hb.cell (p := ⟨bo, oo + i * 3, none⟩) hbl).trans hc0, (hb.cell (p := ⟨bo, oo + i * 3 + 1, none⟩) hbl).trans hc1, (hb.cell (p := ⟨bo, oo + i * 3 + 2, none⟩) hbl).trans hc2⟩)
      have hd : Below wo.heap.size wo wo.drew := (Below.refl _ _).drew
      have hPd := hP.below hd
      obtain ⟨o0, ho0, ho1, hop⟩ := hPd.ops
      have HOP := hid hop
      have HPK := hid (pick_any v.cut 600 hV.2.1.1 hV.2.1.2 (by decide) wo.drew)
      have hql := pk_lt v.cut (n := 600) (by decide)
      obtain ⟨q, hq⟩ : ∃ q, pk v.cut 600 = q := ⟨_, rfl⟩
      rw [hq] at HPK hql
      have HAD : Hid (IntKind.i64.wrap (o0 + ((q : Nat) : Int)) = o0 + ((q : Nat) : Int)) := hid (by rw [IntWalk.i64_in _ ⟨by omega, by omega⟩])
      have HCU := hid (hPd.cut HL.out.1 (o0 + ((q : Nat) : Int)))
      have HS8 : Hid (wo.drew.cell? ⟨bo, oo + i * 3 + 1, none⟩ = some (.int .i64 v.cut)) := hid (HCE.out _ hPd.belowW).2.1
      have HBL := hid hbl
      clear hP hPd hV hv hc0 hc1 hc2 hbl hd ho0 ho1 hop hql hq hlt hiN hi hnn
      go_upto_region 8 with fail
      refine h_openL (S := fun w' => w'.cell? ⟨bo, oo + i * 3 + 1, none⟩ = some (.int .i64 v.cut)) (by kernel_rfl) (by kernel_rfl) (fun _ _ _ _ _ h => h) (L := #[false, false, false, false, false, false, false, false, false, false, false]) (by kernel_rfl) ?_
      intro Q' hns hP hN
      have hS := HS8.out
      try simp only [List.setIfInBounds_toArray, List.set_cons_zero, List.set_cons_succ]
      refine h_takeL (i := 0) (v := .pointer (some ⟨d, 0, none⟩)) hns rfl rfl (by kernel_rfl) (by kernel_rfl) hP (y_move rfl) hS rfl (L' := #[true, false, false, false, false, false, false, false, false, false, false]) (by kernel_rfl) ?_
      try simp only [List.setIfInBounds_toArray, List.set_cons_zero, List.set_cons_succ]
      refine h_takeL (i := 1) (v := .pointer (some ⟨d, 0, none⟩)) hns rfl rfl (by kernel_rfl) (by kernel_rfl) hP (y_move rfl) hS rfl (L' := #[true, true, false, false, false, false, false, false, false, false, false]) (by kernel_rfl) ?_
      try simp only [List.setIfInBounds_toArray, List.set_cons_zero, List.set_cons_succ]
      refine h_takeL (i := 3) (v := .slice (some ⟨bo, oo, none⟩) N cap) hns rfl rfl (by kernel_rfl) (by kernel_rfl) hP (y_move rfl) hS rfl (L' := #[true, true, false, true, false, false, false, false, false, false, false]) (by kernel_rfl) ?_
      try simp only [List.setIfInBounds_toArray, List.set_cons_zero, List.set_cons_succ]
      refine h_takeL (i := 4) (v := .int .i64 (i : Nat)) hns rfl rfl (by kernel_rfl) (by kernel_rfl) hP (y_move rfl) hS rfl (L' := #[true, true, false, true, true, false, false, false, false, false, false]) (by kernel_rfl) ?_
      try simp only [List.setIfInBounds_toArray, List.set_cons_zero, List.set_cons_succ]
      refine h_takeL (i := 5) (v := .pointer (some ⟨bo, oo + i * 3, none⟩)) hns rfl rfl (by kernel_rfl) (by kernel_rfl) hP (y_index rfl (hr := idxL bo oo N cap i HIX.out)) hS rfl (L' := #[true, true, false, true, true, true, false, false, false, false, false]) (by kernel_rfl) ?_
      try simp only [List.setIfInBounds_toArray, List.set_cons_zero, List.set_cons_succ]
      refine h_takeL (i := 6) (v := .pointer (some ⟨bo, oo + i * 3 + 1, none⟩)) hns rfl rfl (by kernel_rfl) (by kernel_rfl) hP (y_faddr rfl (hf := fg44_1 (bo) (oo + i * 3))) hS rfl (L' := #[true, true, false, true, true, true, true, false, false, false, false]) (by kernel_rfl) ?_
      try simp only [List.setIfInBounds_toArray, List.set_cons_zero, List.set_cons_succ]
      refine h_takeL (i := 7) (v := .int .i64 v.cut) hns rfl rfl (by kernel_rfl) (by kernel_rfl) hP (y_load rfl (hl := fun w' h => load1 Tryz.isAgg3 h)) hS rfl (L' := #[true, true, false, true, true, true, true, true, false, false, false]) (by kernel_rfl) ?_
      try simp only [List.setIfInBounds_toArray, List.set_cons_zero, List.set_cons_succ]
      refine h_callL (i := 2) (f := 18) (args := #[.pointer (some ⟨d, 0, none⟩)]) (by kernel_rfl) rfl rfl (by kernel_rfl) (enter_go rfl (by kernel_rfl) (fun w => by go_simp)) (L' := #[true, true, true, true, true, true, true, true, false, false, false]) (by kernel_rfl) ?_
      refine HOP.out.mono ?_
      rintro e wz ⟨rfl, hwz⟩
      obtain rfl := hwz.symm
      refine ⟨_, rfl, hS, ?_⟩
      try simp only [List.setIfInBounds_toArray, List.set_cons_zero, List.set_cons_succ]
      refine h_callL (i := 8) (f := 12) (args := #[.int .i64 v.cut, .int .i64 600]) (by kernel_rfl) rfl rfl (by kernel_rfl) (enter_go rfl (by kernel_rfl) (fun w => by go_simp)) (L' := #[true, true, true, true, true, true, true, true, true, false, false]) (by kernel_rfl) ?_
      refine HPK.out.mono ?_
      rintro e wz ⟨rfl, hwz⟩
      obtain rfl := hwz.symm
      refine ⟨_, rfl, hS, ?_⟩
      try simp only [List.setIfInBounds_toArray, List.set_cons_zero, List.set_cons_succ]
      refine h_takeL (i := 9) (v := .int .i64 (o0 + ((q : Nat) : Int))) hns rfl rfl (by kernel_rfl) (by kernel_rfl) hP (y_bin (k := .i64) (k' := .i64) (m := o0) (n := (q : Nat)) rfl (by kernel_rfl) (by kernel_rfl) (by kernel_rfl) (qadd _ _ _ HAD.out)) hS rfl (L' := #[true, true, true, true, true, true, true, true, true, true, false]) (by kernel_rfl) ?_
      try simp only [List.setIfInBounds_toArray, List.set_cons_zero, List.set_cons_succ]
      refine h_callL (i := 10) (f := 17) (args := #[.pointer (some ⟨d, 0, none⟩), .int .i64 (o0 + ((q : Nat) : Int))]) (by kernel_rfl) rfl rfl (by kernel_rfl) (enter_go rfl (by kernel_rfl) (fun w => by go_simp)) (L' := #[true, true, true, true, true, true, true, true, true, true, true]) (by kernel_rfl) ?_
      refine HCU.out.mono ?_
      rintro e w3 ⟨rfl, hB3, hC3⟩
      have hS := (hB3.cell (p := ⟨bo, oo + i * 3 + 1, none⟩) HBL.out).trans hS
      refine ⟨_, rfl, hS, ?_⟩
      have HCL := hid hC3
      clear hB3 hC3 HCU
      try simp only [List.setIfInBounds_toArray, List.set_cons_zero, List.set_cons_succ]
      refine wpAnyH_done (by kernel_rfl) ?_ _
      refine hN _ _ ?_
      clear hP hN hns
      clear hS HOP HPK HAD HS8
      go_wp2_with fail
      refine HCL.out.mono ?_
      rintro e w4 ⟨t, Y, rfl, hTh, hLk⟩
      have HTH := hid hTh
      have HK0 := hid hLk
      clear hTh hLk HCL
      go_wp2_with fail
      go_loopw [11, 12, 13, 14, 15, 16, 17, 18, 19] (fun v11 v12 _ _ _ _ _ _ _ wv => ∃ k : Nat, k ≤ v.sn ∧ k ≤ 60 ∧ v11 = .pointer (some ⟨t, 0, none⟩) ∧ v12 = .int .i64 k ∧ Lk W w4 Y B n L i k d p r wv) (fun _ v12 _ _ _ _ _ _ _ _ => 60 - (intOf v12).toNat)
      case atStart => exact ⟨0, Nat.zero_le _, Nat.zero_le _, rfl, rfl, HK0.out⟩
      case round =>
        clear HK0
        obtain ⟨k, hk1, hk2, rfl, rfl, hLk⟩ := hrel
        have hsn := HV.out.1.2
        have hwk : IntKind.i64.wrap ((k : Int) + 1) = ((k + 1 : Nat) : Int) := by rw [IntWalk.i64_in _ ⟨by omega, by omega⟩]; omega
        have hBw : Below B W wr := by obtain ⟨_, _, _, _, _, _, _, _, _, _, _, _, _, h, _⟩ := hLk; exact h
        have hce := HCE.out wr hBw
        have HLS := hid (load1 Tryz.isAgg22 hce.1)
        have HLK0 := hid hLk
        have HBW := hid hBw
        clear hce hBw hLk
        by_cases hkl : k < v.sn ∧ k < 60
        · obtain ⟨x, hx⟩ : ∃ x, v.xs[k]? = some x := ⟨_, List.getElem?_eq_getElem (by have := HV.out.1.1.1; omega)⟩
          obtain ⟨hxo, b, off, hsa, hx0, hx1, hx2⟩ := HV.out.1.1.2 k x hx
          obtain ⟨y, hy⟩ := byte_of hxo.2.2
          have hbb : b < B := by have h1 : b < W.heap.size := World.block_lt_of_cell? W _ hx0; have := HB.out; omega
          rw [← Nat.add_assoc] at hx1 hx2
          have hBw := HBW.out
          have hd0 : wr.cell? ⟨b, off + k * 3, none⟩ = some (.int .i64 x.kd) := (hBw.cell (p := ⟨b, off + k * 3, none⟩) hbb).trans hx0
          have hd1 : wr.cell? ⟨b, off + k * 3 + 1, none⟩ = some (.int .i64 x.pg) := (hBw.cell (p := ⟨b, off + k * 3 + 1, none⟩) hbb).trans hx1
          have hd2 : wr.cell? ⟨b, off + k * 3 + 2, none⟩ = some (cb y) := ((hBw.cell (p := ⟨b, off + k * 3 + 2, none⟩) hbb).trans hx2).trans (by rw [hy]; rfl)
          have HLX := hid (load32 hd0 hd1 hd2)
          rw [hsa] at HLS
          have HKX := hid hkl.1
          have HKL := hid hkl
          have HX := hid hxo
          have hk10 := pk_lt x.kd (n := 10) (by decide)
          obtain ⟨kd, hkd⟩ : ∃ kd, pk x.kd 10 = kd := ⟨_, rfl⟩
          rw [hkd] at hk10
          obtain ⟨go, wa, wb, wc, hal, hsr, hlk, hsc, hlo, hlo2, hBb, hBc⟩ := scr_any2 wr x.kd x.pg ((kd : Nat) : Int) y
          have HAL := hid hal
          have HSR := hid hsr
          have HLK := hid hlk
          have HSC := hid hsc
          have HLO := hid hlo
          have HLO2 := hid hlo2
          have HBC := hid hBc
          have HPK2 := hid (pick_any x.kd 10 hxo.1.1 hxo.1.2 (by decide) wb)
          rw [hkd] at HPK2
          have HKT : Hid (decide (((k : Nat) : Int) < ((v.sn : Nat) : Int)) = true ∧ decide (((k : Nat) : Int) < 60) = true) := hid ⟨decide_eq_true (by omega), decide_eq_true (by omega)⟩
          clear hx hxo hsa hx0 hx1 hx2 hy hbb hBw hd0 hd1 hd2 hal hsr hlk hsc hlo hlo2 hBb hBc hkd hkl hk1 hk2 hsn
          go_upto_region 11 with fail
          refine wp_region_lit ?_
          refine wp_y (v := .int .i64 (k : Nat)) rfl rfl (y_move rfl) rfl ?_
          try simp only [List.setIfInBounds_toArray, List.set_cons_zero, List.set_cons_succ]
          refine wp_y (v := .slice (some ⟨bo, oo, none⟩) N cap) rfl rfl (y_move rfl) rfl ?_
          try simp only [List.setIfInBounds_toArray, List.set_cons_zero, List.set_cons_succ]
          refine wp_y (v := .int .i64 (i : Nat)) rfl rfl (y_move rfl) rfl ?_
          try simp only [List.setIfInBounds_toArray, List.set_cons_zero, List.set_cons_succ]
          refine wp_y (v := .pointer (some ⟨bo, oo + i * 3, none⟩)) rfl rfl (y_index rfl (hr := idxL bo oo N cap i HIX.out)) rfl ?_
          try simp only [List.setIfInBounds_toArray, List.set_cons_zero, List.set_cons_succ]
          refine wp_y (v := .pointer (some ⟨bo, oo + i * 3, none⟩)) rfl rfl (y_faddr rfl (hf := fg44_0 (bo) (oo + i * 3))) rfl ?_
          try simp only [List.setIfInBounds_toArray, List.set_cons_zero, List.set_cons_succ]
          refine wp_y (v := .slice (some ⟨b, off, none⟩) v.sn v.sc) rfl rfl (y_load rfl (hl := fun w' h => by rw [h]; exact HLS.out)) rfl ?_
          try simp only [List.setIfInBounds_toArray, List.set_cons_zero, List.set_cons_succ]
          refine wp_y (v := .int .i64 (v.sn : Nat)) rfl rfl (y_lenT lenO (p := some ⟨b, off, none⟩) (c := v.sc) rfl (by kernel_rfl) (by kernel_rfl)) rfl ?_
          try simp only [List.setIfInBounds_toArray, List.set_cons_zero, List.set_cons_succ]
          refine wp_y (v := .bool true) rfl rfl (y_bin (k := .i64) (k' := .i64) (m := (k : Nat)) (n := (v.sn : Nat)) rfl (by kernel_rfl) (by kernel_rfl) (by kernel_rfl) (qlss _ _ _ HKT.out.1)) rfl ?_
          try simp only [List.setIfInBounds_toArray, List.set_cons_zero, List.set_cons_succ]
          refine wp_y (v := .bool true) rfl rfl (y_move rfl) rfl ?_
          try simp only [List.setIfInBounds_toArray, List.set_cons_zero, List.set_cons_succ]
          refine wp_yg (v := .int .i64 (k : Nat)) rfl (y_move rfl) rfl ?_
          try simp only [List.setIfInBounds_toArray, List.set_cons_zero, List.set_cons_succ]
          refine wp_yg (v := .bool true) rfl (y_bin (k := .i64) (k' := .i64) (m := (k : Nat)) (n := 60) rfl (by kernel_rfl) (by kernel_rfl) (by kernel_rfl) (qlss _ _ _ HKT.out.2)) rfl ?_
          try simp only [List.setIfInBounds_toArray, List.set_cons_zero, List.set_cons_succ]
          refine wp_y (v := .bool true) rfl rfl (y_pick (b := true) rfl) rfl ?_
          try simp only [List.setIfInBounds_toArray, List.set_cons_zero, List.set_cons_succ]
          refine wp_end ?_
          clear HKT
          go_upto_region 13 with fail
          refine wp_region_lit ?_
          refine wp_y (v := .slice (some ⟨bo, oo, none⟩) N cap) rfl rfl (y_move rfl) rfl ?_
          try simp only [List.setIfInBounds_toArray, List.set_cons_zero, List.set_cons_succ]
          refine wp_y (v := .int .i64 (i : Nat)) rfl rfl (y_move rfl) rfl ?_
          try simp only [List.setIfInBounds_toArray, List.set_cons_zero, List.set_cons_succ]
          refine wp_y (v := .pointer (some ⟨bo, oo + i * 3, none⟩)) rfl rfl (y_index rfl (hr := idxL bo oo N cap i HIX.out)) rfl ?_
          try simp only [List.setIfInBounds_toArray, List.set_cons_zero, List.set_cons_succ]
          refine wp_y (v := .pointer (some ⟨bo, oo + i * 3, none⟩)) rfl rfl (y_faddr rfl (hf := fg44_0 (bo) (oo + i * 3))) rfl ?_
          try simp only [List.setIfInBounds_toArray, List.set_cons_zero, List.set_cons_succ]
          refine wp_y (v := .slice (some ⟨b, off, none⟩) v.sn v.sc) rfl rfl (y_load rfl (hl := fun w' h => by rw [h]; exact HLS.out)) rfl ?_
          try simp only [List.setIfInBounds_toArray, List.set_cons_zero, List.set_cons_succ]
          refine wp_y (v := .int .i64 (k : Nat)) rfl rfl (y_move rfl) rfl ?_
          try simp only [List.setIfInBounds_toArray, List.set_cons_zero, List.set_cons_succ]
          refine wp_y (v := .pointer (some ⟨b, off + k * 3, none⟩)) rfl rfl (y_index rfl (hr := idx22 b off v.sn v.sc k HKX.out)) rfl ?_
          try simp only [List.setIfInBounds_toArray, List.set_cons_zero, List.set_cons_succ]
          refine wp_y (v := .agg #[.int .i64 x.kd, .int .i64 x.pg, cb y]) rfl rfl (y_load rfl (hl := fun w' h => by rw [h]; exact HLX.out)) rfl ?_
          try simp only [List.setIfInBounds_toArray, List.set_cons_zero, List.set_cons_succ]
          refine wp_run (v := .pointer (some ⟨go, 0, none⟩)) rfl rfl (run_alOp rfl HAL.out) rfl ?_
          try simp only [List.setIfInBounds_toArray, List.set_cons_zero, List.set_cons_succ]
          refine wp_do rfl rfl (run_storeOp rfl (by kernel_rfl) (by kernel_rfl) HSR.out) ?_
          try simp only [List.setIfInBounds_toArray, List.set_cons_zero, List.set_cons_succ]
          refine wp_end ?_
          go_upto_region 14 with fail
          refine wp_region_lit ?_
          refine wp_y (v := .pointer (some ⟨go, 0, none⟩)) rfl rfl (y_faddr rfl (hf := fg32_0 (go) (0))) rfl ?_
          try simp only [List.setIfInBounds_toArray, List.set_cons_zero, List.set_cons_succ]
          refine wp_y (v := .int .i64 x.kd) rfl rfl (y_load rfl (hl := fun w' h => by rw [h]; exact HLK.out)) rfl ?_
          try simp only [List.setIfInBounds_toArray, List.set_cons_zero, List.set_cons_succ]
          refine wp_call (f := 12) (args := #[.int .i64 x.kd, .int .i64 10]) (by kernel_rfl) (fun w => by go_simp) ?_
          refine HPK2.out.mono ?_
          rintro e wz ⟨rfl, hwz⟩
          obtain rfl := hwz.symm
          refine ⟨_, rfl, ?_⟩
          dsimp only [Act.put]
          try simp only [List.setIfInBounds_toArray, List.set_cons_zero, List.set_cons_succ]
          refine wp_y (v := .pointer (some ⟨go, 0, none⟩)) rfl rfl (y_faddr rfl (hf := fg32_0 (go) (0))) rfl ?_
          try simp only [List.setIfInBounds_toArray, List.set_cons_zero, List.set_cons_succ]
          refine wp_do rfl rfl (run_storeOp rfl (by kernel_rfl) (by kernel_rfl) HSC.out) ?_
          try simp only [List.setIfInBounds_toArray, List.set_cons_zero, List.set_cons_succ]
          refine wp_end ?_
          clear HAL HSR HLK HSC HPK2 HLX HLS
          by_cases h78 : kd = 7 ∨ kd = 8
          · obtain ⟨b7, hb7⟩ : ∃ b, ((((kd : Nat) : Int)) == 7) = b := ⟨_, rfl⟩
            have HB7 := hid hb7
            have HB8 : Hid (b7 = false → ((((kd : Nat) : Int)) == 8) = true) := hid (fun e => by rw [e, beq_eq_false_iff_ne] at hb7; rw [beq_iff_eq]; omega)
            have HCO := hid (HLK0.out.commit HBC.out HL.out.1 HL.out.2.1 HKL.out.2 (by have := HLT.out; omega))
            clear hb7 h78 hk10
            go_upto_region 15 with fail
            refine wp_region_lit ?_
            refine wp_y (v := .pointer (some ⟨go, 0, none⟩)) rfl rfl (y_faddr rfl (hf := fg32_0 (go) (0))) rfl ?_
            try simp only [List.setIfInBounds_toArray, List.set_cons_zero, List.set_cons_succ]
            refine wp_y (v := .int .i64 (kd : Nat)) rfl rfl (y_load rfl (hl := fun w' h => by rw [h]; exact HLO2.out)) rfl ?_
            try simp only [List.setIfInBounds_toArray, List.set_cons_zero, List.set_cons_succ]
            refine wp_y (v := .bool b7) rfl rfl (y_bin (k := .i64) (k' := .i64) (m := (kd : Nat)) (n := 7) rfl (by kernel_rfl) (by kernel_rfl) (by kernel_rfl) (qeql _ _ _ HB7.out)) rfl ?_
            try simp only [List.setIfInBounds_toArray, List.set_cons_zero, List.set_cons_succ]
            refine wp_y (v := .bool b7) rfl rfl (y_move rfl) rfl ?_
            try simp only [List.setIfInBounds_toArray, List.set_cons_zero, List.set_cons_succ]
            refine wp_yg (v := bif b7 then undef else .pointer (some ⟨go, 0, none⟩)) rfl (by cases b7 with | false => exact y_faddr rfl (hf := fg32_0 (go) (0)) | true => exact y_skip (by kernel_rfl) rfl) rfl ?_
            try simp only [List.setIfInBounds_toArray, List.set_cons_zero, List.set_cons_succ]
            refine wp_yg (v := bif b7 then undef else .int .i64 (kd : Nat)) rfl (by cases b7 with | false => exact y_load rfl (hl := fun w' h => by rw [h]; exact HLO2.out) | true => exact y_skip (by kernel_rfl) rfl) rfl ?_
            try simp only [List.setIfInBounds_toArray, List.set_cons_zero, List.set_cons_succ]
            refine wp_yg (v := bif b7 then undef else .bool true) rfl (by cases b7 with | false => exact y_bin (k := .i64) (k' := .i64) (m := (kd : Nat)) (n := 8) rfl (by kernel_rfl) (by kernel_rfl) (by kernel_rfl) (qeql _ _ _ (HB8.out rfl)) | true => exact y_skip (by kernel_rfl) rfl) rfl ?_
            try simp only [List.setIfInBounds_toArray, List.set_cons_zero, List.set_cons_succ]
            refine wp_y (v := .bool true) rfl rfl (by cases b7 with | false => exact y_pick (b := false) rfl | true => exact y_pick (b := true) rfl) rfl ?_
            try simp only [List.setIfInBounds_toArray, List.set_cons_zero, List.set_cons_succ]
            refine wp_end ?_
            generalize (bif b7 then undef else Value.pointer (some ⟨go, 0, none⟩)) = x93
            generalize (bif b7 then undef else Value.int .i64 (kd : Nat)) = x94
            generalize (bif b7 then undef else Value.bool true) = x95
            generalize Value.bool b7 = x91
            clear HB7 HB8 HLO HLO2 HBC HLK0
            go_wp2_with fail
            refine HCO.out.mono ?_
            rintro e w5 (⟨rfl, hC⟩ | ⟨rfl, hC⟩)
            · have HRC := hid hC
              clear hC HCO
              go_wp2_with fail
              refine HRC.out.mono ?_
              rintro e w6 ⟨rfl, hLk⟩
              have HZ := hid hLk
              clear hLk HRC
              go_wp2_with fail
              exact ⟨⟨k + 1, HKL.out.1, HKL.out.2, rfl, rfl, HZ.out⟩, by have := HKL.out; simp [intOf]; omega⟩
            · have HCL := hid hC
              clear hC HCO
              go_wp2_with fail
              refine HCL.out.mono ?_
              rintro e w6 ⟨t2, rfl, hC⟩
              have HRC := hid hC
              clear hC HCL
              go_wp2_with fail
              refine HRC.out.mono ?_
              rintro e w7 ⟨rfl, hal, hrd, hLe⟩
              have HAO := hid hal
              have HRO := hid hrd
              have HLE := hid hLe
              clear hal hrd hLe HRC
              go_wp2_with fail
              refine HAO.out.mono ?_
              rintro e wz ⟨rfl, hwz⟩
              obtain rfl := hwz.symm
              clear HAO
              go_wp2_with fail
              refine HRO.out.mono ?_
              rintro e wz ⟨rfl, hwz⟩
              obtain rfl := hwz.symm
              clear HRO
              have HAB := hid (HLE.out.abort HL.out.1)
              clear HLE
              go_wp2_with fail
              refine HAB.out.mono ?_
              rintro e wf ⟨rfl, hC⟩
              have HAT := hid hC
              clear hC HAB
              go_wp2_with fail
              refine HAT.out.mono ?_
              rintro e wg ⟨rfl, hLf⟩
              have hBg : Below B W wg := by obtain ⟨_, _, _, _, _, _, _, _, _, _, _, h⟩ := hLf; exact h
              have HLT2 := hid (load1 Tryz.isAgg42 (HCE.out wg hBg).2.2)
              have hin : Ints wg.heap.size wg v.ta v.tn v.zs := (((HV.out.2.2.1.ints HV.out.2.2.2.1).below (by rw [HB.out]; exact hBg))).mono hBg.size
              have HCR := hid (hLf.again Hn.out.1.1 HL.out.2.1 (cp := v.tc) hin HV.out.2.2.2.2)
              clear hLf hBg hin HAT
              go_upto_region 32 with fail
              refine wp_region_lit ?_
              refine wp_y (v := .pointer (some ⟨d, 0, none⟩)) rfl rfl (y_move rfl) rfl ?_
              try simp only [List.setIfInBounds_toArray, List.set_cons_zero, List.set_cons_succ]
              refine wp_y (v := .slice (some ⟨bo, oo, none⟩) N cap) rfl rfl (y_move rfl) rfl ?_
              try simp only [List.setIfInBounds_toArray, List.set_cons_zero, List.set_cons_succ]
              refine wp_y (v := .int .i64 (i : Nat)) rfl rfl (y_move rfl) rfl ?_
              try simp only [List.setIfInBounds_toArray, List.set_cons_zero, List.set_cons_succ]
              refine wp_y (v := .pointer (some ⟨bo, oo + i * 3, none⟩)) rfl rfl (y_index rfl (hr := idxL bo oo N cap i HIX.out)) rfl ?_
              try simp only [List.setIfInBounds_toArray, List.set_cons_zero, List.set_cons_succ]
              refine wp_y (v := .pointer (some ⟨bo, oo + i * 3 + 2, none⟩)) rfl rfl (y_faddr rfl (hf := fg44_2 (bo) (oo + i * 3))) rfl ?_
              try simp only [List.setIfInBounds_toArray, List.set_cons_zero, List.set_cons_succ]
              refine wp_y (v := .slice v.ta v.tn v.tc) rfl rfl (y_load rfl (hl := fun w' h => by rw [h]; exact HLT2.out)) rfl ?_
              try simp only [List.setIfInBounds_toArray, List.set_cons_zero, List.set_cons_succ]
              refine wp_call (f := 24) (args := #[.pointer (some ⟨d, 0, none⟩), .slice v.ta v.tn v.tc]) (by kernel_rfl) (fun w => by go_simp) ?_
              refine HCR.out.mono ?_
              rintro e wx ⟨d2, rfl, hC⟩
              refine ⟨_, rfl, ?_⟩
              have HJO := hid hC
              clear hC HCR HLT2
              dsimp only [Act.put]
              try simp only [List.setIfInBounds_toArray, List.set_cons_zero, List.set_cons_succ]
              refine wp_y (v := .pointer (some ⟨d2, 0, none⟩)) rfl rfl (y_assign rfl) rfl ?_
              try simp only [List.setIfInBounds_toArray, List.set_cons_zero, List.set_cons_succ]
              refine wp_end ?_
              go_wp2_with fail
              refine HJO.out.mono ?_
              rintro e wh ⟨j2, rfl, hC⟩
              have HPO := hid hC
              clear hC HJO
              go_wp2_with fail
              refine HPO.out.mono ?_
              rintro e wi ⟨p2, rfl, hLg⟩
              have HHA := hid hLg.has
              clear hLg HPO
              go_wp2_with fail
              refine HHA.out.mono ?_
              rintro e wj (⟨rfl, hLt⟩ | ⟨rfl, hC⟩)
              · have HZ := hid hLt
                clear hLt HHA
                go_wp2_with fail
                exact ⟨⟨i + 1, d2, p2, r, HLT.out.1, HLT.out.2, rfl, rfl, rfl, rfl, HZ.out⟩, by have := HLT.out; simp [intOf]; omega⟩
              · have HH2 := hid hC
                clear hC HHA
                go_wp2_with fail
                refine HH2.out.mono ?_
                rintro e wk ⟨rfl, hLt⟩
                have HZ := hid hLt
                clear hLt HH2
                go_wp2_with fail
                exact ⟨⟨i + 1, d2, p2, t2, HLT.out.1, HLT.out.2, rfl, rfl, rfl, rfl, HZ.out⟩, by have := HLT.out; simp [intOf]; omega⟩
          · have HB7 : Hid (((((kd : Nat) : Int)) == 7) = false ∧ ((((kd : Nat) : Int)) == 8) = false) := hid ⟨by rw [beq_eq_false_iff_ne]; omega, by rw [beq_eq_false_iff_ne]; omega⟩
            have HDO := hid (HLK0.out.does HBC.out HL.out.1 kd hk10 (by omega) (by omega) x.pg y)
            clear h78 hk10
            go_upto_region 15 with fail
            refine wp_region_lit ?_
            refine wp_y (v := .pointer (some ⟨go, 0, none⟩)) rfl rfl (y_faddr rfl (hf := fg32_0 (go) (0))) rfl ?_
            try simp only [List.setIfInBounds_toArray, List.set_cons_zero, List.set_cons_succ]
            refine wp_y (v := .int .i64 (kd : Nat)) rfl rfl (y_load rfl (hl := fun w' h => by rw [h]; exact HLO2.out)) rfl ?_
            try simp only [List.setIfInBounds_toArray, List.set_cons_zero, List.set_cons_succ]
            refine wp_y (v := .bool false) rfl rfl (y_bin (k := .i64) (k' := .i64) (m := (kd : Nat)) (n := 7) rfl (by kernel_rfl) (by kernel_rfl) (by kernel_rfl) (qeql _ _ _ HB7.out.1)) rfl ?_
            try simp only [List.setIfInBounds_toArray, List.set_cons_zero, List.set_cons_succ]
            refine wp_y (v := .bool false) rfl rfl (y_move rfl) rfl ?_
            try simp only [List.setIfInBounds_toArray, List.set_cons_zero, List.set_cons_succ]
            refine wp_yg (v := .pointer (some ⟨go, 0, none⟩)) rfl (y_faddr rfl (hf := fg32_0 (go) (0))) rfl ?_
            try simp only [List.setIfInBounds_toArray, List.set_cons_zero, List.set_cons_succ]
            refine wp_yg (v := .int .i64 (kd : Nat)) rfl (y_load rfl (hl := fun w' h => by rw [h]; exact HLO2.out)) rfl ?_
            try simp only [List.setIfInBounds_toArray, List.set_cons_zero, List.set_cons_succ]
            refine wp_yg (v := .bool false) rfl (y_bin (k := .i64) (k' := .i64) (m := (kd : Nat)) (n := 8) rfl (by kernel_rfl) (by kernel_rfl) (by kernel_rfl) (qeql _ _ _ HB7.out.2)) rfl ?_
            try simp only [List.setIfInBounds_toArray, List.set_cons_zero, List.set_cons_succ]
            refine wp_y (v := .bool false) rfl rfl (y_pick (b := false) rfl) rfl ?_
            try simp only [List.setIfInBounds_toArray, List.set_cons_zero, List.set_cons_succ]
            refine wp_end ?_
            clear HB7 HLO2
            go_upto_region 27 with fail
            refine wp_region_lit ?_
            refine wp_y (v := .pointer (some ⟨p, 0, none⟩)) rfl rfl (y_move rfl) rfl ?_
            try simp only [List.setIfInBounds_toArray, List.set_cons_zero, List.set_cons_succ]
            refine wp_y (v := .pointer (some ⟨r, 0, none⟩)) rfl rfl (y_move rfl) rfl ?_
            try simp only [List.setIfInBounds_toArray, List.set_cons_zero, List.set_cons_succ]
            refine wp_y (v := .agg #[.int .i64 (kd : Nat), .int .i64 x.pg, cb y]) rfl rfl (y_load rfl (hl := fun w' h => by rw [h]; exact HLO.out)) rfl ?_
            try simp only [List.setIfInBounds_toArray, List.set_cons_zero, List.set_cons_succ]
            refine wp_call (f := 15) (args := #[.pointer (some ⟨p, 0, none⟩), .pointer (some ⟨r, 0, none⟩), .agg #[.int .i64 (kd : Nat), .int .i64 x.pg, cb y]]) (by kernel_rfl) (fun w => by go_simp) ?_
            refine HDO.out.mono ?_
            rintro e w5 ⟨rfl, hLk⟩
            refine ⟨_, rfl, ?_⟩
            have HQ := hid hLk
            clear hLk HDO HLO HBC
            dsimp only [Act.put]
            try simp only [List.setIfInBounds_toArray, List.set_cons_zero, List.set_cons_succ]
            refine wp_y (v := .bool true) rfl rfl (y_assign rfl) rfl ?_
            try simp only [List.setIfInBounds_toArray, List.set_cons_zero, List.set_cons_succ]
            refine wp_end ?_
            go_wp2_with fail
            exact ⟨⟨k + 1, HKL.out.1, HKL.out.2, rfl, rfl, HQ.out⟩, by have := HKL.out; simp [intOf]; omega⟩
        · obtain ⟨b1, hb1⟩ : ∃ b, decide (((k : Nat) : Int) < ((v.sn : Nat) : Int)) = b := ⟨_, rfl⟩
          have HB1 := hid hb1
          have HB2 : Hid (b1 = true → decide (((k : Nat) : Int) < 60) = false) := hid (fun e => by rw [e, decide_eq_true_iff] at hb1; exact decide_eq_false (by omega))
          have HLE := hid (HLK0.out.leave HTH.out hk2)
          clear hb1 hkl hk1 hk2 hsn hwk
          go_upto_region 11 with fail
          refine wp_region_lit ?_
          refine wp_y (v := .int .i64 (k : Nat)) rfl rfl (y_move rfl) rfl ?_
          try simp only [List.setIfInBounds_toArray, List.set_cons_zero, List.set_cons_succ]
          refine wp_y (v := .slice (some ⟨bo, oo, none⟩) N cap) rfl rfl (y_move rfl) rfl ?_
          try simp only [List.setIfInBounds_toArray, List.set_cons_zero, List.set_cons_succ]
          refine wp_y (v := .int .i64 (i : Nat)) rfl rfl (y_move rfl) rfl ?_
          try simp only [List.setIfInBounds_toArray, List.set_cons_zero, List.set_cons_succ]
          refine wp_y (v := .pointer (some ⟨bo, oo + i * 3, none⟩)) rfl rfl (y_index rfl (hr := idxL bo oo N cap i HIX.out)) rfl ?_
          try simp only [List.setIfInBounds_toArray, List.set_cons_zero, List.set_cons_succ]
          refine wp_y (v := .pointer (some ⟨bo, oo + i * 3, none⟩)) rfl rfl (y_faddr rfl (hf := fg44_0 (bo) (oo + i * 3))) rfl ?_
          try simp only [List.setIfInBounds_toArray, List.set_cons_zero, List.set_cons_succ]
          refine wp_y (v := .slice v.sa v.sn v.sc) rfl rfl (y_load rfl (hl := fun w' h => by rw [h]; exact HLS.out)) rfl ?_
          try simp only [List.setIfInBounds_toArray, List.set_cons_zero, List.set_cons_succ]
          refine wp_y (v := .int .i64 (v.sn : Nat)) rfl rfl (y_lenT lenO (p := v.sa) (c := v.sc) rfl (by kernel_rfl) (by kernel_rfl)) rfl ?_
          try simp only [List.setIfInBounds_toArray, List.set_cons_zero, List.set_cons_succ]
          refine wp_y (v := .bool b1) rfl rfl (y_bin (k := .i64) (k' := .i64) (m := (k : Nat)) (n := (v.sn : Nat)) rfl (by kernel_rfl) (by kernel_rfl) (by kernel_rfl) (qlss _ _ _ HB1.out)) rfl ?_
          try simp only [List.setIfInBounds_toArray, List.set_cons_zero, List.set_cons_succ]
          refine wp_y (v := .bool b1) rfl rfl (y_move rfl) rfl ?_
          try simp only [List.setIfInBounds_toArray, List.set_cons_zero, List.set_cons_succ]
          refine wp_yg (v := bif b1 then .int .i64 (k : Nat) else undef) rfl (by cases b1 with | false => exact y_skip (by kernel_rfl) rfl | true => exact y_move rfl) rfl ?_
          try simp only [List.setIfInBounds_toArray, List.set_cons_zero, List.set_cons_succ]
          refine wp_yg (v := bif b1 then .bool false else undef) rfl (by cases b1 with | false => exact y_skip (by kernel_rfl) rfl | true => exact y_bin (k := .i64) (k' := .i64) (m := (k : Nat)) (n := 60) rfl (by kernel_rfl) (by kernel_rfl) (by kernel_rfl) (qlss _ _ _ (HB2.out rfl))) rfl ?_
          try simp only [List.setIfInBounds_toArray, List.set_cons_zero, List.set_cons_succ]
          refine wp_y (v := .bool false) rfl rfl (by cases b1 with | false => exact y_pick (b := false) rfl | true => exact y_pick (b := true) rfl) rfl ?_
          try simp only [List.setIfInBounds_toArray, List.set_cons_zero, List.set_cons_succ]
          refine wp_end ?_
          generalize (bif b1 then Value.int .i64 (k : Nat) else undef) = x72
          generalize (bif b1 then Value.bool false else undef) = x73
          generalize Value.bool b1 = x70
          clear HB1 HB2 HLS HLK0 HBW
          have HAB := hid (HLE.out.abort HL.out.1)
          clear HLE
          go_wp2_with fail
          refine HAB.out.mono ?_
          rintro e wf ⟨rfl, hC⟩
          have HAT := hid hC
          clear hC HAB
          go_wp2_with fail
          refine HAT.out.mono ?_
          rintro e wg ⟨rfl, hLf⟩
          have hBg : Below B W wg := by obtain ⟨_, _, _, _, _, _, _, _, _, _, _, h⟩ := hLf; exact h
          have HLT2 := hid (load1 Tryz.isAgg42 (HCE.out wg hBg).2.2)
          have hin : Ints wg.heap.size wg v.ta v.tn v.zs := (((HV.out.2.2.1.ints HV.out.2.2.2.1).below (by rw [HB.out]; exact hBg))).mono hBg.size
          have HCR := hid (hLf.again Hn.out.1.1 HL.out.2.1 (cp := v.tc) hin HV.out.2.2.2.2)
          clear hLf hBg hin HAT
          go_upto_region 32 with fail
          refine wp_region_lit ?_
          refine wp_y (v := .pointer (some ⟨d, 0, none⟩)) rfl rfl (y_move rfl) rfl ?_
          try simp only [List.setIfInBounds_toArray, List.set_cons_zero, List.set_cons_succ]
          refine wp_y (v := .slice (some ⟨bo, oo, none⟩) N cap) rfl rfl (y_move rfl) rfl ?_
          try simp only [List.setIfInBounds_toArray, List.set_cons_zero, List.set_cons_succ]
          refine wp_y (v := .int .i64 (i : Nat)) rfl rfl (y_move rfl) rfl ?_
          try simp only [List.setIfInBounds_toArray, List.set_cons_zero, List.set_cons_succ]
          refine wp_y (v := .pointer (some ⟨bo, oo + i * 3, none⟩)) rfl rfl (y_index rfl (hr := idxL bo oo N cap i HIX.out)) rfl ?_
          try simp only [List.setIfInBounds_toArray, List.set_cons_zero, List.set_cons_succ]
          refine wp_y (v := .pointer (some ⟨bo, oo + i * 3 + 2, none⟩)) rfl rfl (y_faddr rfl (hf := fg44_2 (bo) (oo + i * 3))) rfl ?_
          try simp only [List.setIfInBounds_toArray, List.set_cons_zero, List.set_cons_succ]
          refine wp_y (v := .slice v.ta v.tn v.tc) rfl rfl (y_load rfl (hl := fun w' h => by rw [h]; exact HLT2.out)) rfl ?_
          try simp only [List.setIfInBounds_toArray, List.set_cons_zero, List.set_cons_succ]
          refine wp_call (f := 24) (args := #[.pointer (some ⟨d, 0, none⟩), .slice v.ta v.tn v.tc]) (by kernel_rfl) (fun w => by go_simp) ?_
          refine HCR.out.mono ?_
          rintro e wx ⟨d2, rfl, hC⟩
          refine ⟨_, rfl, ?_⟩
          have HJO := hid hC
          clear hC HCR HLT2
          dsimp only [Act.put]
          try simp only [List.setIfInBounds_toArray, List.set_cons_zero, List.set_cons_succ]
          refine wp_y (v := .pointer (some ⟨d2, 0, none⟩)) rfl rfl (y_assign rfl) rfl ?_
          try simp only [List.setIfInBounds_toArray, List.set_cons_zero, List.set_cons_succ]
          refine wp_end ?_
          go_wp2_with fail
          refine HJO.out.mono ?_
          rintro e wh ⟨j2, rfl, hC⟩
          have HPO := hid hC
          clear hC HJO
          go_wp2_with fail
          refine HPO.out.mono ?_
          rintro e wi ⟨p2, rfl, hLg⟩
          have HHA := hid hLg.has
          clear hLg HPO
          go_wp2_with fail
          refine HHA.out.mono ?_
          rintro e wj (⟨rfl, hLt⟩ | ⟨rfl, hC⟩)
          · have HZ := hid hLt
            clear hLt HHA
            go_wp2_with fail
            exact ⟨⟨i + 1, d2, p2, r, HLT.out.1, HLT.out.2, rfl, rfl, rfl, rfl, HZ.out⟩, by have := HLT.out; simp [intOf]; omega⟩
          · have HH2 := hid hC
            clear hC HHA
            go_wp2_with fail
            refine HH2.out.mono ?_
            rintro e wk ⟨rfl, hLt⟩
            have HZ := hid hLt
            clear hLt HH2
            go_wp2_with fail
            exact ⟨⟨i + 1, d2, p2, t, HLT.out.1, HLT.out.2, rfl, rfl, rfl, rfl, HZ.out⟩, by have := HLT.out; simp [intOf]; omega⟩
    · have HZ := hid hP.belowW
      clear hP hnn hwi
      by_cases h1 : (i : Int) < (N : Int)
      · have h2 : ¬ (i : Int) < 5 := by omega
        clear hlt hiN hi
        go_wp2_with fail
        go_ret
        exact ⟨rfl, HZ.out⟩
      · clear hlt hiN hi
        go_wp2_with fail
        go_ret
        exact ⟨rfl, HZ.out⟩
end Go.Proofs.YtcmgclkbhhdnaaaGreatDoor
