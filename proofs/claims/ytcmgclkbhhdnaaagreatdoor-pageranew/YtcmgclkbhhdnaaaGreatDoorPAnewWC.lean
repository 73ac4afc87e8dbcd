/- the text PAnewW -/
import Derived.Test.YtcmgclkbhhdnaaaGreatDoorPScrC
namespace Go.Proofs.YtcmgclkbhhdnaaaGreatDoor
open Go Go.RowKit

theorem cat_zeros {nb : Nat} (h : 2 ≤ nb) : cat (zeros nb) 0 2 = List.replicate 224 0 := by
  unfold cat zeros
  rw [List.drop_zero, List.take_replicate, Nat.min_eq_left h, List.flatten_replicate_replicate]
/-- Format, over whatever pages there are, and Open: nothing of it is left. -/
theorem Pl.format {W : World} {B n L i p j d r : Nat} {w : World} (h : Pl W B n L i p j d r w) (hn : nbOf n ≤ 170) (hn0 : 32 ≤ n) (hLn : pgOf n = L) (hi : i ≤ 1000) : Calls Tryz.prog 32 #[.pointer (some ⟨j, 0, none⟩)] w fun e w1 => e = .returned (.int .i64 0) ∧
    Calls Tryz.prog 13 #[.pointer (some ⟨j, 0, none⟩)] w1 fun e w2 => ∃ p2, e = .returned (.tuple #[.pointer (some ⟨p2, 0, none⟩), .int .i64 0]) ∧ (∃ s' sq' bl', Pv B w2 p2 j d s' sq' bl' (List.replicate L none) (List.replicate L none) (-1) (-1)) ∧
      Calls Tryz.prog 34 #[.pointer (some ⟨j, 0, none⟩)] w2 (fun e w3 => e = .returned (.int .i64 (nbOf n : Nat)) ∧ w3 = w2) ∧ Below B W w2 := by
  obtain ⟨s, sq, bl, cur, was, rt, ww, hBo, hsn, hcut, hops, hsq, hcl, hBw⟩ := h
  obtain ⟨⟨X, cnt, bg, um, bm, u, g, h⟩, _⟩ := hBo
  have hbl : bl.length = nbOf s.n := h.js.jr.sett.con.len
  have hJs : Js B w j d X s sq cnt bl := ⟨h.js.jr, hcut, h.js.lo, h.js.jlo⟩
  refine (pformat_any hJs h.Bw (by omega) (by rw [hsn]; omega) (n := L) (by rw [hsn]; exact hLn)).mono ?_
  rintro e w1 ⟨rfl, s4, X4, cnt4, hJ4, hn4, _, _, hB4, _⟩
  have htk : tk (List.replicate L none) = List.replicate L false := by simp [tk]
  have h15 : 15 ≤ nbOf n := by unfold nbOf; omega
  refine ⟨rfl, (open_head hJ4.jc (was := List.replicate L none) (wr := -1) (by rw [head_laid _ (by rw [hbl, hsn]; omega) _ (hdOf_len _ _), htk]; rfl) (by rw [layAll_len, hbl, hsn, List.length_replicate]; exact hLn) (.inl rfl) (fun i c hi => by rw [List.getElem?_replicate] at hi; split at hi <;> simp at hi) h.tb (Nat.le_trans h.Bw hB4.size)).mono ?_⟩
  rintro e w2 ⟨p2, _, rfl, hP5, hB5⟩
  have hjb : ∃ cnt5 X5 s5 bl5, s5.n = n ∧ Jc B w2 j d X5 s5 (sq + 1) cnt5 bl5 := by
    obtain ⟨X, cnt, bg, um, bm, u, g, h⟩ := hP5
    exact ⟨cnt, X, s4, _, hn4.trans hsn, h.js⟩
  obtain ⟨cnt5, X5, s5, bl5, hs5, hJ5⟩ := hjb
  have hb := jblocks_any hJ5.jr.jn
  rw [hs5] at hb
  exact ⟨p2, rfl, ⟨s4, sq + 1, _, hP5⟩, hb, (hBw.trans hB4).trans (hB5.mono (Nat.le_trans h.Bw hB4.size))⟩
set_option maxRecDepth 100000 in
set_option maxHeartbeats 4000000 in
theorem pagerAnew_walk (c : Int) (a : Option Addr) (N cap : Nat) (xs : List Op8) (W : World) (ht : Tab W) (hc : -9223372036854775808 ≤ c ∧ c ≤ 9223372036854775807) (hs : Ops8 W a N xs) (hN : N ≤ 9223372036854775807) :
    Calls Tryz.prog 6 #[.int .i64 c, .slice a N cap] W fun e w' => e = .returned (.bool true) ∧ Below W.heap.size W w' := by
  obtain ⟨B, hB⟩ : ∃ B, W.heap.size = B := ⟨_, rfl⟩
  rw [hB]
  have HSH := hid (shown_any W ht)
  have HT := hid ht
  have HTL : Hid (0 < B) := hid (by rw [← hB]; exact tab_lt ht)
  have HC := hid hc
  have HSC0 := hid hs
  have HNN := hid hN
  have HB := hid hB
  have hpk := pk_lt c (n := 300) (by decide)
  obtain ⟨n, hn⟩ : ∃ n, 32 + pk c 300 = n := ⟨_, rfl⟩
  have Hn : Hid ((32 ≤ n ∧ n ≤ 331) ∧ 32 + pk c 300 = n) := hid ⟨by omega, hn⟩
  have hadd : IntKind.i64.wrap (32 + ((pk c 300 : Nat) : Int)) = (n : Int) := by rw [IntWalk.i64_in _ ⟨by omega, by omega⟩]; omega
  have hnb := pgOf_le (n := n) (by omega) (by omega)
  obtain ⟨L, hL⟩ : ∃ L, pgOf n = L := ⟨_, rfl⟩
  have HL : Hid (1 ≤ L ∧ nbOf n ≤ 170 ∧ pgOf n = L) := hid ⟨by omega, hnb.2, hL⟩
  have hadq : ∃ q, pk c 300 = q := ⟨_, rfl⟩
  obtain ⟨q, hq⟩ := hadq
  rw [hq] at hadd
  have HQ0 := hid hq
  clear ht hc hs hN hpk hn hB hnb hL hq
  go_enter Tryz.func6, Tryz.ntmps6
  go_wp2_with fail
  refine HSH.out.mono ?_
  rintro e w0 ⟨rfl, hB0⟩
  have hpk := pick_any c 300 HC.out.1 HC.out.2 (by decide) w0
  rw [HQ0.out] at hpk
  have HPK := hid hpk
  have hn := Hn.out
  have HN := hid (new_d w0 n (by omega) (by omega))
  have HT0 := hid (HT.out.below hB0)
  have HTL0 := hid (tab_lt (HT.out.below hB0))
  rw [HB.out] at hB0
  have HB0 : Hid (Below B W w0 ∧ B ≤ w0.heap.size) := hid ⟨hB0, by have := hB0.size; have := HB.out; omega⟩
  clear hB0 hpk hn HSH
  go_wp2_with fail
  refine HPK.out.mono ?_
  rintro e wp ⟨rfl, hwp⟩
  obtain rfl := hwp.symm
  clear HPK
  go_wp2_with fail
  refine HN.out.mono ?_
  rintro e w1 ⟨d0, X1, rfl, hD1, hX1, hB1⟩
  have hnot : ∀ {X : List Nat}, (∀ k ∈ X, w0.heap.size ≤ k) → 0 ∉ X := fun h hm => by
    have h2 := h _ hm
    have h3 := HTL0.out
    omega
  have hn := Hn.out.1
  have hnb : nbOf n ≤ 170 := HL.out.2.1
  have HF := hid (format_rest hD1 (HT0.out.below hB1) rfl (show 32 ≤ (DS.new n).n from hn.1) rfl (by show (0 : Int) + _ ≤ _; show (0 : Int) + ((2 * nbOf n + 3 : Nat) : Int) ≤ 1048576; omega) (hnot hX1))
  have HB1 := hid hB1
  have HX1 := hid hX1
  clear hD1 hB1 hX1 HN hnb hadd hn
  go_wp2_with fail
  refine HF.out.mono ?_
  rintro e w2 ⟨rfl, s2, X2, hD2, hT2, hS2, h21, h22, h23, hX2, hF2⟩
  have hB2 : Below w0.heap.size w0 w2 := HB1.out.trans (hF2.below HB1.out.size HX1.out)
  have hX2' : ∀ k ∈ X2, w0.heap.size ≤ k := fun k hk => by
    rcases hX2 k hk with h | h
    · exact HX1.out k h
    · exact Nat.le_trans HB1.out.size h
  have HO := hid (open_first hD2 hT2 hS2 (hnot hX2'))
  have HB2 := hid hB2
  have HX2 := hid hX2'
  have HS := hid (show s2.n = n from h21)
  clear hD2 hT2 hS2 h21 h22 h23 hX2 hF2 hB2 hX2' HB1 HX1 HF hnot
  go_wp2_with fail
  refine HO.out.mono ?_
  rintro e w3 ⟨j0, X3, hj, rfl, hJ3, hX3, hF3⟩
  have hB3 : Below w0.heap.size w0 w3 := HB2.out.trans (hF3.below HB2.out.size HX2.out)
  have hn := Hn.out.1
  have h15 : 15 ≤ nbOf n := by unfold nbOf; omega
  have HPO := hid (popen_bad hJ3 (n := L) (hd := List.replicate 224 0) (by rw [HS.out]; exact HL.out.2.2) (cat_zeros (by show 2 ≤ nbOf n; omega)) (by rfl) (by rfl) (fun e => by
    have h1 := hdOf_0 (lk (List.replicate 224 0) L L) 0
    rw [e] at h1
    revert h1
    decide))
  have HB3 : Hid (Below B W w3 ∧ B ≤ w3.heap.size) := hid ⟨HB0.out.1.trans (hB3.mono HB0.out.2), Nat.le_trans HB0.out.2 hB3.size⟩
  clear hj hJ3 hX3 hF3 hB3 HO HB2 HX2 hn h15 HS HT0 HTL0 HB0
  go_wp2_with fail
  refine HPO.out.mono ?_
  rintro e w4 ⟨rfl, hB4⟩
  have hB4' : Below B W w4 := HB3.out.1.trans (hB4.mono HB3.out.2)
  have hbg := begun_any c HC.out.1 HC.out.2 w4 (HT.out.belowB hB4' HTL.out)
  rw [Hn.out.2] at hbg
  have HBG := hid hbg
  have HB1 : Hid (Below B W w4 ∧ B ≤ w4.heap.size) := hid ⟨hB4', Nat.le_trans HB3.out.2 hB4.size⟩
  clear hB4 hB4' hbg HPO HB3
  go_wp2_with fail
  refine HBG.out.mono ?_
  intro e w5 hbg
  obtain ⟨d, j, p, r, rfl, hP⟩ := Pl.begun hbg Hn.out.1 HB1.out.1 HB1.out.2 HTL.out
  rw [HL.out.2.2] at hP
  have HI0 := hid hP
  clear hbg hP HBG HB1
  go_wp2_with fail
  go_loopw [16, 17] (fun v16 _ wr => ∃ i : Nat, i ≤ N ∧ i ≤ 60 ∧ v16 = .int .i64 i ∧ Pl W B n L i p j d r wr) (fun v16 _ _ => 60 - (intOf v16).toNat)
  case atStart => exact ⟨0, Nat.zero_le _, Nat.zero_le _, rfl, HI0.out⟩
  case round =>
    clear HI0
    obtain ⟨i, hiN, hi, rfl, hP⟩ := hrel
    have hnn := HNN.out
    have hwk : IntKind.i64.wrap ((i : Int) + 1) = ((i + 1 : Nat) : Int) := by rw [IntWalk.i64_in _ ⟨by omega, by omega⟩]; omega
    by_cases hlt : i < N ∧ i < 60
    · have hlt1 : (i : Int) < (N : Int) := by omega
      have hlt2 : (i : Int) < 60 := by omega
      obtain ⟨x, hx⟩ : ∃ x, xs[i]? = some x := ⟨_, List.getElem?_eq_getElem (by have := HSC0.out.1; omega)⟩
      obtain ⟨hxo, b, off, rfl, hc0, hc1, hc2⟩ := HSC0.out.2 i x hx
      obtain ⟨v, hv⟩ := byte_of hxo.2.2
      have hbl : b < B := by have h1 : b < W.heap.size := World.block_lt_of_cell? W _ hc0; have := HB.out; omega
      have hBw := hP.below
      rw [← Nat.add_assoc] at hc1 hc2
      have hd0 : wr.cell? ⟨b, off + i * 3, none⟩ = some (.int .i64 x.kd) := (hBw.cell (p := ⟨b, off + i * 3, none⟩) hbl).trans hc0
      have hd1 : wr.cell? ⟨b, off + i * 3 + 1, none⟩ = some (.int .i64 x.pg) := (hBw.cell (p := ⟨b, off + i * 3 + 1, none⟩) hbl).trans hc1
      have hd2 : wr.cell? ⟨b, off + i * 3 + 2, none⟩ = some (cb v) := ((hBw.cell (p := ⟨b, off + i * 3 + 2, none⟩) hbl).trans hc2).trans (by rw [hv]; rfl)
      have HLX := hid (load32 hd0 hd1 hd2)
      have HIX := hid hlt.1
      have HLT := hid hlt
      have HX := hid hxo
      have hk11 := pk_lt x.kd (n := 10) (by decide)
      obtain ⟨kd, hkd⟩ : ∃ kd, pk x.kd 10 = kd := ⟨_, rfl⟩
      have HKD := hid hkd
      rw [hkd] at hk11
      have HK := hid hk11
      have HP := hid hP
      clear hP hxo hx hv hbl hBw hd0 hd1 hd2 hc0 hc1 hc2 hlt hiN hi hnn hkd hk11
      obtain ⟨go, wa, wb, wc, hal, hsr, hlk, hsc, hlo, hBb, hBc⟩ := scr_any wr x.kd x.pg ((kd : Nat) : Int) v
      have HAL := hid hal
      have HSR := hid hsr
      have HLK := hid hlk
      have HSC := hid hsc
      have HLO := hid hlo
      have HBC := hid hBc
      have HPK2 := hid (pick_any x.kd 10 HX.out.1.1 HX.out.1.2 (by decide) wb)
      rw [HKD.out] at HPK2
      clear hal hsr hlk hsc hlo hBb hBc
      go_upto_region 14 with fail
      refine wp_region_lit ?_
      refine wp_y (v := .slice (some ⟨b, off, none⟩) N cap) rfl rfl (y_move rfl (by kernel_rfl) (by kernel_rfl)) rfl ?_
      try simp only [List.setIfInBounds_toArray, List.set_cons_zero, List.set_cons_succ]
      refine wp_y (v := .int .i64 (i : Nat)) rfl rfl (y_move rfl (by kernel_rfl) (by kernel_rfl)) rfl ?_
      try simp only [List.setIfInBounds_toArray, List.set_cons_zero, List.set_cons_succ]
      refine wp_y (v := .pointer (some ⟨b, off + i * 3, none⟩)) rfl rfl (y_index rfl (by kernel_rfl) (by kernel_rfl) (by kernel_rfl) (idx22 b off N cap i HIX.out)) rfl ?_
      try simp only [List.setIfInBounds_toArray, List.set_cons_zero, List.set_cons_succ]
      refine wp_y (v := .agg #[.int .i64 x.kd, .int .i64 x.pg, cb v]) rfl rfl (y_load rfl (by kernel_rfl) (by kernel_rfl) (fun w' h => by rw [h]; exact HLX.out)) rfl ?_
      try simp only [List.setIfInBounds_toArray, List.set_cons_zero, List.set_cons_succ]
      refine wp_run (v := .pointer (some ⟨go, 0, none⟩)) rfl rfl (run_alOp rfl HAL.out) rfl ?_
      try simp only [List.setIfInBounds_toArray, List.set_cons_zero, List.set_cons_succ]
      refine wp_do rfl rfl (run_storeOp rfl (by kernel_rfl) (by kernel_rfl) HSR.out) ?_
      try simp only [List.setIfInBounds_toArray, List.set_cons_zero, List.set_cons_succ]
      refine wp_end ?_
      go_upto_region 15 with fail
      refine wp_region_lit ?_
      refine wp_y (v := .pointer (some ⟨go, 0, none⟩)) rfl rfl (y_faddr rfl (by kernel_rfl) (by kernel_rfl) (fg32_0 (go) (0))) rfl ?_
      try simp only [List.setIfInBounds_toArray, List.set_cons_zero, List.set_cons_succ]
      refine wp_y (v := .int .i64 x.kd) rfl rfl (y_load rfl (by kernel_rfl) (by kernel_rfl) (fun w' h => by rw [h]; exact HLK.out)) rfl ?_
      try simp only [List.setIfInBounds_toArray, List.set_cons_zero, List.set_cons_succ]
      refine wp_call (f := 12) (args := #[.int .i64 x.kd, .int .i64 10]) (by kernel_rfl) (fun w => by go_simp) ?_
      refine HPK2.out.mono ?_
      rintro e wz ⟨rfl, hwz⟩
      obtain rfl := hwz.symm
      refine ⟨_, rfl, ?_⟩
      dsimp only [Act.put]
      try simp only [List.setIfInBounds_toArray, List.set_cons_zero, List.set_cons_succ]
      refine wp_y (v := .pointer (some ⟨go, 0, none⟩)) rfl rfl (y_faddr rfl (by kernel_rfl) (by kernel_rfl) (fg32_0 (go) (0))) rfl ?_
      try simp only [List.setIfInBounds_toArray, List.set_cons_zero, List.set_cons_succ]
      refine wp_do rfl rfl (run_storeOp rfl (by kernel_rfl) (by kernel_rfl) HSC.out) ?_
      try simp only [List.setIfInBounds_toArray, List.set_cons_zero, List.set_cons_succ]
      refine wp_end ?_
      have HDO := hid (HP.out.does HBC.out HL.out.1 HL.out.2.1 (by have := HLT.out; omega) kd HK.out x.pg v)
      clear HAL HSR HLK HSC HPK2 HLX
      go_upto_region 16 with fail
      refine wp_region_lit ?_
      refine wp_y (v := .pointer (some ⟨p, 0, none⟩)) rfl rfl (y_move rfl (by kernel_rfl) (by kernel_rfl)) rfl ?_
      try simp only [List.setIfInBounds_toArray, List.set_cons_zero, List.set_cons_succ]
      refine wp_y (v := .pointer (some ⟨r, 0, none⟩)) rfl rfl (y_move rfl (by kernel_rfl) (by kernel_rfl)) rfl ?_
      try simp only [List.setIfInBounds_toArray, List.set_cons_zero, List.set_cons_succ]
      refine wp_y (v := .agg #[.int .i64 (kd : Nat), .int .i64 x.pg, cb v]) rfl rfl (y_load rfl (by kernel_rfl) (by kernel_rfl) (fun w' h => by rw [h]; exact HLO.out)) rfl ?_
      try simp only [List.setIfInBounds_toArray, List.set_cons_zero, List.set_cons_succ]
      refine wp_call (f := 15) (args := #[.pointer (some ⟨p, 0, none⟩), .pointer (some ⟨r, 0, none⟩), .agg #[.int .i64 (kd : Nat), .int .i64 x.pg, cb v]]) (by kernel_rfl) (fun w => by go_simp) ?_
      refine HDO.out.mono ?_
      rintro e w4 ⟨rfl, hP4⟩
      refine ⟨_, rfl, ?_⟩
      have HQ := hid hP4
      clear hP4 HDO HLO HBC
      dsimp only [Act.put]
      try simp only [List.setIfInBounds_toArray, List.set_cons_zero, List.set_cons_succ]
      refine wp_end ?_
      go_wp2_with fail
      exact ⟨⟨i + 1, HLT.out.1, HLT.out.2, rfl, HQ.out⟩, by have := HLT.out; simp [intOf]; omega⟩
    · have HFO := hid (hP.format HL.out.2.1 Hn.out.1.1 HL.out.2.2 (by omega))
      clear hP hnn
      by_cases h1 : (i : Int) < (N : Int)
      · have h2 : ¬ (i : Int) < 60 := by omega
        clear hlt hiN hi
        go_wp2_with fail
        refine HFO.out.mono ?_
        rintro e w6 ⟨rfl, hC⟩
        have HOP := hid hC
        clear hC HFO
        go_wp2_with fail
        refine HOP.out.mono ?_
        rintro e w7 ⟨p2, rfl, ⟨s', sq', bl', hP7⟩, hbk, hB7⟩
        have HBK := hid hbk
        have hl := HL.out
        have hn := Hn.out.1
        have HRB := hid (refBegun_any (nbOf n) L (by unfold nbOf; omega) (by omega) hl.2.2 w7)
        have H7 : Hid ((∃ s' sq' bl', Pv B w7 p2 j d s' sq' bl' (List.replicate L none) (List.replicate L none) (-1) (-1)) ∧ Below B W w7) := hid ⟨⟨s', sq', bl', hP7⟩, hB7⟩
        clear hP7 hbk hB7 hl hn HOP
        go_wp2_with fail
        refine HBK.out.mono ?_
        rintro e wz ⟨rfl, hwz⟩
        obtain rfl := hwz.symm
        clear HBK
        go_wp2_with fail
        refine HRB.out.mono ?_
        rintro e w8 ⟨r8, _, rfl, hR8, hB8⟩
        have hhas : ∃ s' sq' bl', Pv B w8 p2 j d s' sq' bl' (List.replicate L none) (List.replicate L none) (-1) (-1) := by
          obtain ⟨⟨s', sq', bl', h⟩, _⟩ := H7.out
          exact ⟨s', sq', bl', h.below hB8⟩
        obtain ⟨s9, sq9, bl9, hP9⟩ := hhas
        have hh := lhas_any hP9 hR8 rfl
        rw [decide_eq_true ⟨rfl, rfl⟩] at hh
        have HHA := hid hh
        have HB8 : Hid (Below B W w8 ∧ B ≤ w8.heap.size) := hid ⟨H7.out.2.trans (hB8.mono (by obtain ⟨⟨_, _, _, h⟩, _⟩ := H7.out; exact h.Bw)), hP9.Bw⟩
        clear hR8 hB8 hP9 hh HRB H7
        go_wp2_with fail
        refine HHA.out.mono ?_
        rintro e w9 ⟨rfl, hB9⟩
        have HZ := hid (HB8.out.1.trans (hB9.mono HB8.out.2))
        clear hB9 HHA HB8
        go_wp2_with fail
        go_ret
        exact ⟨rfl, HZ.out⟩
      · clear hlt hiN hi
        go_wp2_with fail
        refine HFO.out.mono ?_
        rintro e w6 ⟨rfl, hC⟩
        have HOP := hid hC
        clear hC HFO
        go_wp2_with fail
        refine HOP.out.mono ?_
        rintro e w7 ⟨p2, rfl, ⟨s', sq', bl', hP7⟩, hbk, hB7⟩
        have HBK := hid hbk
        have hl := HL.out
        have hn := Hn.out.1
        have HRB := hid (refBegun_any (nbOf n) L (by unfold nbOf; omega) (by omega) hl.2.2 w7)
        have H7 : Hid ((∃ s' sq' bl', Pv B w7 p2 j d s' sq' bl' (List.replicate L none) (List.replicate L none) (-1) (-1)) ∧ Below B W w7) := hid ⟨⟨s', sq', bl', hP7⟩, hB7⟩
        clear hP7 hbk hB7 hl hn HOP
        go_wp2_with fail
        refine HBK.out.mono ?_
        rintro e wz ⟨rfl, hwz⟩
        obtain rfl := hwz.symm
        clear HBK
        go_wp2_with fail
        refine HRB.out.mono ?_
        rintro e w8 ⟨r8, _, rfl, hR8, hB8⟩
        have hhas : ∃ s' sq' bl', Pv B w8 p2 j d s' sq' bl' (List.replicate L none) (List.replicate L none) (-1) (-1) := by
          obtain ⟨⟨s', sq', bl', h⟩, _⟩ := H7.out
          exact ⟨s', sq', bl', h.below hB8⟩
        obtain ⟨s9, sq9, bl9, hP9⟩ := hhas
        have hh := lhas_any hP9 hR8 rfl
        rw [decide_eq_true ⟨rfl, rfl⟩] at hh
        have HHA := hid hh
        have HB8 : Hid (Below B W w8 ∧ B ≤ w8.heap.size) := hid ⟨H7.out.2.trans (hB8.mono (by obtain ⟨⟨_, _, _, h⟩, _⟩ := H7.out; exact h.Bw)), hP9.Bw⟩
        clear hR8 hB8 hP9 hh HRB H7
        go_wp2_with fail
        refine HHA.out.mono ?_
        rintro e w9 ⟨rfl, hB9⟩
        have HZ := hid (HB8.out.1.trans (hB9.mono HB8.out.2))
        clear hB9 HHA HB8
        go_wp2_with fail
        go_ret
        exact ⟨rfl, HZ.out⟩
end Go.Proofs.YtcmgclkbhhdnaaaGreatDoor
