/- The walk of JournalRefuses. -/
import Derived.Test.YtdogjicccajnkaaDoorJGh
namespace Go.Proofs.YtdogjicccajnkaaDoor
open Go Go.RowKit

theorem load45 {w : World} {b : Nat} {kd raw by_ : Int} {va : Value} (h : w.heap[b]? = some (.cells #[.int .i64 kd, va, .int .u8 by_, .int .i64 raw] 45 (0, 0))) : (Instr.loadAt 45 (.pointer (some ⟨b, 0, none⟩))).run Tryd.prog w = .ok (.agg #[.int .i64 kd, va, .int .u8 by_, .int .i64 raw]) w := by
  have h0 : w.cell? ⟨b, 0, none⟩ = some (.int .i64 kd) := cell_at h 0 rfl
  have h1 : w.cell? ⟨b, 1, none⟩ = some va := cell_at h 1 rfl
  have h2 : w.cell? ⟨b, 2, none⟩ = some (.int .u8 by_) := cell_at h 2 rfl
  have h3 : w.cell? ⟨b, 3, none⟩ = some (.int .i64 raw) := cell_at h 3 rfl
  go_simp
set_option maxRecDepth 100000 in
set_option maxHeartbeats 8000000 in
theorem journalRefuses_walk (c kd by_ raw : Int) (va0 va vb : Value) (zs0 zs : List Int) (ps : List (List UInt8)) (W : World) (ht : Tab W) (hc : -9223372036854775808 ≤ c ∧ c ≤ 9223372036854775807) (ha0 : Iz W va0 zs0) (hl0 : zs0.length ≤ 9223372036854775807) (hz0 : ∀ x ∈ zs0, -9223372036854775808 ≤ x ∧ x ≤ 9223372036854775807) (hby : 0 ≤ by_ ∧ by_ ≤ 255) (ha : Iz W va zs) (hb : Bz W vb ps) (hl : zs.length ≤ 281474976710656) :
    Calls Tryd.prog 8 #[.int .i64 c, .agg #[.int .i64 kd, va0, .int .u8 by_, .int .i64 raw], va, vb] W fun e w' => e = .returned (.bool true) ∧ Below W.heap.size W w' := by
  have HN := hid (sizeOf6_le c)
  have HSZ := hid (fun w => size_any c hc.1 hc.2 w)
  generalize sizeOf6 c = n at *
  have HIA0 := hid ha0
  obtain ⟨aa, ca, rfl, _⟩ := ha0
  obtain ⟨N0, hN0⟩ : ∃ N0, N0 = zs0.length := ⟨_, rfl⟩
  rw [← hN0] at HIA0 ⊢
  have HL0 := hid hl0
  have HZ0 := hid hz0
  have HBY := hid hby
  have HIA := hid ha
  have HIB := hid hb
  have HL := hid hl
  have HT := hid ht
  have HTL := hid (tab_lt ht)
  obtain ⟨a1, c1, rfl, _⟩ := ha
  obtain ⟨M, hM⟩ : ∃ M, M = zs.length := ⟨_, rfl⟩
  rw [← hM] at HIA ⊢
  have HM := hid hM
  have HNB : Hid (nbOf n ≠ 0 ∧ nbOf n ≤ 1000000) := hid (by have := HN.out; unfold nbOf; omega)
  have HNB2 : Hid (nbOf n ≤ 45) := hid (by have := HN.out; unfold nbOf; omega)
  have hB0 : Below W.heap.size W (W.alloc (.cells #[.int .i64 kd, .slice aa N0 ca, .int .u8 by_, .int .i64 raw] 45)) := (Below.refl _ _).alloc (Nat.le_refl _) _
  have hr0 : (W.alloc (.cells #[.int .i64 kd, .slice aa N0 ca, .int .u8 by_, .int .i64 raw] 45)).heap[W.heap.size]? = some (.cells #[.int .i64 kd, .slice aa N0 ca, .int .u8 by_, .int .i64 raw] 45 (0, 0)) := heap_alloc_last W _
  have HB0 := hid hB0
  have HR0 := hid hr0
  clear hB0 hr0 hl0 hz0 hby hb hl ht hc hN0 hM
  go_enter Tryd.func8, Tryd.ntmps8
  go_wp2_with fail
  generalize W.alloc (.cells #[.int .i64 kd, .slice aa N0 ca, .int .u8 by_, .int .i64 raw] 45) = w0 at *
  generalize hab : W.heap.size = ab at *
  refine (shown_any w0 (HT.out.belowB HB0.out HTL.out)).mono ?_
  rintro e w1 ⟨rfl, hB1⟩
  have HB1 : Hid (Below ab W w1) := hid (HB0.out.trans (hB1.mono (by rw [← hab]; exact HB0.out.size)))
  have HR1 := hid (below_at hB1 HR0.out (heap_lt HR0.out))
  have HT1 : Hid (Tab w1) := hid (HT.out.belowB HB1.out HTL.out)
  clear hB1 HR0 HB0
  go_wp2_with fail
  refine (HSZ.out _).mono ?_
  rintro e wz ⟨rfl, hwz⟩
  obtain rfl := hwz.symm
  go_wp2_with fail
  refine (begun_any n HN.out.1 (by have := HN.out; omega) w1 HT1.out).mono ?_
  intro e w2 hbg
  obtain ⟨p, j, r, X, s, rfl, hJ2, hsn, hso, _, _, hB2⟩ := hbg.js
  have hb1 : ab < w1.heap.size := heap_lt HR1.out
  have HR2 := hid (below_at hB2 HR1.out hb1)
  have HB2 : Hid (Below ab W w2) := hid (HB1.out.trans (hB2.mono (by rw [← hab]; exact HB1.out.size)))
  have HT2 : Hid (Tab w2) := hid (HT.out.belowB HB2.out HTL.out)
  have HBS : Hid (w1.heap.size ≤ w2.heap.size) := hid hB2.size
  have HSN := hid hsn
  have HSO := hid hso
  have HJ2 := hid hJ2
  have HB1L := hid hb1
  generalize hnb : nbOf n = nb at *
  generalize w1.heap.size = b1 at *
  clear hB2 HR1 HB1 hbg hsn hso hJ2 hb1 HT1
  have hc3 : w2.cell? ⟨ab, 3, none⟩ = some (.int .i64 raw) := cell_at HR2.out 3 rfl
  have hf3 : w2.frozen? ⟨ab, 3, none⟩ = false := open_at HR2.out 3
  have HS3 : Hid ((w2.setCell ⟨ab, 3, none⟩ (.int .i64 2)).heap[ab]? = some (.cells #[.int .i64 kd, .slice aa N0 ca, .int .u8 by_, .int .i64 2] 45 (0, 0)) ∧ Js b1 (w2.setCell ⟨ab, 3, none⟩ (.int .i64 2)) j p X s 0 0 (zeros nb) ∧ Iz (w2.setCell ⟨ab, 3, none⟩ (.int .i64 2)) (.slice aa N0 ca) zs0) := hid (by
    have hF : Fr [ab] w2 (w2.setCell ⟨ab, 3, none⟩ (.int .i64 2)) := Fr.setCell _ _ _ _
    have hB3 : Below ab W (w2.setCell ⟨ab, 3, none⟩ (.int .i64 2)) := HB2.out.trans (hF.below (by rw [← hab]; exact HB2.out.size) (by simp))
    refine ⟨heap_setCell HR2.out 3 _, HJ2.out.fr hF (fun k hk hm => ?_) (HT.out.belowB hB3 HTL.out), HIA0.out.below (by rw [hab]; exact hB3)⟩
    have h1 := HJ2.out.lo' k hk
    have h2 := HB1L.out
    have h3 : k = ab := by simpa using hm
    omega)
  have HB3 : Hid (Below ab W (w2.setCell ⟨ab, 3, none⟩ (.int .i64 2))) := hid (HB2.out.trans ((Fr.setCell w2 ab 3 (.int .i64 2)).below (by rw [← hab]; exact HB2.out.size) (by simp)))
  clear HR2 HJ2 HB2 HT2 HIA0
  go_upto_region 6 with fail
  clear hc3 hf3
  generalize w2.setCell ⟨ab, 3, none⟩ (.int .i64 2) = w3 at *
  have hd : Below w3.heap.size w3 w3.drew := (Below.refl _ _).drew
  have HS3 := hid (And.intro (below_at hd HS3.out.1 (heap_lt HS3.out.1)) (And.intro (HS3.out.2.1.below hd) (HS3.out.2.2.below hd)))
  have HB3 := hid (HB3.out.trans (hd.mono (by have := HB3.out.size; omega)))
  clear hd
  refine z_open (S := fun w' => w'.heap[ab]? = some (.cells #[.int .i64 kd, .slice aa N0 ca, .int .u8 by_, .int .i64 2] 45 (0, 0)) ∧ Js b1 w' j p X s 0 0 (zeros nb) ∧ Iz w' (.slice aa N0 ca) zs0) 3 (by kernel_rfl) (by kernel_rfl) (fun _ _ _ _ _ h => h) (L := #[false, false, false, false, false, false, false, false, false]) (by kernel_rfl) ?_
  intro Q' hns hP hN
  have hS := HS3.out
  refine z_read (i := 0) (v := .agg #[.int .i64 kd, .slice aa N0 ca, .int .u8 by_, .int .i64 2]) hns rfl (by kernel_rfl) rfl rfl (by kernel_rfl) (by kernel_rfl) hP (y_load rfl (by kernel_rfl) (by kernel_rfl) (fun w' h => load45 h.1)) rfl hS rfl (L' := #[true, false, false, false, false, false, false, false, false]) (by kernel_rfl) ?_
  refine z_pure (i := 1) (v := .pointer (some ⟨j, 0, none⟩)) hns rfl rfl rfl (by kernel_rfl) (by kernel_rfl) hP (y_move rfl (by kernel_rfl) (by kernel_rfl)) (fun _ => hS) rfl (L' := #[true, true, false, false, false, false, false, false, false]) (by kernel_rfl) ?_
  refine z_call (i := 2) (f := 16) (args := #[.pointer (some ⟨j, 0, none⟩)]) (by kernel_rfl) rfl rfl (by kernel_rfl) (enter_go rfl (by kernel_rfl) (fun w => by go_simp)) (L' := #[true, true, true, false, false, false, false, false, false]) (by kernel_rfl) ?_
  refine (jblocks_any (hS.2.1.jr.jn)).mono ?_
  rintro e wz ⟨rfl, hwz⟩
  obtain rfl := hwz.symm
  refine ⟨_, rfl, hS, ?_⟩
  rw [HSN.out]
  refine z_call (i := 3) (f := 22) (args := #[.agg #[.int .i64 kd, .slice aa N0 ca, .int .u8 by_, .int .i64 2], .int .i64 nb]) (by kernel_rfl) rfl rfl (by kernel_rfl) (enter_go rfl (by kernel_rfl) (fun w => by go_simp)) (L' := #[true, true, true, true, false, false, false, false, false]) (by kernel_rfl) ?_
  refine (blocks_any nb HNB.out.1 HNB.out.2 hS.2.2 HL0.out HZ0.out HBY.out (by decide)).mono ?_
  rintro e w4 ⟨v1, v2, zs1, qs1, rfl, hA4, hK4, hz4, hq4, hF4, hB4⟩
  have hS4 : _ ∧ _ ∧ _ := And.intro (below_at hB4 hS.1 (heap_lt hS.1)) (And.intro (hS.2.1.below hB4) (hS.2.2.below hB4))
  refine ⟨_, rfl, hS4, ?_⟩
  refine z_pure (i := 4) (v := .tuple #[v1, v2]) hns rfl rfl rfl (by kernel_rfl) (by kernel_rfl) hP (y_move rfl (by kernel_rfl) (by kernel_rfl)) (fun _ => hS4) rfl (L' := #[true, true, true, true, true, false, false, false, false]) (by kernel_rfl) ?_
  refine z_pure (i := 5) (v := v1) hns rfl rfl rfl (by kernel_rfl) (by kernel_rfl) hP (y_ext rfl (by kernel_rfl) (by kernel_rfl) (ext2_0 v1 v2)) (fun _ => hS4) rfl (L' := #[true, true, true, true, true, true, false, false, false]) (by kernel_rfl) ?_
  refine z_pure (i := 6) (v := v2) hns rfl rfl rfl (by kernel_rfl) (by kernel_rfl) hP (y_ext rfl (by kernel_rfl) (by kernel_rfl) (ext2_1 v1 v2)) (fun _ => hS4) rfl (L' := #[true, true, true, true, true, true, true, false, false]) (by kernel_rfl) ?_
  simp only [List.setIfInBounds_toArray, List.set_cons_zero, List.set_cons_succ]
  refine z_pure (i := 7) (v := v1) hns rfl rfl rfl (by kernel_rfl) (by kernel_rfl) hP (y_assign rfl (by kernel_rfl) (by kernel_rfl)) (fun _ => hS4) rfl (L' := #[true, true, true, true, true, true, true, true, false]) (by kernel_rfl) ?_
  refine z_pure (i := 8) (v := v2) hns rfl rfl rfl (by kernel_rfl) (by kernel_rfl) hP (y_assign rfl (by kernel_rfl) (by kernel_rfl)) (fun _ => hS4) rfl (L' := #[true, true, true, true, true, true, true, true, true]) (by kernel_rfl) ?_
  try simp only [List.setIfInBounds_toArray, List.set_cons_zero, List.set_cons_succ]
  refine z_done (by kernel_rfl) ?_ _
  refine hN _ _ ?_
  clear hP hN hns
  clear HS3 hS
  have hsn := HSN.out
  have hso := HSO.out
  have hnb2 := HNB2.out
  have hn92 := HN.out
  have hFit : Fit (zeros nb).length zs1 (qs1.map ql) := by rw [show (zeros nb).length = nb from by simp [zeros]]; exact hF4 (by decide)
  have hB4' : Below ab W w4 := HB3.out.trans (hB4.mono (by have := HB3.out.size; omega))
  have hb14 : b1 ≤ w4.heap.size := by have := hS4.2.1.lt j (by simp); have := hS4.2.1.jlo; omega
  have HWR := hid (hS4.2.1.wr hb14 (by decide) hA4.iz hK4.bz (by omega) (by rw [hso, hsn, hnb]; omega))
  have HB4 := hid hB4'
  have HFit := hid hFit
  have HZ4 := hid hz4
  clear hS4 hsn hso hnb2 hn92 hFit hB4' hb14 hA4 hK4 hz4 hq4 hF4 hB4 HB3
  go_wp2_with fail
  refine HWR.out.mono ?_
  rintro e w5 ⟨rfl, s5, X5, cnt5, hJ5, hn5, ho5, ho5', _, _, _, hB5, _⟩
  have hE : refE (zeros nb) zs1 (qs1.map ql) = 0 := by unfold refE; rw [if_pos HFit.out]
  rw [hE]
  have hb5 : b1 ≤ w5.heap.size := by have := hJ5.lt j (by simp); have := hJ5.jlo; omega
  have HB5 : Hid (Below ab W w5) := hid (HB4.out.trans (hB5.mono (by have := HB1L.out; omega)))
  have HS5 := hid (And.intro hn5 (And.intro ho5 ho5'))
  have HQ5 := hid (refW_seq 0 (zeros nb) zs1 (qs1.map ql))
  generalize (refW 0 (zeros nb) zs1 (qs1.map ql)).1 = sq5 at *
  generalize (refW 0 (zeros nb) zs1 (qs1.map ql)).2 = bl5 at *
  have HJ5 := hid hJ5
  have HLB : Hid (bl5.length = nb) := hid (by rw [hJ5.jr.sett.con.len, hn5, HSN.out, hnb])
  clear hE hb5 hB5 hn5 ho5 ho5' hJ5 HWR HB4 HFit
  go_wp2_with fail
  generalize hb5 : w5.heap.size = b5 at *
  have HTS : Hid (ab ≤ b5) := hid (by rw [← hab, ← hb5]; exact HB5.out.size)
  go_loopw [15, 16, 17, 18] (fun v15 v16 _ _ wr => ∃ i : Nat, i ≤ nb ∧ v16 = .int .i64 i ∧ wr.ownsRow b5 9 1 v15 (bl5.take i).length ((bl5.take i).map strV) ∧ Js b1 wr j p X5 s5 sq5 cnt5 bl5 ∧ Below ab W wr ∧ b5 ≤ wr.heap.size) (fun _ v16 _ _ _ => nb - (intOf v16).toNat)
  case atStart => exact ⟨0, Nat.zero_le _, rfl, World.ownsRow_nil _ _ _ _, HJ5.out, HB5.out, Nat.le_of_eq hb5.symm⟩
  case round =>
    obtain ⟨i, hi, rfl, hw15, hJr, hBr, hbr⟩ := hrel
    have hwi : IntKind.i64.wrap ((i : Int) + 1) = ((i + 1 : Nat) : Int) := by have := HNB2.out; rw [IntWalk.i64_in _ ⟨by omega, by omega⟩]; omega
    have hbk := jblocks_any hJr.jr.jn
    rw [HS5.out.1, HSN.out, hnb] at hbk
    have HBK := hid hbk
    clear hbk
    by_cases hlt : i < nb
    · have hlt' : (i : Int) < (nb : Int) := by omega
      obtain ⟨b, hb⟩ : ∃ b, bl5[i]? = some b := ⟨_, List.getElem?_eq_getElem (by rw [HLB.out]; exact hlt)⟩
      have HRD := hid (hJr.jr.readS hb)
      have htk : bl5.take (i + 1) = bl5.take i ++ [b] := by rw [List.take_add_one, hb]; rfl
      have HTK := hid htk
      have HO := hid hw15
      have HJ := hid hJr
      have HBR := hid (And.intro hBr (And.intro hbr hlt))
      clear hw15 hJr hBr hbr hb htk hi hlt
      go_wp2_with fail
      refine HBK.out.mono ?_
      rintro e wz ⟨rfl, hwz⟩
      obtain rfl := hwz.symm
      go_wp2_with fail
      refine HRD.out.mono ?_
      rintro e wg ⟨hBg, g, f, hg, rfl, hf, hfl, hft, hsl⟩
      have hcv := conv_sl hsl
      have hJg := HJ.out.below hBg
      have hbg : b5 ≤ wg.heap.size := Nat.le_trans HBR.out.2.1 hBg.size
      have hOg : wg.ownsRow b5 9 1 u15 (bl5.take i).length ((bl5.take i).map strV) := owns_fr (X := []) HO.out (Fr.of_below hBg) (by simp)
      obtain ⟨v', wh, hap, hoc, hBh, hOh⟩ := more_str2 hOg b (by rw [List.length_take]; have := HLB.out; have := HNB2.out; omega) hbg 49
      have hBh' : Below ab W wh := HBR.out.1.trans ((hBg.mono (by have := HTS.out; have := HBR.out; omega)).trans (hBh.mono HTS.out))
      have HJh := hid (hJg.oth hOh (by decide) (by decide) (by decide) (HT.out.belowB hBh' HTL.out))
      have HOC := hid hoc
      have HBH := hid (And.intro hBh' (show b5 ≤ wh.heap.size from Nat.le_trans hbg hOh.size))
      have HCV := hid (show (convert 33 9 (.slice (some ⟨g, 0, none⟩) 112 112)).run Tryd.prog wg = .ok (strV b) wg from hcv)
      have HBSL := hid (bslice49 wg b)
      have HAP := hid hap
      clear hBg hg hf hfl hft hsl hcv hJg hbg hOg hap hoc hBh hOh hBh' HO HJ
      go_upto_region 14 with fail
      refine wp_region_lit ?_
      refine wp_y (v := u15) rfl rfl (y_move rfl (by kernel_rfl) (by kernel_rfl)) rfl ?_
      refine wp_y (v := .slice (some ⟨g, 0, none⟩) 112 112) rfl rfl (y_move rfl (by kernel_rfl) (by kernel_rfl)) rfl ?_
      refine wp_run (v := strV b) rfl rfl (run_cvOp rfl (by kernel_rfl) HCV.out) rfl ?_
      refine wp_run (v := .slice (some ⟨wg.heap.size, 0, none⟩) 1 1) rfl rfl (run_bsOp rfl (by kernel_rfl) HBSL.out) rfl ?_
      refine wp_run (v := v') rfl rfl (run_appOp rfl (by kernel_rfl) (by kernel_rfl) HAP.out) rfl ?_
      refine wp_y (v := v') rfl rfl (y_assign rfl (by kernel_rfl) (by kernel_rfl)) rfl ?_
      try simp only [List.setIfInBounds_toArray, List.set_cons_zero, List.set_cons_succ]
      refine wp_end ?_
      clear HCV HBSL HAP
      generalize strV b = sb at *
      go_wp2_with fail
      exact ⟨⟨i + 1, HBR.out.2.2, rfl, by rw [HTK.out]; exact HOC.out, HJh.out, HBH.out.1, HBH.out.2⟩, by have := HBR.out.2.2; simp [intOf]; omega⟩
    · have hlt' : ¬ (i : Int) < (nb : Int) := by omega
      obtain rfl : i = nb := by omega
      rw [List.take_of_length_le (Nat.le_of_eq HLB.out)] at hw15
      have HO := hid hw15
      have HJ := hid hJr
      have HBR := hid hBr
      have HSQ := hid (jseq_any hJr.jr.jn)
      have HOP := hid (ops_d hJr.jr.disk)
      have hbz : b1 ≤ wr.heap.size := by have := hJr.lt j (by simp); have := hJr.jlo; omega
      have hBW : Below W.heap.size W wr := by rw [hab]; exact hBr
      have hops : s5.ops + ((2 * nbOf s5.n + 4 : Nat) : Int) ≤ 1048576 := by
        have h1 := HS5.out
        have h2 := HNB2.out
        have h3 := HZ4.out
        have h4 := HSO.out
        rw [h1.1, HSN.out, hnb]; omega
      have HWR := hid (hJr.wr hbz (by have := HQ5.out; omega) (HIA.out.below hBW) (HIB.out.below hBW) HL.out hops)
      clear hw15 hJr hBr hbr hlt hlt' hbz hBW hops hi hwi
      have hlt' : ¬ (i : Int) < (i : Int) := by omega
      go_wp2_with fail
      refine HBK.out.mono ?_
      rintro e wz ⟨rfl, hwz⟩
      obtain rfl := hwz.symm
      go_wp2_with fail
      refine HSQ.out.mono ?_
      rintro e wz ⟨rfl, hwz⟩
      obtain rfl := hwz.symm
      go_wp2_with fail
      refine HOP.out.mono ?_
      rintro e wz ⟨rfl, hwz⟩
      obtain rfl := hwz.symm
      go_wp2_with fail
      refine HWR.out.mono ?_
      rintro e w6 ⟨rfl, s6, X6, cnt6, hJ6, hn6, ho6, ho6', hsm, _, _, hB6, hK6⟩
      have HB6 : Hid (Below ab W w6) := hid (HBR.out.trans (hB6.mono (by have := HB1L.out; omega)))
      have hsq6 := jseq_any hJ6.jr.jn
      have HOP6 := hid (ops_d hJ6.jr.disk)
      clear HWR HSQ HOP
      by_cases hfit : Fit bl5.length zs ps
      · have hE : refE bl5 zs ps = 0 := by unfold refE; rw [if_pos hfit]
        rw [hE]
        by_cases h0 : zs = []
        · have hM0 : M = 0 := by rw [HM.out, h0]; rfl
          have hs6 := hsm (fun h => h.2 h0)
          rw [hs6] at HOP6
          have hr : (refW sq5 bl5 zs ps).1 = sq5 := by unfold refW; rw [if_neg (fun h => h.2 h0)]
          rw [hr] at hsq6
          have HSQ6 := hid hsq6
          have hneq : ((sq5 : Int) == (sq5 : Int) + 1) = false := by rw [beq_eq_false_iff_ne]; omega
          have hw1 : IntKind.i64.wrap ((sq5 : Int) + 1) = (sq5 : Int) + 1 := by have := HQ5.out; rw [IntWalk.i64_in _ ⟨by omega, by omega⟩]
          subst hM0
          clear hE hr hs6 hsm hsq6 hJ6 hn6 ho6 ho6' hB6 hK6 h0 hfit
          go_wp2_with fail
          refine HSQ6.out.mono ?_
          rintro e wz ⟨rfl, hwz⟩
          obtain rfl := hwz.symm
          go_wp2_with fail
          refine HSQ6.out.mono ?_
          rintro e wz ⟨rfl, hwz⟩
          obtain rfl := hwz.symm
          go_wp2_with fail
          refine HOP6.out.mono ?_
          rintro e wz ⟨rfl, hwz⟩
          obtain rfl := hwz.symm
          go_wp2
          go_ret
          exact ⟨rfl, by rw [hab]; exact HB6.out⟩
        · have hM0 : (0 : Int) < (M : Int) := by have h1 := HM.out; have h2 : zs.length ≠ 0 := fun e => h0 (List.length_eq_zero_iff.1 e); omega
          have hr : (refW sq5 bl5 zs ps).1 = sq5 + 1 := by unfold refW; rw [if_pos ⟨hfit, h0⟩]
          rw [hr] at hsq6
          have HSQ6 := hid hsq6
          have hw1 : IntKind.i64.wrap ((sq5 : Int) + 1) = ((sq5 + 1 : Nat) : Int) := by have := HQ5.out; rw [IntWalk.i64_in _ ⟨by omega, by omega⟩]; omega
          clear hE hr hsm hsq6 hJ6 hn6 ho6 ho6' hB6 hK6 h0 hfit
          go_wp2_with fail
          refine HSQ6.out.mono ?_
          rintro e wz ⟨rfl, hwz⟩
          obtain rfl := hwz.symm
          go_wp2
          go_ret
          exact ⟨rfl, by rw [hab]; exact HB6.out⟩
      · have hE : refE bl5 zs ps = 2 := by unfold refE; rw [if_neg hfit]
        rw [hE]
        have hs6 := hsm (fun h => hfit h.1)
        have hr : refW sq5 bl5 zs ps = (sq5, bl5) := by unfold refW; rw [if_neg (fun h => hfit h.1)]
        rw [hr] at hJ6
        subst hs6
        have HJ6 := hid hJ6
        have HO6 := hid (hK6.owns HO.out (by decide) (by decide) (by decide))
        clear hE hr hsm hsq6 hJ6 hn6 ho6 ho6' hB6 hK6 hfit HOP6 HO HJ HBK HBR
        obtain ⟨g15, c15, rfl⟩ : ∃ g cap, u15 = .slice (some ⟨g, 0, none⟩) bl5.length cap := by
          rcases HO6.out.2 with ⟨_, h0⟩ | ⟨g, cap, cur, rfl, _⟩
          · have h1 := HLB.out; have h2 := HNB.out.1; omega
          · exact ⟨g, cap, rfl⟩
        rw [HLB.out]
        have HO6 : Hid (∀ k b, bl5[k]? = some b → w6.cell? ⟨g15, k, none⟩ = some (strV b)) := hid (fun k b hb => rj_cell HO6.out hb)
        go_wp2_with fail
        go_loopw [22, 23, 24] (fun v22 _ _ wr => ∃ k : Nat, k ≤ i ∧ v22 = .int .i64 k ∧ Below w6.heap.size w6 wr) (fun v22 _ _ _ => i - (intOf v22).toNat)
        case atStart => exact ⟨0, Nat.zero_le _, rfl, Below.refl _ _⟩
        case round =>
          obtain ⟨k, hk, rfl, hBk⟩ := hrel
          have hwk : IntKind.i64.wrap ((k : Int) + 1) = ((k + 1 : Nat) : Int) := by have := HNB2.out; rw [IntWalk.i64_in _ ⟨by omega, by omega⟩]; omega
          have hJr := HJ6.out.below hBk
          have hbk := jblocks_any hJr.jr.jn
          rw [HS5.out.1, HSN.out, hnb] at hbk
          have HBK := hid hbk
          clear hbk
          by_cases hlt : k < i
          · have hlt2 : (k : Int) < (i : Int) := by omega
            obtain ⟨b, hb⟩ : ∃ b, bl5[k]? = some b := ⟨_, List.getElem?_eq_getElem (by rw [HLB.out]; exact hlt)⟩
            have HRD := hid (hJr.jr.readS hb)
            have hce := HO6.out k b hb
            have hgl := World.block_lt_of_cell? w6 _ hce
            have HBK2 := hid (And.intro hBk hlt)
            clear hJr hBk hb hk hlt
            go_wp2_with fail
            refine HBK.out.mono ?_
            rintro e wz ⟨rfl, hwz⟩
            obtain rfl := hwz.symm
            go_wp2_with fail
            refine HRD.out.mono ?_
            rintro e wg ⟨hBg, g, f, hg, rfl, hf, hfl, hft, hsl⟩
            have hBg2 : Below w6.heap.size w6 wg := HBK2.out.1.trans (hBg.mono HBK2.out.1.size)
            have hdr : Below wg.heap.size wg wg.drew := (Below.refl _ _).drew
            have hce2 : wg.drew.cell? ⟨g15, k, none⟩ = some (strV b) := by
              show wg.cell? ⟨g15, k, none⟩ = some (strV b)
              rw [hBg2.cell (p := ⟨g15, k, none⟩) hgl]; exact hce
            have HBG := hid hBg2
            have HSG := hid (And.intro hce2 (hsl.below hdr))
            have HNEB : Hid (decide (b ≠ b) = false) := hid (by simp)
            clear hBg hg hf hfl hft hsl hBg2 hgl hce hce2 hdr HRD
            go_wp2_with fail
            refine h_openL (S := fun w' => w'.cell? ⟨g15, k, none⟩ = some (strV b) ∧ Sl w' (.slice (some ⟨g, 0, none⟩) 112 112) b) (by kernel_rfl) (by kernel_rfl) (fun _ _ _ _ _ h => h) (L := #[false, false, false, false, false, false, false, false, false, false, false]) (by kernel_rfl) ?_
            intro Q' hns hP hN
            have hS := HSG.out
            refine h_takeL (i := 0) (v := .int .i64 0) hns rfl rfl (by kernel_rfl) (by kernel_rfl) hP (y_move rfl (by kernel_rfl) (by kernel_rfl)) hS rfl (L' := #[true, false, false, false, false, false, false, false, false, false, false]) (by kernel_rfl) ?_
            refine h_takeL (i := 1) (v := .bool false) hns rfl rfl (by kernel_rfl) (by kernel_rfl) hP (y_bin (k := .i64) (k' := .i64) (m := 0) (n := 0) rfl (by kernel_rfl) (by kernel_rfl) (by kernel_rfl) (neqE _ _ _ rfl)) hS rfl (L' := #[true, true, false, false, false, false, false, false, false, false, false]) (by kernel_rfl) ?_
            refine h_takeL (i := 2) (v := .bool false) hns rfl rfl (by kernel_rfl) (by kernel_rfl) hP (y_move rfl (by kernel_rfl) (by kernel_rfl)) hS rfl (L' := #[true, true, true, false, false, false, false, false, false, false, false]) (by kernel_rfl) ?_
            refine h_takeL (i := 3) (v := .slice (some ⟨g, 0, none⟩) 112 112) hns rfl rfl (by kernel_rfl) (by kernel_rfl) hP (y_move rfl (by kernel_rfl) (by kernel_rfl)) hS rfl (L' := #[true, true, true, true, false, false, false, false, false, false, false]) (by kernel_rfl) ?_
            refine h_takeL (i := 4) (v := strV b) hns rfl rfl (by kernel_rfl) (by kernel_rfl) hP (y_convS rfl (by kernel_rfl) (by kernel_rfl) (fun w' h => conv_sl h.2)) hS rfl (L' := #[true, true, true, true, true, false, false, false, false, false, false]) (by kernel_rfl) ?_
            refine h_takeL (i := 5) (v := .slice (some ⟨g15, 0, none⟩) i c15) hns rfl rfl (by kernel_rfl) (by kernel_rfl) hP (y_move rfl (by kernel_rfl) (by kernel_rfl)) hS rfl (L' := #[true, true, true, true, true, true, false, false, false, false, false]) (by kernel_rfl) ?_
            refine h_takeL (i := 6) (v := .int .i64 k) hns rfl rfl (by kernel_rfl) (by kernel_rfl) hP (y_move rfl (by kernel_rfl) (by kernel_rfl)) hS rfl (L' := #[true, true, true, true, true, true, true, false, false, false, false]) (by kernel_rfl) ?_
            simp only [List.setIfInBounds_toArray, List.set_cons_zero, List.set_cons_succ]
            refine h_takeL (i := 7) (v := .pointer (some ⟨g15, k, none⟩)) hns rfl rfl (by kernel_rfl) (by kernel_rfl) hP (y_index rfl (by kernel_rfl) (by kernel_rfl) (by kernel_rfl) (idx49 g15 i c15 k HBK2.out.2)) hS rfl (L' := #[true, true, true, true, true, true, true, true, false, false, false]) (by kernel_rfl) ?_
            refine h_takeL (i := 8) (v := strV b) hns rfl rfl (by kernel_rfl) (by kernel_rfl) hP (y_load rfl (by kernel_rfl) (by kernel_rfl) (fun w' h => load1 Tryd.isAgg9 h.1)) hS rfl (L' := #[true, true, true, true, true, true, true, true, true, false, false]) (by kernel_rfl) ?_
            refine h_takeL (i := 9) (v := .bool false) hns rfl rfl (by kernel_rfl) (by kernel_rfl) hP (y_neqS (l := b) (m := b) rfl (by kernel_rfl) (by kernel_rfl) (by kernel_rfl) HNEB.out) hS rfl (L' := #[true, true, true, true, true, true, true, true, true, true, false]) (by kernel_rfl) ?_
            refine h_takeL (i := 10) (v := .bool false) hns rfl rfl (by kernel_rfl) (by kernel_rfl) hP (y_pick (b := false) rfl (by kernel_rfl) (by kernel_rfl) rfl) hS rfl (L' := #[true, true, true, true, true, true, true, true, true, true, true]) (by kernel_rfl) ?_
            simp only [List.setIfInBounds_toArray, List.set_cons_zero, List.set_cons_succ]
            refine wpAnyH_done (by kernel_rfl) ?_ _
            refine hN _ _ ?_
            clear hP hN hns
            clear hS HSG HNEB
            generalize strV b = sb at *
            go_wp2_with fail
            exact ⟨⟨k + 1, HBK2.out.2, rfl, HBG.out.trans ((show Below wg.heap.size wg wg.drew from (Below.refl _ _).drew).mono HBG.out.size)⟩, by have := HBK2.out.2; simp [intOf]; omega⟩
          · obtain rfl : k = i := by omega
            have hlt2 : ¬ (k : Int) < (k : Int) := by omega
            have HSQ6 := hid (jseq_any hJr.jr.jn)
            have HOP6 := hid (ops_d hJr.jr.disk)
            have HBF : Hid (Below ab W wr) := hid (HB6.out.trans (hBk.mono (by rw [← hab]; exact HB6.out.size)))
            clear hJr hBk hk hlt
            go_wp2_with fail
            refine HBK.out.mono ?_
            rintro e wz ⟨rfl, hwz⟩
            obtain rfl := hwz.symm
            go_wp2_with fail
            refine HSQ6.out.mono ?_
            rintro e wz ⟨rfl, hwz⟩
            obtain rfl := hwz.symm
            go_wp2_with fail
            refine HOP6.out.mono ?_
            rintro e wz ⟨rfl, hwz⟩
            obtain rfl := hwz.symm
            go_wp2
            go_ret
            exact ⟨rfl, by rw [hab]; exact HBF.out⟩
end Go.Proofs.YtdogjicccajnkaaDoor
