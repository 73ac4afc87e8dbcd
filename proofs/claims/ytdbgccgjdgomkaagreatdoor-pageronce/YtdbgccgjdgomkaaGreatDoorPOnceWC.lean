/- PagerOnce walked. -/
import Derived.Test.YtdbgccgjdgomkaaGreatDoorPOnceMC
namespace Go.Proofs.YtdbgccgjdgomkaaGreatDoor
open Go Go.RowKit

theorem idx22 (b o n cap k : Nat) (h : k < n) (w : World) : (Instr.indexAt 22 (.slice (some ⟨b, o, none⟩) n cap) (.int .i64 k)).run Tryz.prog w = .ok (.pointer (some ⟨b, o + k * 3, none⟩)) w := by
  go_simp
theorem fg32_0 (b o : Nat) (w : World) : (Instr.fieldAt 32 (.pointer (some ⟨b, o, none⟩)) 0).run Tryz.prog w = .ok (.pointer (some ⟨b, o, none⟩)) w := by go_simp
theorem fg32_1 (b o : Nat) (w : World) : (Instr.fieldAt 32 (.pointer (some ⟨b, o, none⟩)) 1).run Tryz.prog w = .ok (.pointer (some ⟨b, o + 1, none⟩)) w := by go_simp
theorem bsI (w : World) (q : Int) : (Instr.buildSlice 42 1 #[(0, .int .i64 q)]).run Tryz.prog w = .ok (.slice (some ⟨w.heap.size, 0, none⟩) 1 1) (w.alloc (.cells #[.int .i64 q] 3)) := by go_simp
/-- What PagerOnce holds between two calls. -/
def Oi (W : World) (B n L i p j d : Nat) (va vk : Value) (M K : List Int) (w : World) : Prop :=
  ∃ s sq bl cur was, Pv B w p j d s sq bl cur was (-1) (-1) ∧ Ats w B va M ∧ Ats w B vk K ∧ Mi M cur ∧ Mi K was ∧ s.n = n ∧ s.ops ≤ 700 + 400 * (i : Int) ∧ sq ≤ 1 + i ∧ cur.length = L ∧ was.length = L ∧ Below B W w ∧ ∀ g, va.ownBlock = some g → vk.ownBlock ≠ some g
set_option maxRecDepth 100000 in
set_option maxHeartbeats 4000000 in
theorem pagerOnce_walk (c : Int) (a : Option Addr) (N cap : Nat) (xs : List Op8) (W : World) (ht : Tab W) (hc : -9223372036854775808 ≤ c ∧ c ≤ 9223372036854775807) (hs : Ops8 W a N xs) (hN : N ≤ 9223372036854775807) :
    Calls Tryz.prog 5 #[.int .i64 c, .slice a N cap] W fun e w' => e = .returned (.bool true) ∧ Below W.heap.size W w' := by
  obtain ⟨B, hB⟩ : ∃ B, W.heap.size = B := ⟨_, rfl⟩
  rw [hB]
  have HSH := hid (shown_any W ht)
  have HT := hid ht
  have HTL : Hid (0 < B) := hid (by rw [← hB]; exact tab_lt ht)
  have HC := hid hc
  have HSC := hid hs
  have HNN := hid hN
  have HB := hid hB
  have hpk := pk_lt c (n := 300) (by decide)
  obtain ⟨n, hn⟩ : ∃ n, 32 + pk c 300 = n := ⟨_, rfl⟩
  have Hn : Hid (n ≤ 331 ∧ 32 + pk c 300 = n) := hid ⟨by omega, hn⟩
  clear ht hc hs hN hpk hn hB
  go_enter Tryz.func5, Tryz.ntmps5
  go_wp2_with fail
  refine HSH.out.mono ?_
  rintro e w1 ⟨rfl, hB1⟩
  have hbg := begun_any c HC.out.1 HC.out.2 w1 (HT.out.below hB1)
  rw [Hn.out.2] at hbg
  have HBG := hid hbg
  rw [HB.out] at hB1
  have HB1 : Hid (Below B W w1 ∧ B ≤ w1.heap.size) := hid ⟨hB1, by have := hB1.size; have := HB.out; omega⟩
  clear hB1 hbg HSH
  go_wp2_with fail
  refine HBG.out.mono ?_
  rintro e w2 ⟨d, j, p, r, s, bl, rfl, hP, hsn, hso, hR, hB2⟩
  clear hR
  obtain ⟨L, hL⟩ : ∃ L, pgOf n = L := ⟨_, rfl⟩
  rw [hL] at hP
  have hnb : nbOf n ≤ 200 := by have := Hn.out.1; unfold nbOf; omega
  have HI0 : Hid (Oi W B n L 0 p j d (.slice none 0 0) (.slice none 0 0) [] [] w2) := hid ⟨s, 1, bl, _, _, hP.mono HB1.out.2 HTL.out, Ats.nil _ _, Ats.nil _ _, Mi.bare L, Mi.bare L, hsn, by omega, by omega, List.length_replicate .., List.length_replicate .., HB1.out.1.trans (hB2.mono HB1.out.2), fun g e => (by simp [Value.ownBlock] at e)⟩
  clear hP hsn hso hB2 hL hnb HBG HB1
  go_wp2_with fail
  go_loopw [10, 11, 12, 13, 14, 15, 16, 17, 18, 19] (fun v10 v11 v12 _ _ _ _ _ _ _ wr => ∃ (i : Nat) (M K : List Int), i ≤ N ∧ i ≤ 120 ∧ v12 = .int .i64 i ∧ Oi W B n L i p j d v10 v11 M K wr) (fun _ _ v12 _ _ _ _ _ _ _ _ => 120 - (intOf v12).toNat)
  case atStart => exact ⟨0, [], [], Nat.zero_le _, Nat.zero_le _, rfl, HI0.out⟩
  case round =>
    clear HI0
    obtain ⟨i, M, K, hiN, hi, rfl, hO⟩ := hrel
    have hnn := HNN.out
    have hwk : IntKind.i64.wrap ((i : Int) + 1) = ((i + 1 : Nat) : Int) := by rw [IntWalk.i64_in _ ⟨by omega, by omega⟩]; omega
    by_cases hlt : i < N ∧ i < 120
    · have hlt1 : (i : Int) < (N : Int) := by omega
      have hlt2 : (i : Int) < 120 := by omega
      obtain ⟨x, hx⟩ : ∃ x, xs[i]? = some x := ⟨_, List.getElem?_eq_getElem (by have := HSC.out.1; omega)⟩
      obtain ⟨hxo, b, off, rfl, hc0, hc1, hc2⟩ := HSC.out.2 i x hx
      obtain ⟨s, sq, bl, cur, was, hP, hA, hK, hMi, hKi, hsn, hso, hsq, hcl, hwl, hBw, hne⟩ := hO
      have hbl : b < B := by have h1 : b < W.heap.size := World.block_lt_of_cell? W _ hc0; have := HB.out; omega
      rw [← Nat.add_assoc] at hc1
      have hd0 : wr.cell? ⟨b, off + i * 3, none⟩ = some (.int .i64 x.kd) := (hBw.cell (p := ⟨b, off + i * 3, none⟩) hbl).trans hc0
      have hd1 : wr.cell? ⟨b, off + i * 3 + 1, none⟩ = some (.int .i64 x.pg) := (hBw.cell (p := ⟨b, off + i * 3 + 1, none⟩) hbl).trans hc1
      obtain ⟨am, cm, rfl⟩ := hA.shape
      obtain ⟨ml, hml⟩ : ∃ ml, M.length = ml := ⟨_, rfl⟩
      rw [hml] at hA hne ⊢
      have hmll : ml ≤ 1023 := by have := hMi.2.2; have := hP.le; omega
      have hkl : K.length ≤ 1023 := by have := hKi.2.2; have := hP.le; omega
      have hcur := hP.le
      have hbw : B ≤ wr.heap.size := by have := hBw.size; have := HB.out; omega
      have HLD0 := hid (load1 Tryz.isAgg3 hd0)
      have HLD1 := hid (load1 Tryz.isAgg3 hd1)
      have HIX := hid hlt.1
      have HLT := hid hlt
      have HX := hid hxo
      have HPK := hid (pick_any x.kd 5 hxo.1.1 hxo.1.2 (by decide) wr)
      have hk5 := pk_lt x.kd (n := 5) (by decide)
      obtain ⟨kd, hkd⟩ : ∃ kd, pk x.kd 5 = kd := ⟨_, rfl⟩
      rw [hkd] at HPK hk5
      have HS : Hid (Pv B wr p j d s sq bl cur was (-1) (-1) ∧ Ats wr B (.slice am ml cm) M ∧ Ats wr B u11 K ∧ Mi M cur ∧ Mi K was ∧ s.n = n ∧ s.ops ≤ 700 + 400 * (i : Int) ∧ sq ≤ 1 + i ∧ cur.length = L ∧ was.length = L ∧ Below B W wr ∧ ∀ g, (Value.slice am ml cm).ownBlock = some g → u11.ownBlock ≠ some g) := hid ⟨hP, hA, hK, hMi, hKi, hsn, hso, hsq, hcl, hwl, hBw, hne⟩
      have HM : Hid (M.length = ml ∧ ml ≤ 1023 ∧ K.length ≤ 1023 ∧ cur.length ≤ 1023 ∧ B ≤ wr.heap.size) := hid ⟨hml, hmll, hkl, hcur, hbw⟩
      clear hP hA hK hMi hKi hsn hso hsq hcl hwl hBw hne hbl hd0 hd1 hc0 hc1 hc2 hml hmll hkl hcur hbw hxo hx hlt hiN hi hnn hkd
      go_upto_region 10 with fail
      refine wp_region_lit ?_
      refine wp_y (v := .slice (some ⟨b, off, none⟩) N cap) rfl rfl (y_move rfl (by kernel_rfl) (by kernel_rfl)) rfl ?_
      refine wp_y (v := .int .i64 i) rfl rfl (y_move rfl (by kernel_rfl) (by kernel_rfl)) rfl ?_
      refine wp_y (v := .pointer (some ⟨b, off + i * 3, none⟩)) rfl rfl (y_index rfl (by kernel_rfl) (by kernel_rfl) (by kernel_rfl) (idx22 b off N cap i HIX.out)) rfl ?_
      refine wp_y (v := .pointer (some ⟨b, off + i * 3, none⟩)) rfl rfl (y_faddr rfl (by kernel_rfl) (by kernel_rfl) (fg32_0 (b) (off + i * 3))) rfl ?_
      refine wp_y (v := .int .i64 x.kd) rfl rfl (y_load rfl (by kernel_rfl) (by kernel_rfl) (fun w' h => by rw [h]; exact HLD0.out)) rfl ?_
      refine wp_call (f := 12) (args := #[.int .i64 x.kd, .int .i64 5]) (by kernel_rfl) (fun w => by go_simp) ?_
      refine HPK.out.mono ?_
      rintro e wz ⟨rfl, hwz⟩
      obtain rfl := hwz.symm
      refine ⟨_, rfl, ?_⟩
      dsimp only [Act.put]
      try simp only [List.setIfInBounds_toArray, List.set_cons_zero, List.set_cons_succ]
      refine wp_end ?_
      clear HLD0 HPK
      have hk : kd = 0 ∨ kd = 1 ∨ kd = 2 ∨ kd = 3 ∨ kd = 4 := by omega
      clear hk5
      rcases hk with rfl | rfl | rfl | rfl | rfl
      · have hs := HS.out
        have HLF := hid hs.1.left
        rcases first_free cur with ⟨hn0, hfull⟩ | ⟨hn0, q, hq, hqb⟩
        · have HAL := hid (hs.1.allocFull hfull)
          rw [hn0] at HLF
          have HLF' : Hid (Calls Tryz.prog 26 #[.pointer (some ⟨p, 0, none⟩)] wr fun e w' => e = .returned (.int .i64 0) ∧ w' = wr) := HLF
          clear hs HLF hn0 hfull
          go_wp2_with fail
          refine HLF'.out.mono ?_
          rintro e wz ⟨rfl, hwz⟩
          obtain rfl := hwz.symm
          clear HLF'
          go_wp2_with fail
          refine HAL.out.mono ?_
          rintro e wz ⟨rfl, hwz⟩
          obtain rfl := hwz.symm
          clear HAL
          have hs0 := HS.out
          have HQ : Hid (Oi W B n L (i + 1) p j d (.slice am ml cm) u11 M K wr) := hid ⟨s, sq, bl, cur, was, hs0.1, hs0.2.1, hs0.2.2.1, hs0.2.2.2.1, hs0.2.2.2.2.1, hs0.2.2.2.2.2.1, by have := hs0.2.2.2.2.2.2.1; omega, by have := hs0.2.2.2.2.2.2.2.1; omega, hs0.2.2.2.2.2.2.2.2.1, hs0.2.2.2.2.2.2.2.2.2.1, hs0.2.2.2.2.2.2.2.2.2.2⟩
          clear hs0
          have hq := HQ.out
          obtain ⟨s', sq', bl', cur', was', hP', hA', hK', hMi', hKi', hsn', hso', hsq', hcl', hwl', hBw', hne'⟩ := hq
          have HLF := hid hP'.left
          have HPG := hid hP'.pages
          have hle := hP'.le
          have hmi := hMi'.2.2
          rw [HM.out.1] at hmi
          rw [hcl'] at HPG hmi hle
          have hw : IntKind.i64.wrap (((nf cur' : Nat) : Int) + ((ml : Nat) : Int)) = ((L : Nat) : Int) := by rw [IntWalk.i64_in _ ⟨by omega, by omega⟩]; omega
          generalize nf cur' = nc at *
          clear hP' hA' hK' hMi' hKi' hsn' hso' hsq' hcl' hwl' hBw' hne' hle hmi
          go_wp2_with fail
          refine HLF.out.mono ?_
          rintro e wz ⟨rfl, hwz⟩
          obtain rfl := hwz.symm
          clear HLF
          go_wp2_with fail
          refine HPG.out.mono ?_
          rintro e wz ⟨rfl, hwz⟩
          obtain rfl := hwz.symm
          clear HPG
          go_wp2_with fail
          exact ⟨⟨i + 1, _, _, HLT.out.1, HLT.out.2, rfl, HQ.out⟩, by have := HLT.out; simp [intOf]; omega⟩
        · have HAL := hid (hs.1.alloc q hq hqb)
          obtain ⟨nn, hnn⟩ : ∃ m, nf cur = m := ⟨_, rfl⟩
          rw [hnn] at HLF hn0
          have hpos : (0 : Int) < (nn : Int) := by omega
          have hposN : 0 < nn := hn0
          have HQQ := hid (And.intro hq (And.intro hn0 hnn))
          clear hs hq hqb hn0 hnn
          go_wp2_with fail
          refine HLF.out.mono ?_
          rintro e wz ⟨rfl, hwz⟩
          obtain rfl := hwz.symm
          clear HLF
          go_wp2_with fail
          refine HAL.out.mono ?_
          rintro e w3 ⟨rfl, hP3, hB3, hK3⟩
          have hs := HS.out
          have hA3 := hK3.ats hs.2.1
          have hk3 := hK3.ats hs.2.2.1
          have hb3 : B ≤ w3.heap.size := by have := HM.out.2.2.2.2; have := hB3.size; omega
          have H3 : Hid (Pv B w3 p j d s sq bl (cur.set q (some z896)) was (-1) (-1) ∧ Ats w3 B (.slice am ml cm) M ∧ Ats w3 B u11 K ∧ Below B W w3 ∧ B ≤ w3.heap.size) := hid ⟨hP3, hA3, hk3, hs.2.2.2.2.2.2.2.2.2.2.1.trans hB3, hb3⟩
          clear hs hP3 hB3 hK3 hA3 hk3 hb3 HAL
          go_wp2_with fail
          go_loopw [16] (fun v16 wv => ∃ k : Nat, k ≤ ml ∧ v16 = .int .i64 k ∧ wv = w3) (fun v16 _ => ml - (intOf v16).toNat)
          case atStart => exact ⟨0, Nat.zero_le _, rfl, rfl⟩
          case round =>
            obtain ⟨k, hk, rfl, hwv⟩ := hrel
            obtain rfl := hwv.symm
            have hm := HM.out
            have hwk2 : IntKind.i64.wrap ((k : Int) + 1) = ((k + 1 : Nat) : Int) := by rw [IntWalk.i64_in _ ⟨by omega, by omega⟩]; omega
            by_cases hkl : k < ml
            · have hkl' : (k : Int) < (ml : Int) := by omega
              obtain ⟨z, hz⟩ : ∃ z, M[k]? = some z := ⟨_, List.getElem?_eq_getElem (by omega)⟩
              obtain ⟨ga, rfl, hga, hca⟩ := H3.out.2.1.cell hz
              have hne : (z == (q : Int)) = false := by
                rw [beq_eq_false_iff_ne]
                intro e
                obtain ⟨i', hi', y, hy⟩ := HS.out.2.2.2.1.2.1 z (List.mem_of_getElem? hz)
                have : i' = q := by omega
                subst this
                rw [HQQ.out.1] at hy; cases hy
              have HNE := hid hne
              have HLDZ := hid (load1 Tryz.isAgg3 hca)
              have HKX := hid hkl
              clear hne hca hga hz hkl hk hm
              go_upto_region 21 with fail
              refine wp_region_lit ?_
              refine wp_y (v := .slice (some ⟨ga, 0, none⟩) ml cm) rfl rfl (y_move rfl (by kernel_rfl) (by kernel_rfl)) rfl ?_
              refine wp_y (v := .int .i64 k) rfl rfl (y_move rfl (by kernel_rfl) (by kernel_rfl)) rfl ?_
              refine wp_y (v := .pointer (some ⟨ga, k, none⟩)) rfl rfl (y_index rfl (by kernel_rfl) (by kernel_rfl) (by kernel_rfl) (idx42 ga ml cm k HKX.out)) rfl ?_
              refine wp_y (v := .int .i64 z) rfl rfl (y_load rfl (by kernel_rfl) (by kernel_rfl) (fun w' h => by rw [h]; exact HLDZ.out)) rfl ?_
              refine wp_y (v := .int .i64 (q : Nat)) rfl rfl (y_move rfl (by kernel_rfl) (by kernel_rfl)) rfl ?_
              refine wp_y (v := .bool false) rfl rfl (y_bin (k := .i64) (k' := .i64) (m := z) (n := (q : Nat)) rfl (by kernel_rfl) (by kernel_rfl) (by kernel_rfl) (qeql _ _ _ HNE.out)) rfl ?_
              try simp only [List.setIfInBounds_toArray, List.set_cons_zero, List.set_cons_succ]
              refine wp_end ?_
              go_wp2_with fail
              exact ⟨⟨k + 1, HKX.out, rfl, trivial⟩, by have := HKX.out; simp [intOf]; omega⟩
            · obtain rfl : k = ml := by omega
              have hkl' : ¬ (k : Int) < (k : Int) := by omega
              obtain ⟨g7, hg7⟩ : ∃ g, w3.heap.size = g := ⟨_, rfl⟩
              have hbs := bsI w3 (q : Int)
              have h3 := H3.out
              obtain ⟨v', w4, hap, hA4, hB4, hO4, hnb4, hkp4⟩ := moreI h3.2.1 (q : Int) (by omega) h3.2.2.2.2
              obtain ⟨am', cm', rfl⟩ := hA4.shape
              obtain ⟨m1, hm1⟩ : ∃ m, k + 1 = m := ⟨_, rfl⟩
              have hl4 : (M ++ [(q : Int)]).length = m1 := by rw [List.length_append, hm.1]; exact hm1
              rw [hl4] at hA4 hap
              have hk4 : Ats w4 B u11 K := hkp4 h3.2.2.1 HS.out.2.2.2.2.2.2.2.2.2.2.2
              have hP4 := h3.1.oth hO4 hB4
              have hne4 : ∀ g, (Value.slice am' m1 cm').ownBlock = some g → u11.ownBlock ≠ some g := fun g hg hu => by
                rw [← hl4] at hg
                rcases hnb4 g hg with h | h
                · exact HS.out.2.2.2.2.2.2.2.2.2.2.2 g h hu
                · have := (h3.2.2.1.lt g hu).2; omega
              rw [hg7] at hbs hap
              generalize w3.alloc (.cells #[.int .i64 (q : Int)] 3) = w5 at *
              have HBS := hid hbs
              have HAP := hid hap
              have hs := HS.out
              have HQ : Hid (Oi W B n L (i + 1) p j d (.slice am' m1 cm') u11 (M ++ [(q : Int)]) K w4) := hid ⟨s, sq, bl, _, was, hP4, hA4, hk4, hs.2.2.2.1.take q z896 HQQ.out.1, hs.2.2.2.2.1, hs.2.2.2.2.2.1, by have := hs.2.2.2.2.2.2.1; omega, by have := hs.2.2.2.2.2.2.2.1; omega, by rw [List.length_set]; exact hs.2.2.2.2.2.2.2.2.1, hs.2.2.2.2.2.2.2.2.2.1, h3.2.2.2.1.trans hB4, hne4⟩
              have HLK := hid hl4
              have HM1 := hid hm1
              clear hbs hap hA4 hB4 hO4 hl4 hk4 hP4 hne4 hnb4 hkp4 hm1 h3 hs hg7 hk hkl hm H3 HQQ
              go_upto_region 23 with fail
              refine wp_region_lit ?_
              refine wp_y (v := .slice am k cm) rfl rfl (y_move rfl (by kernel_rfl) (by kernel_rfl)) rfl ?_
              refine wp_y (v := .int .i64 (q : Nat)) rfl rfl (y_move rfl (by kernel_rfl) (by kernel_rfl)) rfl ?_
              refine wp_run (v := .slice (some ⟨g7, 0, none⟩) 1 1) rfl rfl (run_bsOp rfl (by kernel_rfl) HBS.out) rfl ?_
              refine wp_run (v := .slice am' m1 cm') rfl rfl (run_appOp rfl (by kernel_rfl) (by kernel_rfl) HAP.out) rfl ?_
              refine wp_y (v := .slice am' m1 cm') rfl rfl (y_assign rfl (by kernel_rfl) (by kernel_rfl)) rfl ?_
              try simp only [List.setIfInBounds_toArray, List.set_cons_zero, List.set_cons_succ]
              refine wp_end ?_
              have hq := HQ.out
              obtain ⟨s', sq', bl', cur', was', hP', hA', hK', hMi', hKi', hsn', hso', hsq', hcl', hwl', hBw', hne'⟩ := hq
              have HLF := hid hP'.left
              have HPG := hid hP'.pages
              have hle := hP'.le
              have hmi := hMi'.2.2
              rw [HLK.out] at hmi
              have hm1 := HM1.out
              have hmm := HM.out
              rw [hcl'] at HPG hmi hle
              have hw : IntKind.i64.wrap (((nf cur' : Nat) : Int) + ((m1 : Nat) : Int)) = ((L : Nat) : Int) := by rw [IntWalk.i64_in _ ⟨by omega, by omega⟩]; omega
              generalize nf cur' = nc at *
              clear hP' hA' hK' hMi' hKi' hsn' hso' hsq' hcl' hwl' hBw' hne' hle hmi hm1 hmm
              go_wp2_with fail
              refine HLF.out.mono ?_
              rintro e wz ⟨rfl, hwz⟩
              obtain rfl := hwz.symm
              clear HLF
              go_wp2_with fail
              refine HPG.out.mono ?_
              rintro e wz ⟨rfl, hwz⟩
              obtain rfl := hwz.symm
              clear HPG
              go_wp2_with fail
              exact ⟨⟨i + 1, _, _, HLT.out.1, HLT.out.2, rfl, HQ.out⟩, by have := HLT.out; simp [intOf]; omega⟩
      · have hs := HS.out
        have HLF := hid hs.1.left
        rcases first_free cur with ⟨hn0, hfull⟩ | ⟨hn0, q, hq, hqb⟩
        · have HAL := hid (hs.1.allocFull hfull)
          rw [hn0] at HLF
          have HLF' : Hid (Calls Tryz.prog 26 #[.pointer (some ⟨p, 0, none⟩)] wr fun e w' => e = .returned (.int .i64 0) ∧ w' = wr) := HLF
          clear hs HLF hn0 hfull
          go_wp2_with fail
          refine HLF'.out.mono ?_
          rintro e wz ⟨rfl, hwz⟩
          obtain rfl := hwz.symm
          clear HLF'
          go_wp2_with fail
          refine HAL.out.mono ?_
          rintro e wz ⟨rfl, hwz⟩
          obtain rfl := hwz.symm
          clear HAL
          have hs0 := HS.out
          have HQ : Hid (Oi W B n L (i + 1) p j d (.slice am ml cm) u11 M K wr) := hid ⟨s, sq, bl, cur, was, hs0.1, hs0.2.1, hs0.2.2.1, hs0.2.2.2.1, hs0.2.2.2.2.1, hs0.2.2.2.2.2.1, by have := hs0.2.2.2.2.2.2.1; omega, by have := hs0.2.2.2.2.2.2.2.1; omega, hs0.2.2.2.2.2.2.2.2.1, hs0.2.2.2.2.2.2.2.2.2.1, hs0.2.2.2.2.2.2.2.2.2.2⟩
          clear hs0
          have hq := HQ.out
          obtain ⟨s', sq', bl', cur', was', hP', hA', hK', hMi', hKi', hsn', hso', hsq', hcl', hwl', hBw', hne'⟩ := hq
          have HLF := hid hP'.left
          have HPG := hid hP'.pages
          have hle := hP'.le
          have hmi := hMi'.2.2
          rw [HM.out.1] at hmi
          rw [hcl'] at HPG hmi hle
          have hw : IntKind.i64.wrap (((nf cur' : Nat) : Int) + ((ml : Nat) : Int)) = ((L : Nat) : Int) := by rw [IntWalk.i64_in _ ⟨by omega, by omega⟩]; omega
          generalize nf cur' = nc at *
          clear hP' hA' hK' hMi' hKi' hsn' hso' hsq' hcl' hwl' hBw' hne' hle hmi
          go_wp2_with fail
          refine HLF.out.mono ?_
          rintro e wz ⟨rfl, hwz⟩
          obtain rfl := hwz.symm
          clear HLF
          go_wp2_with fail
          refine HPG.out.mono ?_
          rintro e wz ⟨rfl, hwz⟩
          obtain rfl := hwz.symm
          clear HPG
          go_wp2_with fail
          exact ⟨⟨i + 1, _, _, HLT.out.1, HLT.out.2, rfl, HQ.out⟩, by have := HLT.out; simp [intOf]; omega⟩
        · have HAL := hid (hs.1.alloc q hq hqb)
          obtain ⟨nn, hnn⟩ : ∃ m, nf cur = m := ⟨_, rfl⟩
          rw [hnn] at HLF hn0
          have hpos : (0 : Int) < (nn : Int) := by omega
          have hposN : 0 < nn := hn0
          have HQQ := hid (And.intro hq (And.intro hn0 hnn))
          clear hs hq hqb hn0 hnn
          go_wp2_with fail
          refine HLF.out.mono ?_
          rintro e wz ⟨rfl, hwz⟩
          obtain rfl := hwz.symm
          clear HLF
          go_wp2_with fail
          refine HAL.out.mono ?_
          rintro e w3 ⟨rfl, hP3, hB3, hK3⟩
          have hs := HS.out
          have hA3 := hK3.ats hs.2.1
          have hk3 := hK3.ats hs.2.2.1
          have hb3 : B ≤ w3.heap.size := by have := HM.out.2.2.2.2; have := hB3.size; omega
          have H3 : Hid (Pv B w3 p j d s sq bl (cur.set q (some z896)) was (-1) (-1) ∧ Ats w3 B (.slice am ml cm) M ∧ Ats w3 B u11 K ∧ Below B W w3 ∧ B ≤ w3.heap.size) := hid ⟨hP3, hA3, hk3, hs.2.2.2.2.2.2.2.2.2.2.1.trans hB3, hb3⟩
          clear hs hP3 hB3 hK3 hA3 hk3 hb3 HAL
          go_wp2_with fail
          go_loopw [16] (fun v16 wv => ∃ k : Nat, k ≤ ml ∧ v16 = .int .i64 k ∧ wv = w3) (fun v16 _ => ml - (intOf v16).toNat)
          case atStart => exact ⟨0, Nat.zero_le _, rfl, rfl⟩
          case round =>
            obtain ⟨k, hk, rfl, hwv⟩ := hrel
            obtain rfl := hwv.symm
            have hm := HM.out
            have hwk2 : IntKind.i64.wrap ((k : Int) + 1) = ((k + 1 : Nat) : Int) := by rw [IntWalk.i64_in _ ⟨by omega, by omega⟩]; omega
            by_cases hkl : k < ml
            · have hkl' : (k : Int) < (ml : Int) := by omega
              obtain ⟨z, hz⟩ : ∃ z, M[k]? = some z := ⟨_, List.getElem?_eq_getElem (by omega)⟩
              obtain ⟨ga, rfl, hga, hca⟩ := H3.out.2.1.cell hz
              have hne : (z == (q : Int)) = false := by
                rw [beq_eq_false_iff_ne]
                intro e
                obtain ⟨i', hi', y, hy⟩ := HS.out.2.2.2.1.2.1 z (List.mem_of_getElem? hz)
                have : i' = q := by omega
                subst this
                rw [HQQ.out.1] at hy; cases hy
              have HNE := hid hne
              have HLDZ := hid (load1 Tryz.isAgg3 hca)
              have HKX := hid hkl
              clear hne hca hga hz hkl hk hm
              go_upto_region 21 with fail
              refine wp_region_lit ?_
              refine wp_y (v := .slice (some ⟨ga, 0, none⟩) ml cm) rfl rfl (y_move rfl (by kernel_rfl) (by kernel_rfl)) rfl ?_
              refine wp_y (v := .int .i64 k) rfl rfl (y_move rfl (by kernel_rfl) (by kernel_rfl)) rfl ?_
              refine wp_y (v := .pointer (some ⟨ga, k, none⟩)) rfl rfl (y_index rfl (by kernel_rfl) (by kernel_rfl) (by kernel_rfl) (idx42 ga ml cm k HKX.out)) rfl ?_
              refine wp_y (v := .int .i64 z) rfl rfl (y_load rfl (by kernel_rfl) (by kernel_rfl) (fun w' h => by rw [h]; exact HLDZ.out)) rfl ?_
              refine wp_y (v := .int .i64 (q : Nat)) rfl rfl (y_move rfl (by kernel_rfl) (by kernel_rfl)) rfl ?_
              refine wp_y (v := .bool false) rfl rfl (y_bin (k := .i64) (k' := .i64) (m := z) (n := (q : Nat)) rfl (by kernel_rfl) (by kernel_rfl) (by kernel_rfl) (qeql _ _ _ HNE.out)) rfl ?_
              try simp only [List.setIfInBounds_toArray, List.set_cons_zero, List.set_cons_succ]
              refine wp_end ?_
              go_wp2_with fail
              exact ⟨⟨k + 1, HKX.out, rfl, trivial⟩, by have := HKX.out; simp [intOf]; omega⟩
            · obtain rfl : k = ml := by omega
              have hkl' : ¬ (k : Int) < (k : Int) := by omega
              obtain ⟨g7, hg7⟩ : ∃ g, w3.heap.size = g := ⟨_, rfl⟩
              have hbs := bsI w3 (q : Int)
              have h3 := H3.out
              obtain ⟨v', w4, hap, hA4, hB4, hO4, hnb4, hkp4⟩ := moreI h3.2.1 (q : Int) (by omega) h3.2.2.2.2
              obtain ⟨am', cm', rfl⟩ := hA4.shape
              obtain ⟨m1, hm1⟩ : ∃ m, k + 1 = m := ⟨_, rfl⟩
              have hl4 : (M ++ [(q : Int)]).length = m1 := by rw [List.length_append, hm.1]; exact hm1
              rw [hl4] at hA4 hap
              have hk4 : Ats w4 B u11 K := hkp4 h3.2.2.1 HS.out.2.2.2.2.2.2.2.2.2.2.2
              have hP4 := h3.1.oth hO4 hB4
              have hne4 : ∀ g, (Value.slice am' m1 cm').ownBlock = some g → u11.ownBlock ≠ some g := fun g hg hu => by
                rw [← hl4] at hg
                rcases hnb4 g hg with h | h
                · exact HS.out.2.2.2.2.2.2.2.2.2.2.2 g h hu
                · have := (h3.2.2.1.lt g hu).2; omega
              rw [hg7] at hbs hap
              generalize w3.alloc (.cells #[.int .i64 (q : Int)] 3) = w5 at *
              have HBS := hid hbs
              have HAP := hid hap
              have hs := HS.out
              have HQ : Hid (Oi W B n L (i + 1) p j d (.slice am' m1 cm') u11 (M ++ [(q : Int)]) K w4) := hid ⟨s, sq, bl, _, was, hP4, hA4, hk4, hs.2.2.2.1.take q z896 HQQ.out.1, hs.2.2.2.2.1, hs.2.2.2.2.2.1, by have := hs.2.2.2.2.2.2.1; omega, by have := hs.2.2.2.2.2.2.2.1; omega, by rw [List.length_set]; exact hs.2.2.2.2.2.2.2.2.1, hs.2.2.2.2.2.2.2.2.2.1, h3.2.2.2.1.trans hB4, hne4⟩
              have HLK := hid hl4
              have HM1 := hid hm1
              clear hbs hap hA4 hB4 hO4 hl4 hk4 hP4 hne4 hnb4 hkp4 hm1 h3 hs hg7 hk hkl hm H3 HQQ
              go_upto_region 23 with fail
              refine wp_region_lit ?_
              refine wp_y (v := .slice am k cm) rfl rfl (y_move rfl (by kernel_rfl) (by kernel_rfl)) rfl ?_
              refine wp_y (v := .int .i64 (q : Nat)) rfl rfl (y_move rfl (by kernel_rfl) (by kernel_rfl)) rfl ?_
              refine wp_run (v := .slice (some ⟨g7, 0, none⟩) 1 1) rfl rfl (run_bsOp rfl (by kernel_rfl) HBS.out) rfl ?_
              refine wp_run (v := .slice am' m1 cm') rfl rfl (run_appOp rfl (by kernel_rfl) (by kernel_rfl) HAP.out) rfl ?_
              refine wp_y (v := .slice am' m1 cm') rfl rfl (y_assign rfl (by kernel_rfl) (by kernel_rfl)) rfl ?_
              try simp only [List.setIfInBounds_toArray, List.set_cons_zero, List.set_cons_succ]
              refine wp_end ?_
              have hq := HQ.out
              obtain ⟨s', sq', bl', cur', was', hP', hA', hK', hMi', hKi', hsn', hso', hsq', hcl', hwl', hBw', hne'⟩ := hq
              have HLF := hid hP'.left
              have HPG := hid hP'.pages
              have hle := hP'.le
              have hmi := hMi'.2.2
              rw [HLK.out] at hmi
              have hm1 := HM1.out
              have hmm := HM.out
              rw [hcl'] at HPG hmi hle
              have hw : IntKind.i64.wrap (((nf cur' : Nat) : Int) + ((m1 : Nat) : Int)) = ((L : Nat) : Int) := by rw [IntWalk.i64_in _ ⟨by omega, by omega⟩]; omega
              generalize nf cur' = nc at *
              clear hP' hA' hK' hMi' hKi' hsn' hso' hsq' hcl' hwl' hBw' hne' hle hmi hm1 hmm
              go_wp2_with fail
              refine HLF.out.mono ?_
              rintro e wz ⟨rfl, hwz⟩
              obtain rfl := hwz.symm
              clear HLF
              go_wp2_with fail
              refine HPG.out.mono ?_
              rintro e wz ⟨rfl, hwz⟩
              obtain rfl := hwz.symm
              clear HPG
              go_wp2_with fail
              exact ⟨⟨i + 1, _, _, HLT.out.1, HLT.out.2, rfl, HQ.out⟩, by have := HLT.out; simp [intOf]; omega⟩
      · by_cases hm0 : ml = 0
        · have hz1 : ¬ (0 : Int) < (ml : Int) := by omega
          have hz2 : ¬ 0 < ml := by omega
          clear hm0
          have hs0 := HS.out
          have HQ : Hid (Oi W B n L (i + 1) p j d (.slice am ml cm) u11 M K wr) := hid ⟨s, sq, bl, cur, was, hs0.1, hs0.2.1, hs0.2.2.1, hs0.2.2.2.1, hs0.2.2.2.2.1, hs0.2.2.2.2.2.1, by have := hs0.2.2.2.2.2.2.1; omega, by have := hs0.2.2.2.2.2.2.2.1; omega, hs0.2.2.2.2.2.2.2.2.1, hs0.2.2.2.2.2.2.2.2.2.1, hs0.2.2.2.2.2.2.2.2.2.2⟩
          clear hs0
          have hq := HQ.out
          obtain ⟨s', sq', bl', cur', was', hP', hA', hK', hMi', hKi', hsn', hso', hsq', hcl', hwl', hBw', hne'⟩ := hq
          have HLF := hid hP'.left
          have HPG := hid hP'.pages
          have hle := hP'.le
          have hmi := hMi'.2.2
          rw [HM.out.1] at hmi
          rw [hcl'] at HPG hmi hle
          have hw : IntKind.i64.wrap (((nf cur' : Nat) : Int) + ((ml : Nat) : Int)) = ((L : Nat) : Int) := by rw [IntWalk.i64_in _ ⟨by omega, by omega⟩]; omega
          generalize nf cur' = nc at *
          clear hP' hA' hK' hMi' hKi' hsn' hso' hsq' hcl' hwl' hBw' hne' hle hmi
          go_wp2_with fail
          refine HLF.out.mono ?_
          rintro e wz ⟨rfl, hwz⟩
          obtain rfl := hwz.symm
          clear HLF
          go_wp2_with fail
          refine HPG.out.mono ?_
          rintro e wz ⟨rfl, hwz⟩
          obtain rfl := hwz.symm
          clear HPG
          go_wp2_with fail
          exact ⟨⟨i + 1, _, _, HLT.out.1, HLT.out.2, rfl, HQ.out⟩, by have := HLT.out; simp [intOf]; omega⟩
        · have hz1 : (0 : Int) < (ml : Int) := by omega
          have hz2 : 0 < ml := by omega
          have hs := HS.out
          have hx := HX.out
          have hm := HM.out
          have hpl := pk_lt x.pg hm0
          have HPM := hid (pick_any x.pg ml hx.2.1.1 hx.2.1.2 hm0 wr)
          obtain ⟨m, hmm⟩ : ∃ m, pk x.pg ml = m := ⟨_, rfl⟩
          rw [hmm] at HPM hpl
          obtain ⟨z, hz⟩ : ∃ z, M[m]? = some z := ⟨_, List.getElem?_eq_getElem (by omega)⟩
          obtain ⟨ga, rfl, hga, hca⟩ := hs.2.1.cell hz
          obtain ⟨q, hzq, y, hy⟩ := hs.2.2.2.1.2.1 z (List.mem_of_getElem? hz)
          subst hzq
          have HFR := hid (hs.1.free q y hy (by omega))
          have HLDZ := hid (load1 Tryz.isAgg3 hca)
          have HKX := hid hpl
          have hcm : ml ≤ cm := by
            rcases hs.2.1.2 with ⟨e, _⟩ | ⟨g, cp, cur, e, hb, hg, hcc, _⟩
            · cases e
            · injection e with e1 e2 e3
              omega
          have HCM : Hid (m ≤ cm ∧ m + 1 ≤ ml ∧ ml ≤ cm) := hid ⟨by omega, by omega, hcm⟩
          have HAD : Hid (IntKind.i64.wrap ((m : Int) + 1) = ((m + 1 : Nat) : Int)) := hid (by rw [IntWalk.i64_in _ ⟨by omega, by omega⟩]; omega)
          have HY := hid (And.intro hz hy)
          clear hs hx hm hpl hmm hz hga hca hy hcm hm0
          go_upto_region 26 with fail
          refine wp_region_lit ?_
          refine wp_y (v := .slice (some ⟨b, off, none⟩) N cap) rfl rfl (y_move rfl (by kernel_rfl) (by kernel_rfl)) rfl ?_
          refine wp_y (v := .int .i64 i) rfl rfl (y_move rfl (by kernel_rfl) (by kernel_rfl)) rfl ?_
          refine wp_y (v := .pointer (some ⟨b, off + i * 3, none⟩)) rfl rfl (y_index rfl (by kernel_rfl) (by kernel_rfl) (by kernel_rfl) (idx22 b off N cap i HIX.out)) rfl ?_
          refine wp_y (v := .pointer (some ⟨b, off + i * 3 + 1, none⟩)) rfl rfl (y_faddr rfl (by kernel_rfl) (by kernel_rfl) (fg32_1 (b) (off + i * 3))) rfl ?_
          refine wp_y (v := .int .i64 x.pg) rfl rfl (y_load rfl (by kernel_rfl) (by kernel_rfl) (fun w' h => by rw [h]; exact HLD1.out)) rfl ?_
          refine wp_y (v := .slice (some ⟨ga, 0, none⟩) ml cm) rfl rfl (y_move rfl (by kernel_rfl) (by kernel_rfl)) rfl ?_
          refine wp_y (v := .int .i64 ml) rfl rfl (y_len43 (p := some ⟨ga, 0, none⟩) (c := cm) rfl (by kernel_rfl) (by kernel_rfl)) rfl ?_
          refine wp_call (f := 12) (args := #[.int .i64 x.pg, .int .i64 ml]) (by kernel_rfl) (fun w => by go_simp) ?_
          refine HPM.out.mono ?_
          rintro e wz ⟨rfl, hwz⟩
          obtain rfl := hwz.symm
          refine ⟨_, rfl, ?_⟩
          dsimp only [Act.put]
          try simp only [List.setIfInBounds_toArray, List.set_cons_zero, List.set_cons_succ]
          refine wp_y (v := .int .i64 (m : Nat)) rfl rfl (y_assign rfl (by kernel_rfl) (by kernel_rfl)) rfl ?_
          try simp only [List.setIfInBounds_toArray, List.set_cons_zero, List.set_cons_succ]
          refine wp_end ?_
          clear HLD1 HPM
          go_upto_region 27 with fail
          refine wp_region_lit ?_
          refine wp_y (v := .pointer (some ⟨p, 0, none⟩)) rfl rfl (y_move rfl (by kernel_rfl) (by kernel_rfl)) rfl ?_
          refine wp_y (v := .slice (some ⟨ga, 0, none⟩) ml cm) rfl rfl (y_move rfl (by kernel_rfl) (by kernel_rfl)) rfl ?_
          refine wp_y (v := .int .i64 (m : Nat)) rfl rfl (y_move rfl (by kernel_rfl) (by kernel_rfl)) rfl ?_
          refine wp_y (v := .pointer (some ⟨ga, m, none⟩)) rfl rfl (y_index rfl (by kernel_rfl) (by kernel_rfl) (by kernel_rfl) (idx42 ga ml cm m HKX.out)) rfl ?_
          refine wp_y (v := .int .i64 (q : Nat)) rfl rfl (y_load rfl (by kernel_rfl) (by kernel_rfl) (fun w' h => by rw [h]; exact HLDZ.out)) rfl ?_
          refine wp_call (f := 27) (args := #[.pointer (some ⟨p, 0, none⟩), .int .i64 (q : Nat)]) (by kernel_rfl) (fun w => by go_simp) ?_
          refine HFR.out.mono ?_
          rintro e w3 ⟨rfl, hP3, hB3, hK3⟩
          refine ⟨_, rfl, ?_⟩
          have H3 := hid (And.intro hP3 (And.intro hB3 hK3))
          clear hP3 hB3 hK3 HFR
          dsimp only [Act.put]
          refine wp_y (v := .int .i64 0) rfl rfl (y_assign rfl (by kernel_rfl) (by kernel_rfl)) rfl ?_
          try simp only [List.setIfInBounds_toArray, List.set_cons_zero, List.set_cons_succ]
          refine wp_end ?_
          obtain ⟨wd, hwd⟩ : ∃ wd, w3.drew = wd := ⟨_, rfl⟩
          have hs := HS.out
          have hm := HM.out
          have h3 := H3.out
          have hcm := HCM.out
          have hA3 : Ats wd B (.slice (some ⟨ga, 0, none⟩) ml cm) M := by rw [← hwd]; exact h3.2.2.ats hs.2.1
          have hK3 : Ats wd B u11 K := by rw [← hwd]; exact h3.2.2.ats hs.2.2.1
          have hP3 : Pv B wd p j d s sq bl (cur.set q none) was (-1) (-1) := by rw [← hwd]; exact h3.1.below ((Below.refl _ _).drew)
          have hB3 : Below B W wd := by rw [← hwd]; exact (hs.2.2.2.2.2.2.2.2.2.2.1.trans h3.2.1).trans ((Below.refl _ _).drew)
          have hb3 : B ≤ wd.heap.size := by rw [← hwd]; exact Nat.le_trans hm.2.2.2.2 h3.2.1.size
          obtain ⟨oo, hoo⟩ : ∃ o, (if cm = m + 1 then 0 else m + 1) = o := ⟨_, rfl⟩
          have HSLO : Hid (∀ w, (Instr.sliceAt 42 (.slice (some ⟨ga, 0, none⟩) ml cm) (some (.int .i64 (m + 1 : Nat))) none none).run Tryz.prog w = .ok (.slice (some ⟨ga, oo, none⟩) (ml - (m + 1)) (cm - (m + 1))) w) := hid (fun w => by rw [← hoo]; exact slLo ga ml cm (m + 1) hcm.2.1 hcm.2.2 w)
          obtain ⟨v1, w4, v2, w5, ha1, ha2, hA5, hB5⟩ := cutI hA3 hm.1 (m := m) (by omega) (by omega) 42 42 cm (cm - (m + 1)) oo (by rw [← hoo]; by_cases e : cm = m + 1 <;> simp [e] <;> omega)
          obtain ⟨am', cm', rfl⟩ := hA5.shape
          obtain ⟨m1, hm1⟩ : ∃ k, (M.eraseIdx m).length = k := ⟨_, rfl⟩
          have hm2 : m1 + 1 = ml := by rw [← hm1, List.length_eraseIdx_of_lt (by omega)]; omega
          rw [hm1] at hA5 ha2
          have HQ : Hid (Oi W B n L (i + 1) p j d (.slice am' m1 cm') u11 (M.eraseIdx m) K w5) := hid ⟨s, sq, bl, _, was, hP3.below hB5, owns_mono hA5 hb3, hK3.below hB5, hs.2.2.2.1.give m q y HY.out.1 HY.out.2, hs.2.2.2.2.1, hs.2.2.2.2.2.1, by have := hs.2.2.2.2.2.2.1; omega, by have := hs.2.2.2.2.2.2.2.1; omega, by rw [List.length_set]; exact hs.2.2.2.2.2.2.2.2.1, hs.2.2.2.2.2.2.2.2.2.1, hB3.trans (hB5.mono hb3), fun g hg hu => by
            have h1 := (hA5.lt g hg).1
            have h2 := (hK3.lt g hu).2
            omega⟩
          have HAP1 := hid ha1
          have HAP2 := hid ha2
          have HWD := hid hwd
          have HLK := hid hm1
          have HM1 := hid hm2
          clear hs hm h3 hcm hA3 hK3 hP3 hB3 hb3 ha1 ha2 hA5 hB5 hm1 hm2 hoo hwd H3 HLDZ HY
          go_upto_region 30 with fail
          refine h_openL (S := fun _ => True) (by kernel_rfl) (by kernel_rfl) (fun _ _ _ _ _ h => h) (L := #[false, false, false, false, false, false, false, false, false, false]) (by kernel_rfl) ?_
          intro Q' hns hP hN
          have hS := trivial
          rw [HWD.out]
          refine h_takeL (i := 0) (v := .slice (some ⟨ga, 0, none⟩) ml cm) hns rfl rfl (by kernel_rfl) (by kernel_rfl) hP (y_move rfl (by kernel_rfl) (by kernel_rfl)) hS rfl (L' := #[true, false, false, false, false, false, false, false, false, false]) (by kernel_rfl) ?_
          refine h_takeL (i := 1) (v := .int .i64 (m : Nat)) hns rfl rfl (by kernel_rfl) (by kernel_rfl) hP (y_move rfl (by kernel_rfl) (by kernel_rfl)) hS rfl (L' := #[true, true, false, false, false, false, false, false, false, false]) (by kernel_rfl) ?_
          refine h_takeL (i := 2) (v := .slice (some ⟨ga, 0, none⟩) m cm) hns rfl rfl (by kernel_rfl) (by kernel_rfl) hP (y_slice rfl (by kernel_rfl) (by kernel_rfl) (by kernel_rfl) (by kernel_rfl) (by kernel_rfl) (slHi ga ml cm m HCM.out.1)) hS rfl (L' := #[true, true, true, false, false, false, false, false, false, false]) (by kernel_rfl) ?_
          refine h_takeL (i := 4) (v := .slice (some ⟨ga, 0, none⟩) ml cm) hns rfl rfl (by kernel_rfl) (by kernel_rfl) hP (y_move rfl (by kernel_rfl) (by kernel_rfl)) hS rfl (L' := #[true, true, true, false, true, false, false, false, false, false]) (by kernel_rfl) ?_
          refine h_takeL (i := 5) (v := .int .i64 (m : Nat)) hns rfl rfl (by kernel_rfl) (by kernel_rfl) hP (y_move rfl (by kernel_rfl) (by kernel_rfl)) hS rfl (L' := #[true, true, true, false, true, true, false, false, false, false]) (by kernel_rfl) ?_
          refine h_takeL (i := 6) (v := .int .i64 ((m + 1 : Nat) : Int)) hns rfl rfl (by kernel_rfl) (by kernel_rfl) hP (y_bin (k := .i64) (k' := .i64) (m := m) (n := 1) rfl (by kernel_rfl) (by kernel_rfl) (by kernel_rfl) (qadd _ _ _ HAD.out)) hS rfl (L' := #[true, true, true, false, true, true, true, false, false, false]) (by kernel_rfl) ?_
          refine h_takeL (i := 7) (v := .slice (some ⟨ga, oo, none⟩) (ml - (m + 1)) (cm - (m + 1))) hns rfl rfl (by kernel_rfl) (by kernel_rfl) hP (y_slice rfl (by kernel_rfl) (by kernel_rfl) (by kernel_rfl) (by kernel_rfl) (by kernel_rfl) (HSLO.out)) hS rfl (L' := #[true, true, true, false, true, true, true, true, false, false]) (by kernel_rfl) ?_
          try simp only [List.setIfInBounds_toArray, List.set_cons_zero, List.set_cons_succ]
          refine h_valL (i := 3) (v := v1) (by kernel_rfl) rfl rfl (by kernel_rfl) (run_appOp rfl (by kernel_rfl) (by kernel_rfl) HAP1.out) trivial rfl (L' := #[true, true, true, true, true, true, true, true, false, false]) (by kernel_rfl) ?_
          refine h_valL (i := 8) (v := .slice am' m1 cm') (by kernel_rfl) rfl rfl (by kernel_rfl) (run_appOp rfl (by kernel_rfl) (by kernel_rfl) HAP2.out) trivial rfl (L' := #[true, true, true, true, true, true, true, true, true, false]) (by kernel_rfl) ?_
          refine h_takeL (i := 9) (v := .slice am' m1 cm') hns rfl rfl (by kernel_rfl) (by kernel_rfl) hP (y_assign rfl (by kernel_rfl) (by kernel_rfl)) hS rfl (L' := #[true, true, true, true, true, true, true, true, true, true]) (by kernel_rfl) ?_
          try simp only [List.setIfInBounds_toArray, List.set_cons_zero, List.set_cons_succ]
          refine wpAnyH_done (by kernel_rfl) ?_ _
          refine hN _ _ ?_
          clear hP hN hns
          clear hS
          have hq := HQ.out
          obtain ⟨s', sq', bl', cur', was', hP', hA', hK', hMi', hKi', hsn', hso', hsq', hcl', hwl', hBw', hne'⟩ := hq
          have HLF := hid hP'.left
          have HPG := hid hP'.pages
          have hle := hP'.le
          have hmi := hMi'.2.2
          rw [HLK.out] at hmi
          have hm1 := HM1.out
          have hmm := HM.out
          rw [hcl'] at HPG hmi hle
          have hw : IntKind.i64.wrap (((nf cur' : Nat) : Int) + ((m1 : Nat) : Int)) = ((L : Nat) : Int) := by rw [IntWalk.i64_in _ ⟨by omega, by omega⟩]; omega
          generalize nf cur' = nc at *
          clear hP' hA' hK' hMi' hKi' hsn' hso' hsq' hcl' hwl' hBw' hne' hle hmi hm1 hmm
          go_wp2_with fail
          refine HLF.out.mono ?_
          rintro e wz ⟨rfl, hwz⟩
          obtain rfl := hwz.symm
          clear HLF
          go_wp2_with fail
          refine HPG.out.mono ?_
          rintro e wz ⟨rfl, hwz⟩
          obtain rfl := hwz.symm
          clear HPG
          go_wp2_with fail
          exact ⟨⟨i + 1, _, _, HLT.out.1, HLT.out.2, rfl, HQ.out⟩, by have := HLT.out; simp [intOf]; omega⟩
      · have hs := HS.out
        have hm := HM.out
        have hnb : nbOf s.n ≤ 170 := by have := Hn.out.1; rw [hs.2.2.2.2.2.1]; unfold nbOf; omega
        have hi := HLT.out
        have HCM := hid (hs.1.commit (by have := hs.2.2.2.2.2.2.2.1; omega) (by have := hs.2.2.2.2.2.2.1; omega))
        have HNB := hid hnb
        clear hs hm hnb hi
        go_wp2_with fail
        refine HCM.out.mono ?_
        rintro e w3 ⟨rfl, s', sq', bl', ⟨hP3, hB3, hK3⟩, hn3, ho3a, ho3, hq3⟩
        have hs := HS.out
        have hm := HM.out
        have hnb := HNB.out
        have hA3 := hK3.ats hs.2.1
        obtain ⟨v', w4, hap, hA4, hB4⟩ := copyI hA3 (by rw [hm.1]; omega) 42
        have hb3 : B ≤ w3.heap.size := Nat.le_trans hm.2.2.2.2 hB3.size
        have HQ : Hid (Oi W B n L (i + 1) p j d (.slice am ml cm) v' M M w4) := hid ⟨s', sq', bl', cur, cur, hP3.below hB4, hA3.below hB4, owns_mono hA4 hb3, hs.2.2.2.1, hs.2.2.2.1, hn3.trans hs.2.2.2.2.2.1, by have := hs.2.2.2.2.2.2.1; omega, by have := hs.2.2.2.2.2.2.2.1; omega, hs.2.2.2.2.2.2.2.2.1, hs.2.2.2.2.2.2.2.2.1, (hs.2.2.2.2.2.2.2.2.2.2.1.trans hB3).trans (hB4.mono hb3), fun g hg hu => by
          have h1 := (hA3.lt g hg).2
          have h2 := (hA4.lt g hu).1
          omega⟩
        have HAP := hid hap
        clear hs hm hnb hA3 hap hA4 hB4 hb3 hP3 hB3 hK3 hn3 ho3a ho3 hq3 HCM HNB
        go_upto_region 35 with fail
        refine wp_region_lit ?_
        refine wp_y (v := .slice am ml cm) rfl rfl (y_move rfl (by kernel_rfl) (by kernel_rfl)) rfl ?_
        refine wp_run (v := v') rfl rfl (run_appOp rfl (by kernel_rfl) (by kernel_rfl) HAP.out) rfl ?_
        refine wp_y (v := v') rfl rfl (y_assign rfl (by kernel_rfl) (by kernel_rfl)) rfl ?_
        try simp only [List.setIfInBounds_toArray, List.set_cons_zero, List.set_cons_succ]
        refine wp_end ?_
        have hq := HQ.out
        obtain ⟨s', sq', bl', cur', was', hP', hA', hK', hMi', hKi', hsn', hso', hsq', hcl', hwl', hBw', hne'⟩ := hq
        have HLF := hid hP'.left
        have HPG := hid hP'.pages
        have hle := hP'.le
        have hmi := hMi'.2.2
        rw [HM.out.1] at hmi
        rw [hcl'] at HPG hmi hle
        have hw : IntKind.i64.wrap (((nf cur' : Nat) : Int) + ((ml : Nat) : Int)) = ((L : Nat) : Int) := by rw [IntWalk.i64_in _ ⟨by omega, by omega⟩]; omega
        generalize nf cur' = nc at *
        clear hP' hA' hK' hMi' hKi' hsn' hso' hsq' hcl' hwl' hBw' hne' hle hmi
        go_wp2_with fail
        refine HLF.out.mono ?_
        rintro e wz ⟨rfl, hwz⟩
        obtain rfl := hwz.symm
        clear HLF
        go_wp2_with fail
        refine HPG.out.mono ?_
        rintro e wz ⟨rfl, hwz⟩
        obtain rfl := hwz.symm
        clear HPG
        go_wp2_with fail
        exact ⟨⟨i + 1, _, _, HLT.out.1, HLT.out.2, rfl, HQ.out⟩, by have := HLT.out; simp [intOf]; omega⟩
      · have hs := HS.out
        have HAB := hid hs.1.abort
        clear hs
        go_wp2_with fail
        refine HAB.out.mono ?_
        rintro e w3 ⟨rfl, hP3, hB3, hK3⟩
        have hs := HS.out
        have hm := HM.out
        have hk3 := hK3.ats hs.2.2.1
        obtain ⟨v', w4, hap, hA4, hB4⟩ := copyI hk3 (by omega) 42
        have hb3 : B ≤ w3.heap.size := Nat.le_trans hm.2.2.2.2 hB3.size
        obtain ⟨am', cm', rfl⟩ := hA4.shape
        obtain ⟨m1, hm1⟩ : ∃ k, K.length = k := ⟨_, rfl⟩
        rw [hm1] at hA4 hap
        have HQ : Hid (Oi W B n L (i + 1) p j d (.slice am' m1 cm') u11 K K w4) := hid ⟨s, sq, bl, was, was, hP3.below hB4, owns_mono hA4 hb3, hk3.below hB4, hs.2.2.2.2.1, hs.2.2.2.2.1, hs.2.2.2.2.2.1, by have := hs.2.2.2.2.2.2.1; omega, by have := hs.2.2.2.2.2.2.2.1; omega, hs.2.2.2.2.2.2.2.2.2.1, hs.2.2.2.2.2.2.2.2.2.1, (hs.2.2.2.2.2.2.2.2.2.2.1.trans hB3).trans (hB4.mono hb3), fun g hg hu => by
          have h1 := (hA4.lt g hg).1
          have h2 := (hk3.lt g hu).2
          omega⟩
        have HAP := hid hap
        have HLK := hid hm1
        have HM1 : Hid (m1 ≤ 1023) := hid (by omega)
        clear hs hm hk3 hap hA4 hB4 hb3 hP3 hB3 hK3 hm1 HAB
        go_upto_region 38 with fail
        refine wp_region_lit ?_
        refine wp_y (v := u11) rfl rfl (y_move rfl (by kernel_rfl) (by kernel_rfl)) rfl ?_
        refine wp_run (v := .slice am' m1 cm') rfl rfl (run_appOp rfl (by kernel_rfl) (by kernel_rfl) HAP.out) rfl ?_
        refine wp_y (v := .slice am' m1 cm') rfl rfl (y_assign rfl (by kernel_rfl) (by kernel_rfl)) rfl ?_
        try simp only [List.setIfInBounds_toArray, List.set_cons_zero, List.set_cons_succ]
        refine wp_end ?_
        have hq := HQ.out
        obtain ⟨s', sq', bl', cur', was', hP', hA', hK', hMi', hKi', hsn', hso', hsq', hcl', hwl', hBw', hne'⟩ := hq
        have HLF := hid hP'.left
        have HPG := hid hP'.pages
        have hle := hP'.le
        have hmi := hMi'.2.2
        rw [HLK.out] at hmi
        have hm1 := HM1.out
        have hmm := HM.out
        rw [hcl'] at HPG hmi hle
        have hw : IntKind.i64.wrap (((nf cur' : Nat) : Int) + ((m1 : Nat) : Int)) = ((L : Nat) : Int) := by rw [IntWalk.i64_in _ ⟨by omega, by omega⟩]; omega
        generalize nf cur' = nc at *
        clear hP' hA' hK' hMi' hKi' hsn' hso' hsq' hcl' hwl' hBw' hne' hle hmi hm1 hmm
        go_wp2_with fail
        refine HLF.out.mono ?_
        rintro e wz ⟨rfl, hwz⟩
        obtain rfl := hwz.symm
        clear HLF
        go_wp2_with fail
        refine HPG.out.mono ?_
        rintro e wz ⟨rfl, hwz⟩
        obtain rfl := hwz.symm
        clear HPG
        go_wp2_with fail
        exact ⟨⟨i + 1, _, _, HLT.out.1, HLT.out.2, rfl, HQ.out⟩, by have := HLT.out; simp [intOf]; omega⟩
    · have hlt' : (decide ((i : Int) < (N : Int)) && decide ((i : Int) < 120)) = false := by
        rw [Bool.and_eq_false_iff, decide_eq_false_iff_not, decide_eq_false_iff_not]; omega
      obtain ⟨_, _, _, _, _, _, _, _, _, _, _, _, _, _, _, hBw, _⟩ := hO
      have HZ := hid hBw
      clear hBw hnn hi
      by_cases h1 : (i : Int) < (N : Int)
      · have h2 : ¬ (i : Int) < 120 := by omega
        clear hlt hlt' hiN
        go_wp2_with fail
        go_ret
        exact ⟨rfl, HZ.out⟩
      · clear hlt hlt' hiN
        go_wp2_with fail
        go_ret
        exact ⟨rfl, HZ.out⟩
end Go.Proofs.YtdbgccgjdgomkaaGreatDoor
