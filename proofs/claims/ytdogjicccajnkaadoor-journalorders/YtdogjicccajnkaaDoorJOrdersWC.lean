/- The walk of JournalOrders. -/
import Derived.Test.YtdogjicccajnkaaDoorJRefusesWC
import Derived.Test.YtdogjicccajnkaaDoorJOrdersMC
namespace Go.Proofs.YtdogjicccajnkaaDoor
open Go Go.RowKit

def Dj (A B : List Nat) : Prop := ∀ x ∈ A, x ∉ B
theorem Dj.symm {A B : List Nat} (h : Dj A B) : Dj B A := fun x hx hm => h x hm hx
theorem Dj.step {j : Nat} {X X' Y : List Nat} {S : Nat} (h : Dj (j :: X) Y) (hX : ∀ x ∈ X', x ∈ X ∨ S ≤ x) (hY : ∀ x ∈ Y, x < S) : Dj (j :: X') Y := fun x hx hm => by
  rcases List.mem_cons.1 hx with rfl | hx
  · exact h x (by simp) hm
  · rcases hX x hx with h1 | h1
    · exact h x (by simp [h1]) hm
    · have := hY x hm; omega
theorem Dj.of_lt {A B : List Nat} {S : Nat} (h1 : ∀ x ∈ A, x < S) (h2 : ∀ x ∈ B, S ≤ x) : Dj A B := fun x hx hm => by
  have a := h1 x hx
  have b := h2 x hm
  omega
theorem Js.mono {B B' : Nat} {w : World} {j p : Nat} {X : List Nat} {s : DS} {sq cnt : Nat} {bl : List (List UInt8)} (h : Js B w j p X s sq cnt bl) (hB : B' ≤ B) : Js B' w j p X s sq cnt bl := ⟨h.jr, h.cut, fun k hk => Nat.le_trans hB (h.lo k hk), Nat.le_trans hB h.jlo⟩
theorem owns_mono {t : TypeId} {w : World} {B B' n : Nat} {v : Value} {xs : List Value} (h : w.ownsRow B t 1 v n xs) (hB : B' ≤ B) : w.ownsRow B' t 1 v n xs := by
  refine ⟨h.1, ?_⟩
  rcases h.2 with h2 | ⟨g, cap, cur, rfl, hb, r2⟩
  · exact .inl h2
  · exact .inr ⟨g, cap, cur, rfl, Nat.le_trans hB hb, r2⟩
set_option maxRecDepth 100000 in
set_option maxHeartbeats 8000000 in
theorem journalOrders_walk (c kd by_ raw cut : Int) (va0 : Value) (zs0 : List Int) (W : World) (ht : Tab W) (hc : -9223372036854775808 ≤ c ∧ c ≤ 9223372036854775807) (ha0 : Iz W va0 zs0) (hl0 : zs0.length ≤ 9223372036854775807) (hz0 : ∀ x ∈ zs0, -9223372036854775808 ≤ x ∧ x ≤ 9223372036854775807) (hby : 0 ≤ by_ ∧ by_ ≤ 255) (hcut : -9223372036854775808 ≤ cut ∧ cut ≤ 9223372036854775807) :
    Calls Tryd.prog 7 #[.int .i64 c, .agg #[.int .i64 kd, va0, .int .u8 by_, .int .i64 raw], .int .i64 cut] W fun e w' => e = .returned (.bool true) ∧ Below W.heap.size W w' := by
  have HN := hid (sizeOf6_le c)
  have HSZ := hid (fun w => size_any c hc.1 hc.2 w)
  generalize sizeOf6 c = nn at *
  have HIA0 := hid ha0
  obtain ⟨aa, ca, rfl, _⟩ := ha0
  obtain ⟨N0, hN0⟩ : ∃ N0, N0 = zs0.length := ⟨_, rfl⟩
  rw [← hN0] at HIA0 ⊢
  have HL0 := hid hl0
  have HZ0 := hid hz0
  have HBY := hid hby
  have HCU := hid hcut
  have HT := hid ht
  have HTL := hid (tab_lt ht)
  have HNB : Hid (nbOf nn ≠ 0 ∧ nbOf nn ≤ 1000000) := hid (by have := HN.out; unfold nbOf; omega)
  have HNB2 : Hid (nbOf nn ≤ 45) := hid (by have := HN.out; unfold nbOf; omega)
  have hB0 : Below W.heap.size W (W.alloc (.cells #[.int .i64 kd, .slice aa N0 ca, .int .u8 by_, .int .i64 raw] 45)) := (Below.refl _ _).alloc (Nat.le_refl _) _
  have hr0 : (W.alloc (.cells #[.int .i64 kd, .slice aa N0 ca, .int .u8 by_, .int .i64 raw] 45)).heap[W.heap.size]? = some (.cells #[.int .i64 kd, .slice aa N0 ca, .int .u8 by_, .int .i64 raw] 45 (0, 0)) := heap_alloc_last W _
  have HB0 := hid hB0
  have HR0 := hid hr0
  clear hB0 hr0 hl0 hz0 hby ht hc hN0 hcut
  go_enter Tryd.func7, Tryd.ntmps7
  go_wp2_with fail
  generalize W.alloc (.cells #[.int .i64 kd, .slice aa N0 ca, .int .u8 by_, .int .i64 raw] 45) = w0 at *
  generalize hab : W.heap.size = ab at *
  have HW0 : Hid (ab ≤ W.heap.size) := hid (Nat.le_of_eq hab.symm)
  refine (shown_any w0 (HT.out.belowB HB0.out HTL.out)).mono ?_
  rintro e w1 ⟨rfl, hB1⟩
  have HB1 : Hid (Below ab W w1) := hid (HB0.out.trans (hB1.mono (Nat.le_trans HW0.out HB0.out.size)))
  have HR1 := hid (below_at hB1 HR0.out (heap_lt HR0.out))
  have HT1 : Hid (Tab w1) := hid (HT.out.belowB HB1.out HTL.out)
  clear hB1 HR0 HB0
  go_wp2_with fail
  refine (HSZ.out _).mono ?_
  rintro e wz ⟨rfl, hwz⟩
  obtain rfl := hwz.symm
  go_wp2_with fail
  refine (begun_any nn HN.out.1 (by have := HN.out; omega) w1 HT1.out).mono ?_
  intro e w2 hbg
  obtain ⟨pj, j, rj, X, sj, rfl, hJ2, hsn, hso, _, _, hB2⟩ := hbg.js
  have hb1 : ab < w1.heap.size := heap_lt HR1.out
  have HR2 := hid (below_at hB2 HR1.out hb1)
  have HB2 : Hid (Below ab W w2) := hid (HB1.out.trans (hB2.mono (Nat.le_of_lt hb1)))
  have HT2 : Hid (Tab w2) := hid (HT.out.belowB HB2.out HTL.out)
  have HSJ := hid (And.intro (show nbOf sj.n = nbOf nn by rw [hsn]) hso)
  have HJ2 := hid hJ2
  have HB1L : Hid (ab < w1.heap.size ∧ w1.heap.size ≤ w2.heap.size) := hid ⟨hb1, hB2.size⟩
  generalize w1.heap.size = b1 at *
  clear hB2 HR1 HB1 hbg hsn hso hJ2 hb1 HT1
  go_wp2_with fail
  refine (HSZ.out _).mono ?_
  rintro e wz ⟨rfl, hwz⟩
  obtain rfl := hwz.symm
  go_wp2_with fail
  refine (begun_any nn HN.out.1 (by have := HN.out; omega) w2 HT2.out).mono ?_
  intro e w3 hbg
  obtain ⟨pk', k, rk, Y, sk, rfl, hJ3, hsn, hso, _, _, hB3⟩ := hbg.js
  have HR3 := hid (below_at hB3 HR2.out (heap_lt HR2.out))
  have HB3 : Hid (Below ab W w3) := hid (HB2.out.trans (hB3.mono (by have := HB1L.out; omega)))
  have HT3 : Hid (Tab w3) := hid (HT.out.belowB HB3.out HTL.out)
  have HSK := hid (And.intro (show nbOf sk.n = nbOf nn by rw [hsn]) hso)
  have HJ3 := hid (HJ2.out.below hB3)
  have HD1 : Hid (Dj (j :: X) (k :: Y)) := hid (Dj.of_lt HJ2.out.lt hJ3.lo')
  have HK3 := hid (hJ3.mono HB1L.out.2)
  have HB2L : Hid (w2.heap.size ≤ w3.heap.size) := hid hB3.size
  clear hB3 HR2 HB2 hbg hsn hso hJ3 HT2 HJ2
  go_wp2_with fail
  refine (HSZ.out _).mono ?_
  rintro e wz ⟨rfl, hwz⟩
  obtain rfl := hwz.symm
  go_wp2_with fail
  refine (begun_any nn HN.out.1 (by have := HN.out; omega) w3 HT3.out).mono ?_
  intro e w4 hbg
  obtain ⟨pl, l, rl, Z, sl, rfl, hJ4, hsn, hso, _, _, hB4⟩ := hbg.js
  have HR4 := hid (below_at hB4 HR3.out (heap_lt HR3.out))
  have HB4 : Hid (Below ab W w4) := hid (HB3.out.trans (hB4.mono (by have := HB1L.out; have := HB2L.out; omega)))
  have HSL := hid (And.intro (show nbOf sl.n = nbOf nn by rw [hsn]) hso)
  have HJ4 := hid (HJ3.out.below hB4)
  have HK4 := hid (HK3.out.below hB4)
  have HD2 : Hid (Dj (j :: X) (l :: Z)) := hid (Dj.of_lt HJ3.out.lt hJ4.lo')
  have HD3 : Hid (Dj (k :: Y) (l :: Z)) := hid (Dj.of_lt HK3.out.lt hJ4.lo')
  have HL4 := hid (hJ4.mono (Nat.le_trans HB1L.out.2 HB2L.out))
  clear hB4 HR3 HB3 hbg hsn hso hJ4 HT3 HJ3 HK3
  generalize hnb : nbOf nn = nb at *
  have hc3 : w4.cell? ⟨ab, 3, none⟩ = some (.int .i64 raw) := cell_at HR4.out 3 rfl
  have hf3 : w4.frozen? ⟨ab, 3, none⟩ = false := open_at HR4.out 3
  have HF5 : Hid (Fr [ab] w4 (w4.setCell ⟨ab, 3, none⟩ (.int .i64 2))) := hid (Fr.setCell _ _ _ _)
  have HB5 : Hid (Below ab W (w4.setCell ⟨ab, 3, none⟩ (.int .i64 2))) := hid (HB4.out.trans (HF5.out.below (Nat.le_trans HW0.out HB4.out.size) (by simp)))
  have HR5 := hid (heap_setCell HR4.out 3 (.int .i64 2))
  go_upto_region 8 with fail
  clear hc3 hf3
  generalize w4.setCell ⟨ab, 3, none⟩ (.int .i64 2) = w5 at *
  have hT5 : Tab w5 := HT.out.belowB HB5.out HTL.out
  have hnot : ∀ {B : Nat} {A : List Nat}, (∀ x ∈ A, b1 ≤ x) → ∀ x ∈ A, x ∉ [ab] := fun h x hx hm => by
    have h1 := h x hx
    have h2 := HB1L.out
    have h3 : x = ab := by simpa using hm
    omega
  have hd : Below w5.heap.size w5 w5.drew := (Below.refl _ _).drew
  have HJ5 := hid ((HJ4.out.fr HF5.out (hnot (B := 0) HJ4.out.lo') hT5).below hd)
  have HK5 := hid ((HK4.out.fr HF5.out (hnot (B := 0) HK4.out.lo') hT5).below hd)
  have HL5 := hid ((HL4.out.fr HF5.out (hnot (B := 0) HL4.out.lo') hT5).below hd)
  have HS5 := hid (And.intro (below_at hd HR5.out (heap_lt HR5.out)) (And.intro HJ5.out ((HIA0.out.below (by rw [hab]; exact HB5.out)).below hd)))
  have HB5 := hid (HB5.out.trans (hd.mono (Nat.le_trans HW0.out HB5.out.size)))
  clear hT5 hnot hd HJ4 HK4 HL4 HR4 HB4 HR5 HIA0 HJ5 HF5
  refine z_open (S := fun w' => w'.heap[ab]? = some (.cells #[.int .i64 kd, .slice aa N0 ca, .int .u8 by_, .int .i64 2] 45 (0, 0)) ∧ Js b1 w' j pj X sj 0 0 (zeros nb) ∧ Iz w' (.slice aa N0 ca) zs0) 3 (by kernel_rfl) (by kernel_rfl) (fun _ _ _ _ _ h => h) (L := #[false, false, false, false, false, false, false, false, false]) (by kernel_rfl) ?_
  intro Q' hns hP hN
  have hS := HS5.out
  refine z_read (i := 0) (v := .agg #[.int .i64 kd, .slice aa N0 ca, .int .u8 by_, .int .i64 2]) hns rfl (by kernel_rfl) rfl rfl (by kernel_rfl) (by kernel_rfl) hP (y_load rfl (by kernel_rfl) (by kernel_rfl) (fun w' h => load45 h.1)) rfl hS rfl (L' := #[true, false, false, false, false, false, false, false, false]) (by kernel_rfl) ?_
  refine z_pure (i := 1) (v := .pointer (some ⟨j, 0, none⟩)) hns rfl rfl rfl (by kernel_rfl) (by kernel_rfl) hP (y_move rfl (by kernel_rfl) (by kernel_rfl)) (fun _ => hS) rfl (L' := #[true, true, false, false, false, false, false, false, false]) (by kernel_rfl) ?_
  refine z_call (i := 2) (f := 16) (args := #[.pointer (some ⟨j, 0, none⟩)]) (by kernel_rfl) rfl rfl (by kernel_rfl) (enter_go rfl (by kernel_rfl) (fun w => by go_simp)) (L' := #[true, true, true, false, false, false, false, false, false]) (by kernel_rfl) ?_
  refine (jblocks_any (hS.2.1.jr.jn)).mono ?_
  rintro e wz ⟨rfl, hwz⟩
  obtain rfl := hwz.symm
  refine ⟨_, rfl, hS, ?_⟩
  rw [HSJ.out.1]
  refine z_call (i := 3) (f := 22) (args := #[.agg #[.int .i64 kd, .slice aa N0 ca, .int .u8 by_, .int .i64 2], .int .i64 nb]) (by kernel_rfl) rfl rfl (by kernel_rfl) (enter_go rfl (by kernel_rfl) (fun w => by go_simp)) (L' := #[true, true, true, true, false, false, false, false, false]) (by kernel_rfl) ?_
  refine (blocks_any nb HNB.out.1 HNB.out.2 hS.2.2 HL0.out HZ0.out HBY.out (by decide)).mono ?_
  rintro e w6 ⟨v1, v2, zs, qs, rfl, hA6, hK6, hz6, hq6, hF6, hB6⟩
  have hS6 : _ ∧ _ ∧ _ := And.intro (below_at hB6 hS.1 (heap_lt hS.1)) (And.intro (hS.2.1.below hB6) (hS.2.2.below hB6))
  refine ⟨_, rfl, hS6, ?_⟩
  refine z_pure (i := 4) (v := .tuple #[v1, v2]) hns rfl rfl rfl (by kernel_rfl) (by kernel_rfl) hP (y_move rfl (by kernel_rfl) (by kernel_rfl)) (fun _ => hS6) rfl (L' := #[true, true, true, true, true, false, false, false, false]) (by kernel_rfl) ?_
  refine z_pure (i := 5) (v := v1) hns rfl rfl rfl (by kernel_rfl) (by kernel_rfl) hP (y_ext rfl (by kernel_rfl) (by kernel_rfl) (ext2_0 v1 v2)) (fun _ => hS6) rfl (L' := #[true, true, true, true, true, true, false, false, false]) (by kernel_rfl) ?_
  refine z_pure (i := 6) (v := v2) hns rfl rfl rfl (by kernel_rfl) (by kernel_rfl) hP (y_ext rfl (by kernel_rfl) (by kernel_rfl) (ext2_1 v1 v2)) (fun _ => hS6) rfl (L' := #[true, true, true, true, true, true, true, false, false]) (by kernel_rfl) ?_
  simp only [List.setIfInBounds_toArray, List.set_cons_zero, List.set_cons_succ]
  refine z_pure (i := 7) (v := v1) hns rfl rfl rfl (by kernel_rfl) (by kernel_rfl) hP (y_assign rfl (by kernel_rfl) (by kernel_rfl)) (fun _ => hS6) rfl (L' := #[true, true, true, true, true, true, true, true, false]) (by kernel_rfl) ?_
  refine z_pure (i := 8) (v := v2) hns rfl rfl rfl (by kernel_rfl) (by kernel_rfl) hP (y_assign rfl (by kernel_rfl) (by kernel_rfl)) (fun _ => hS6) rfl (L' := #[true, true, true, true, true, true, true, true, true]) (by kernel_rfl) ?_
  try simp only [List.setIfInBounds_toArray, List.set_cons_zero, List.set_cons_succ]
  refine z_done (by kernel_rfl) ?_ _
  refine hN _ _ ?_
  clear hP hN hns
  clear hS HS5
  have hFit : Fit nb zs (qs.map ql) := hF6 (by decide)
  have HJ6 := hid hS6.2.1
  have HK6 := hid (HK5.out.below hB6)
  have HL6 := hid (HL5.out.below hB6)
  have HB6 : Hid (Below ab W w6) := hid (HB5.out.trans (hB6.mono (Nat.le_trans HW0.out HB5.out.size)))
  have hqm : qs.length = zs.length := by have := hFit.1; rw [List.length_map] at this; exact this.symm
  have hb56 : w5.drew.heap.size ≤ w6.heap.size := hB6.size
  generalize w5.drew.heap.size = b5 at *
  have HA6 := hid hA6
  have HQ6 := hid hK6
  obtain ⟨a1, c1, rfl, _⟩ := hA6.iz
  obtain ⟨a2, c2, rfl⟩ : ∃ a cap, v2 = .slice a zs.length cap := by
    obtain ⟨a, cap, e, _⟩ := hK6.bz
    exact ⟨a, cap, by rw [e, List.length_map, hqm]⟩
  obtain ⟨m, hm⟩ : ∃ m, m = zs.length := ⟨_, rfl⟩
  rw [← hm] at HA6 HQ6 ⊢
  have HM : Hid (m = zs.length ∧ qs.length = m ∧ m ≤ 40) := hid ⟨hm, by omega, by omega⟩
  have HFit := hid hFit
  have HB56 := hid hb56
  have hwm : IntKind.i64.wrap ((m : Int) - 1) = (m : Int) - 1 := by rw [IntWalk.i64_in _ ⟨by omega, by omega⟩]
  clear hA6 hK6 hz6 hq6 hF6 hB6 hS6 hFit hqm hb56 hm HK5 HL5 HB5
  go_wp2_with fail
  generalize hb6 : w6.heap.size = b6 at *
  go_loopw [19, 20, 21] (fun v19 v20 v21 wr => ∃ t : Nat, t ≤ m ∧ v21 = .int .i64 ((m : Int) - 1 - (t : Int)) ∧ wr.ownsRow b6 3 1 v19 (zs.reverse.take t).length ((zs.reverse.take t).map (Value.int .i64)) ∧ wr.ownsRow b6 33 1 v20 (qs.reverse.take t).length ((qs.reverse.take t).map qv) ∧ Below b6 w6 wr ∧ Js b1 wr j pj X sj 0 0 (zeros nb) ∧ Js b1 wr k pk' Y sk 0 0 (zeros nb) ∧ Js b1 wr l pl Z sl 0 0 (zeros nb)) (fun _ _ v21 _ => ((intOf v21) + 1).toNat)
  case atStart => exact ⟨0, Nat.zero_le _, by rw [Int.ofNat_zero, Int.sub_zero], World.ownsRow_nil _ _ _ _, World.ownsRow_nil _ _ _ _, Below.refl _ _, HJ6.out, HK6.out, HL6.out⟩
  case round =>
    clear hwm
    obtain ⟨t, htm, rfl, ho19, ho20, hBr, hJr, hKr, hLr⟩ := hrel
    have hMM := HM.out
    by_cases hlt : t < m
    · obtain ⟨i, hi⟩ : ∃ i : Nat, (m : Int) - 1 - (t : Int) = (i : Int) := ⟨m - 1 - t, by omega⟩
      rw [hi]
      have hii : i = m - 1 - t := by omega
      have hge : (0 : Int) ≤ (i : Int) := by omega
      have HIM : Hid (i < m) := hid (by omega)
      have hwi : IntKind.i64.wrap ((i : Int) - 1) = (m : Int) - 1 - ((t + 1 : Nat) : Int) := by rw [IntWalk.i64_in _ ⟨by omega, by omega⟩]; omega
      obtain ⟨z, hz⟩ : ∃ z, zs[i]? = some z := ⟨_, List.getElem?_eq_getElem (by omega)⟩
      obtain ⟨q, hq⟩ : ∃ q, qs[i]? = some q := ⟨_, List.getElem?_eq_getElem (by omega)⟩
      have hz2 : zs.reverse.take (t + 1) = zs.reverse.take t ++ [z] := by
        rw [List.take_add_one, List.getElem?_reverse (by omega), show zs.length - 1 - t = i by omega, hz]; rfl
      have hq2 : qs.reverse.take (t + 1) = qs.reverse.take t ++ [q] := by
        rw [List.take_add_one, List.getElem?_reverse (by omega), show qs.length - 1 - t = i by omega, hq]; rfl
      have hBr6 : Below w6.heap.size w6 wr := by rw [hb6]; exact hBr
      have hb6r : b6 ≤ wr.heap.size := by rw [← hb6]; exact hBr.size
      obtain ⟨g1, hg1, hcz⟩ : ∃ g1, a1 = some ⟨g1, 0, none⟩ ∧ wr.cell? ⟨g1, 0 + i, none⟩ = some (.int .i64 z) := by
        obtain ⟨a, cap, e, hc⟩ := (HA6.out.below hBr6).iz
        obtain ⟨b, o, e2, hcc⟩ := hc i z hz
        rcases HA6.out.2 with ⟨_, h0⟩ | ⟨g, cap', cur, e3, _⟩
        · omega
        · injection e3 with e4
          injection e with e5
          rw [← e5, e4] at e2
          injection e2 with e2
          injection e2 with e6 e7
          subst e6 e7
          exact ⟨g, e4, hcc⟩
      obtain ⟨g2, hg2, hcq⟩ : ∃ g2, a2 = some ⟨g2, 0, none⟩ ∧ wr.cell? ⟨g2, 0 + i, none⟩ = some (qv q) := by
        obtain ⟨g, cap, e, hcc⟩ := (HQ6.out.below hBr6).cell hq
        injection e with e4
        exact ⟨g, e4, by rw [Nat.zero_add]; exact hcc⟩
      subst hg1 hg2
      have ho19' : wr.ownsRow b6 3 1 u19 ((zs.reverse.take t).map (Value.int .i64)).length ((zs.reverse.take t).map (Value.int .i64)) := by rw [List.length_map]; exact ho19
      have ho20' : wr.ownsRow b6 33 1 u20 ((qs.reverse.take t).map qv).length ((qs.reverse.take t).map qv) := by rw [List.length_map]; exact ho20
      obtain ⟨v19', wa, hap1, hoa, hBa, hOa⟩ := more_one Tryd.underlying43 info3 rfl (by decide) ho19' (.int .i64 z) rfl (by rw [List.length_map, List.length_take, List.length_reverse]; omega) hb6r 43
      have ho20a := owns_oth ho20' hOa (by decide)
      obtain ⟨v20', wb, hap2, hob, hBb, hOb⟩ := more_one Tryd.underlying46 infoSl rfl (by decide) ho20a (qv q) rfl (by rw [List.length_map, List.length_take, List.length_reverse]; omega) (Nat.le_trans hb6r hOa.size) 46
      have hoab := owns_oth hoa hOb (by decide)
      have hcqa : wa.cell? ⟨g2, 0 + i, none⟩ = some (.slice (some ⟨q.1, 0, none⟩) q.2.1 112) := by
        obtain ⟨g, cap, e, hcc⟩ := HQ6.out.cell hq
        injection e with e4
        injection e4 with e4
        injection e4 with e4
        subst e4
        have hl6 := World.block_lt_of_cell? w6 _ hcc
        rw [hb6] at hl6
        rw [Nat.zero_add, (hBr.trans hBa).cell (p := ⟨g2, i, none⟩) hl6]
        exact hcc
      have hBab : Below b6 w6 wb := hBr.trans (hBa.trans hBb)
      have hWb : Below ab W wb := HB6.out.trans (hBab.mono (by rw [← hb6]; exact Nat.le_trans HW0.out HB6.out.size))
      have hWa : Below ab W wa := HB6.out.trans ((hBr.trans hBa).mono (by rw [← hb6]; exact Nat.le_trans HW0.out HB6.out.size))
      have hTa := HT.out.belowB hWa HTL.out
      have hTb := HT.out.belowB hWb HTL.out
      have HZ : Hid ((∃ t_1 : Nat, t_1 ≤ m ∧ Value.int .i64 ((m : Int) - 1 - ((t + 1 : Nat) : Int)) = .int .i64 ((m : Int) - 1 - (t_1 : Int)) ∧ wb.ownsRow b6 3 1 v19' (zs.reverse.take t_1).length ((zs.reverse.take t_1).map (Value.int .i64)) ∧ wb.ownsRow b6 33 1 v20' (qs.reverse.take t_1).length ((qs.reverse.take t_1).map qv) ∧ Below b6 w6 wb ∧ Js b1 wb j pj X sj 0 0 (zeros nb) ∧ Js b1 wb k pk' Y sk 0 0 (zeros nb) ∧ Js b1 wb l pl Z sl 0 0 (zeros nb)) ∧ ((intOf (.int .i64 ((m : Int) - 1 - ((t + 1 : Nat) : Int)))) + 1).toNat < ((intOf (.int .i64 (i : Int))) + 1).toNat) :=
        hid ⟨⟨t + 1, hlt, rfl, by rw [hz2, List.map_append, List.length_append]; rw [List.length_append, List.length_map] at hoab; exact hoab, by rw [hq2, List.map_append, List.length_append]; rw [List.length_append, List.length_map] at hob; exact hob, hBab, (hJr.oth hOa (by decide) (by decide) (by decide) hTa).oth hOb (by decide) (by decide) (by decide) hTb, (hKr.oth hOa (by decide) (by decide) (by decide) hTa).oth hOb (by decide) (by decide) (by decide) hTb, (hLr.oth hOa (by decide) (by decide) (by decide) hTa).oth hOb (by decide) (by decide) (by decide) hTb⟩, by simp only [intOf]; omega⟩
      have HAP1 := hid hap1
      have HAP2 := hid (show (Builtin.append_ #[46, 46] 46 #[u20, .slice (some ⟨wa.heap.size, 0, none⟩) 1 1]).run Tryd.prog (wa.alloc (.cells #[.slice (some ⟨q.1, 0, none⟩) q.2.1 112] 33)) = .ok v20' wb from hap2)
      have HCZ := hid hcz
      have HCQ := hid hcqa
      clear hoa hBa hOa ho20a hob hBb hOb hoab hcqa hBab hWb hWa hTa hTb hap1 hap2 hcz hcq ho19' ho20' hBr6 hb6r hz hq hz2 hq2 ho19 ho20 hBr hJr hKr hLr hMM hi hii htm hlt
      generalize (m : Int) - 1 - ((t + 1 : Nat) : Int) = nx at *
      go_upto_region 14 with fail
      refine wp_region_lit ?_
      refine wp_y (v := u19) rfl rfl (y_move rfl (by kernel_rfl) (by kernel_rfl)) rfl ?_
      refine wp_y (v := .slice (some ⟨g1, 0, none⟩) m c1) rfl rfl (y_move rfl (by kernel_rfl) (by kernel_rfl)) rfl ?_
      refine wp_y (v := .int .i64 (i : Nat)) rfl rfl (y_move rfl (by kernel_rfl) (by kernel_rfl)) rfl ?_
      refine wp_y (v := .pointer (some ⟨g1, 0 + i, none⟩)) rfl rfl (y_index rfl (by kernel_rfl) (by kernel_rfl) (by kernel_rfl) (idx43 g1 0 m c1 i HIM.out)) rfl ?_
      refine wp_y (v := .int .i64 z) rfl rfl (y_load rfl (by kernel_rfl) (by kernel_rfl) (fun w' h => by rw [h]; exact load1 Tryd.isAgg3 HCZ.out)) rfl ?_
      refine wp_run (v := .slice (some ⟨wr.heap.size, 0, none⟩) 1 1) rfl rfl (run_bsOp rfl (by kernel_rfl) (bslice43 wr z)) rfl ?_
      refine wp_run (v := v19') rfl rfl (run_appOp rfl (by kernel_rfl) (by kernel_rfl) HAP1.out) rfl ?_
      refine wp_y (v := v19') rfl rfl (y_assign rfl (by kernel_rfl) (by kernel_rfl)) rfl ?_
      try simp only [List.setIfInBounds_toArray, List.set_cons_zero, List.set_cons_succ]
      refine wp_end ?_
      go_upto_region 15 with fail
      refine wp_region_lit ?_
      refine wp_y (v := u20) rfl rfl (y_move rfl (by kernel_rfl) (by kernel_rfl)) rfl ?_
      refine wp_y (v := .slice (some ⟨g2, 0, none⟩) m c2) rfl rfl (y_move rfl (by kernel_rfl) (by kernel_rfl)) rfl ?_
      refine wp_y (v := .int .i64 (i : Nat)) rfl rfl (y_move rfl (by kernel_rfl) (by kernel_rfl)) rfl ?_
      refine wp_y (v := .pointer (some ⟨g2, 0 + i, none⟩)) rfl rfl (y_index rfl (by kernel_rfl) (by kernel_rfl) (by kernel_rfl) (idx46 g2 0 m c2 i HIM.out)) rfl ?_
      refine wp_y (v := .slice (some ⟨q.1, 0, none⟩) q.2.1 112) rfl rfl (y_load rfl (by kernel_rfl) (by kernel_rfl) (fun w' h => by rw [h]; exact load1 Tryd.isAgg33 HCQ.out)) rfl ?_
      refine wp_run (v := .slice (some ⟨wa.heap.size, 0, none⟩) 1 1) rfl rfl (run_bsOp rfl (by kernel_rfl) (bslice46a wa q.1 q.2.1 112)) rfl ?_
      refine wp_run (v := v20') rfl rfl (run_appOp rfl (by kernel_rfl) (by kernel_rfl) HAP2.out) rfl ?_
      refine wp_y (v := v20') rfl rfl (y_assign rfl (by kernel_rfl) (by kernel_rfl)) rfl ?_
      try simp only [List.setIfInBounds_toArray, List.set_cons_zero, List.set_cons_succ]
      refine wp_end ?_
      clear HAP1 HAP2 HCZ HCQ
      go_wp2_with fail
      exact HZ.out
    · obtain rfl : t = m := by omega
      have hneg : (t : Int) - 1 - (t : Int) = -1 := by omega
      rw [hneg]
      rw [List.take_of_length_le (by rw [List.length_reverse]; omega)] at ho19 ho20
      have hb6r : b6 ≤ wr.heap.size := by rw [← hb6]; exact hBr.size
      have hBr6 : Below w6.heap.size w6 wr := by rw [hb6]; exact hBr
      have hb5r : b1 ≤ wr.heap.size := by have := hJr.lt j (by simp); have := hJr.jlo; omega
      have hA7 : Ats wr b5 (.slice a1 t c1) zs := HA6.out.below hBr6
      have hQ7 : Bks wr b5 (.slice a2 t c2) qs := HQ6.out.below hBr6
      have hA8 : Ats wr b6 u19 zs.reverse := ho19
      have hQ8 : Bks wr b5 u20 qs.reverse := ⟨owns_mono ho20 HB56.out, fun q hq => hQ7.2 q (List.mem_reverse.1 hq)⟩
      have hW7 : Below ab W wr := HB6.out.trans (hBr.mono (by rw [← hb6]; exact Nat.le_trans HW0.out HB6.out.size))
      have hzl : (zeros nb).length = nb := by simp [zeros]
      have hFit : Fit (zeros nb).length zs (qs.map ql) := by rw [hzl]; exact HFit.out
      have hsj := HSJ.out
      have hsk := HSK.out
      have hsl := HSL.out
      have hnb2 := HNB2.out
      obtain ⟨n, hpk⟩ : ∃ n, n = pk cut (t + 1) := ⟨_, rfl⟩
      have hnt : n ≤ t := by have := pk_lt cut (n := t + 1) (by omega); omega
      have HPK := hid (pick_any cut (t + 1) HCU.out.1 HCU.out.2 (by omega) wr)
      rw [← hpk] at HPK
      have hwt : IntKind.i64.wrap ((t : Int) + 1) = ((t + 1 : Nat) : Int) := by rw [IntWalk.i64_in _ ⟨by omega, by omega⟩]; omega
      obtain ⟨x1, x2, hx1, hx2, hxx⟩ := hA7.split (n := n) (by omega)
      obtain ⟨y1, y2, hy1, hy2, hyy⟩ := hQ7.split (n := n) (by omega)
      have HSPA := hid (And.intro hx1 hy1)
      have HSPB := hid (And.intro hx2 hy2)
      have HXX := hid hxx
      have HYY := hid hyy
      have HW1 := hid (hJr.wr hb5r (by decide) hA7.iz hQ7.bz (by omega) (by rw [hsj.1, hsj.2]; omega))
      have HE1 : Hid (refE (zeros nb) zs (qs.map ql) = 0) := hid (refE_fit hFit)
      have HFZ := hid hFit
      have H7 := hid (And.intro hJr (And.intro hKr (And.intro hLr (And.intro hA7 (And.intro hQ7 (And.intro hA8 (And.intro hQ8 hW7)))))))
      have HNT : Hid (n ≤ t ∧ b1 ≤ wr.heap.size ∧ (zeros nb).length = nb) := hid ⟨hnt, hb5r, hzl⟩
      clear hx1 hy1 hx2 hy2 hxx hyy hFit hJr hKr hLr hA7 hQ7 hA8 hQ8 hW7 hb6r hBr6 hb5r ho19 ho20 hBr hsj hsk hsl hnb2 hnt hpk htm hlt hzl hMM hneg
      have hng : ¬ (0 : Int) ≤ -1 := by omega
      go_wp2_with fail
      refine HPK.out.mono ?_
      rintro e wz ⟨rfl, hwz⟩
      obtain rfl := hwz.symm
      go_wp2_with fail
      refine HW1.out.mono ?_
      rintro e w8 ⟨rfl, s1, X1, cnt1, hJ8, hn1, hp1, hq1, _, hX1, hF1, hB1, hK1⟩
      rw [HE1.out]
      have h7 := H7.out
      have hW8 : Below ab W w8 := h7.2.2.2.2.2.2.2.trans (hB1.mono (Nat.le_of_lt HB1L.out.1))
      have hT8 := HT.out.belowB hW8 HTL.out
      have hK8 := h7.2.1.fr hF1 HD1.out.symm hT8
      have hL8 := h7.2.2.1.fr hF1 HD2.out.symm hT8
      have hD1' : Dj (j :: X1) (k :: Y) := HD1.out.step hX1 h7.2.1.lt
      have hD2' : Dj (j :: X1) (l :: Z) := HD2.out.step hX1 h7.2.2.1.lt
      have hA8' := hK1.ats h7.2.2.2.2.2.1
      have hQ8' := hK1.bks h7.2.2.2.2.2.2.1
      have hA7' := hK1.ats h7.2.2.2.1
      have hQ7' := hK1.bks h7.2.2.2.2.1
      have hb8 : b1 ≤ w8.heap.size := Nat.le_trans HNT.out.2.1 hB1.size
      have hsk := HSK.out
      have hsl := HSL.out
      have hnb2 := HNB2.out
      have hMM := HM.out
      have HW2 := hid (hK8.wr hb8 (by decide) hA8'.iz hQ8'.bz (by rw [List.length_reverse]; omega) (by rw [hsk.1, hsk.2]; omega))
      have HE2 : Hid (refE (zeros nb) zs.reverse (qs.reverse.map ql) = 0) := hid (by rw [List.map_reverse]; exact refE_fit HFZ.out.rev)
      have H8 := hid (And.intro hJ8 (And.intro hK8 (And.intro hL8 (And.intro hA7' (And.intro hQ7' (And.intro hW8 (And.intro hD1' hD2')))))))
      clear HW1 H7 h7 hW8 hT8 hK8 hL8 hD1' hD2' hA8' hQ8' hA7' hQ7' hsk hsl hnb2 hMM hJ8 hn1 hp1 hq1 hX1 hF1 hB1 hK1 HPK hb8
      go_wp2_with fail
      refine HW2.out.mono ?_
      rintro e w9 ⟨rfl, s2, X2, cnt2, hK9, hn2, hp2, hq2, _, hX2, hF2, hB2, hKp2⟩
      rw [HE2.out]
      have h8 := H8.out
      have hW9 : Below ab W w9 := h8.2.2.2.2.2.1.trans (hB2.mono (Nat.le_of_lt HB1L.out.1))
      have hT9 := HT.out.belowB hW9 HTL.out
      have hJ9 := h8.1.fr hF2 h8.2.2.2.2.2.2.1 hT9
      have hL9 := h8.2.2.1.fr hF2 HD3.out.symm hT9
      have hD1' : Dj (k :: X2) (j :: X1) := h8.2.2.2.2.2.2.1.symm.step hX2 h8.1.lt
      have hD3' : Dj (k :: X2) (l :: Z) := HD3.out.step hX2 h8.2.2.1.lt
      have hA9 := hKp2.ats h8.2.2.2.1
      have hQ9 := hKp2.bks h8.2.2.2.2.1
      have hd9 : Below w9.heap.size w9 w9.drew := (Below.refl _ _).drew
      have hL9d := hL9.below hd9
      have hb9 : b1 ≤ w9.drew.heap.size := by have := hL9d.lt l (by simp); have := hL9d.jlo; omega
      have hsl := HSL.out
      have hnb2 := HNB2.out
      have hMM := HM.out
      have hIz := (HXX.out w9 hA9).1.below hd9
      have hBz := (HYY.out w9 hQ9).1.below hd9
      have HW3 := hid (hL9d.wr hb9 (by decide) hIz hBz (by rw [List.length_take]; omega) (by rw [hsl.1, hsl.2]; omega))
      have HE3 : Hid (refE (zeros nb) (zs.take n) ((qs.map ql).take n) = 0) := hid (refE_fit (HFZ.out.take n))
      have H9 := hid (And.intro (hJ9.below hd9) (And.intro (hK9.below hd9) (And.intro hL9d (And.intro (hA9.below hd9) (And.intro (hQ9.below hd9) (And.intro (hW9.trans (hd9.mono (Nat.le_trans HW0.out hW9.size))) (And.intro hD1' (And.intro hD3' h8.2.2.2.2.2.2.2))))))))
      clear HW2 H8 h8 hW9 hT9 hJ9 hL9 hD1' hD3' hA9 hQ9 hd9 hL9d hb9 hsl hnb2 hMM hIz hBz hK9 hn2 hp2 hq2 hX2 hF2 hB2 hKp2
      go_wp2_with fail
      refine h_openL (S := fun _ => True) (by kernel_rfl) (by kernel_rfl) (fun _ _ _ _ _ h => h) (L := #[false, false, false, false, false, false, false, false, false]) (by kernel_rfl) ?_
      intro Q' hns hP hN
      have hS := True.intro
      refine h_takeL (i := 0) (v := .pointer (some ⟨l, 0, none⟩)) hns rfl rfl (by kernel_rfl) (by kernel_rfl) hP (y_move rfl (by kernel_rfl) (by kernel_rfl)) hS rfl (L' := #[true, false, false, false, false, false, false, false, false]) (by kernel_rfl) ?_
      refine h_takeL (i := 1) (v := .slice a1 t c1) hns rfl rfl (by kernel_rfl) (by kernel_rfl) hP (y_move rfl (by kernel_rfl) (by kernel_rfl)) hS rfl (L' := #[true, true, false, false, false, false, false, false, false]) (by kernel_rfl) ?_
      refine h_takeL (i := 2) (v := .int .i64 (n : Nat)) hns rfl rfl (by kernel_rfl) (by kernel_rfl) hP (y_move rfl (by kernel_rfl) (by kernel_rfl)) hS rfl (L' := #[true, true, true, false, false, false, false, false, false]) (by kernel_rfl) ?_
      refine h_takeL (i := 3) (v := x1) hns rfl rfl (by kernel_rfl) (by kernel_rfl) hP (y_slice (l := none) (h := (some (.int .i64 n))) (m := none) rfl (by kernel_rfl) (by kernel_rfl) (by kernel_rfl) (by kernel_rfl) (by kernel_rfl) HSPA.out.1) hS rfl (L' := #[true, true, true, true, false, false, false, false, false]) (by kernel_rfl) ?_
      refine h_takeL (i := 4) (v := .slice a2 t c2) hns rfl rfl (by kernel_rfl) (by kernel_rfl) hP (y_move rfl (by kernel_rfl) (by kernel_rfl)) hS rfl (L' := #[true, true, true, true, true, false, false, false, false]) (by kernel_rfl) ?_
      refine h_takeL (i := 5) (v := .int .i64 (n : Nat)) hns rfl rfl (by kernel_rfl) (by kernel_rfl) hP (y_move rfl (by kernel_rfl) (by kernel_rfl)) hS rfl (L' := #[true, true, true, true, true, true, false, false, false]) (by kernel_rfl) ?_
      refine h_takeL (i := 6) (v := y1) hns rfl rfl (by kernel_rfl) (by kernel_rfl) hP (y_slice (l := none) (h := (some (.int .i64 n))) (m := none) rfl (by kernel_rfl) (by kernel_rfl) (by kernel_rfl) (by kernel_rfl) (by kernel_rfl) HSPA.out.2) hS rfl (L' := #[true, true, true, true, true, true, true, false, false]) (by kernel_rfl) ?_
      simp only [List.setIfInBounds_toArray, List.set_cons_zero, List.set_cons_succ]
      refine h_callL (i := 7) (f := 15) (args := #[.pointer (some ⟨l, 0, none⟩), x1, y1]) (by kernel_rfl) rfl rfl (by kernel_rfl) (enter_go rfl (by kernel_rfl) (fun w => by go_simp)) (L' := #[true, true, true, true, true, true, true, true, false]) (by kernel_rfl) ?_
      refine HW3.out.mono ?_
      rintro e w10 ⟨rfl, s3, X3, cnt3, hJ3, hn3, hp3, hq3, _, hX3, hF3, hB3, hK3⟩
      rw [HE3.out]
      refine ⟨_, rfl, trivial, ?_⟩
      refine h_takeL (i := 8) (v := .int .i64 0) hns rfl rfl (by kernel_rfl) (by kernel_rfl) hP (y_assign rfl (by kernel_rfl) (by kernel_rfl)) hS rfl (L' := #[true, true, true, true, true, true, true, true, true]) (by kernel_rfl) ?_
      simp only [List.setIfInBounds_toArray, List.set_cons_zero, List.set_cons_succ]
      refine wpAnyH_done (by kernel_rfl) ?_ _
      refine hN _ _ ?_
      clear hP hN hns
      clear HW3 HSPA
      have h9 := H9.out
      have hW10 : Below ab W w10 := h9.2.2.2.2.2.1.trans (hB3.mono (Nat.le_of_lt HB1L.out.1))
      have hT10 := HT.out.belowB hW10 HTL.out
      have hJ10 := h9.1.fr hF3 h9.2.2.2.2.2.2.2.2 hT10
      have hK10 := h9.2.1.fr hF3 h9.2.2.2.2.2.2.2.1 hT10
      have hD2' : Dj (l :: X3) (j :: X1) := h9.2.2.2.2.2.2.2.2.symm.step hX3 h9.1.lt
      have hD3' : Dj (l :: X3) (k :: X2) := h9.2.2.2.2.2.2.2.1.symm.step hX3 h9.2.1.lt
      have hA10 := hK3.ats h9.2.2.2.1
      have hQ10 := hK3.bks h9.2.2.2.2.1
      have hd10 : Below w10.heap.size w10 w10.drew := (Below.refl _ _).drew
      have hL10d := hJ3.below hd10
      have hb10 : b1 ≤ w10.drew.heap.size := by have := hL10d.lt l (by simp); have := hL10d.jlo; omega
      have hsl := HSL.out
      have hnb2 := HNB2.out
      have hMM := HM.out
      have hIz := (HXX.out w10 hA10).2.below hd10
      have hBz := (HYY.out w10 hQ10).2.below hd10
      have hsq := refW_seq 0 (zeros nb) (zs.take n) ((qs.map ql).take n)
      have hlt3 : (zs.take n).length ≤ 40 := by rw [List.length_take]; omega
      have HW4 := hid (hL10d.wr hb10 (by omega) hIz hBz (by rw [List.length_drop]; omega) (by rw [hn3, hsl.1]; rw [hsl.2] at hq3; omega))
      have hfit2 : Fit (refW 0 (zeros nb) (zs.take n) ((qs.map ql).take n)).2.length (zs.drop n) ((qs.map ql).drop n) := by rw [refW_fit (HFZ.out.take n), layAll_len]; exact HFZ.out.drop n
      have HE4 := hid (refE_fit hfit2)
      have H10 := hid (And.intro (hJ10.below hd10) (And.intro (hK10.below hd10) (And.intro hD2' (And.intro hD3' (hW10.trans (hd10.mono (Nat.le_trans HW0.out hW10.size)))))))
      clear h9 hW10 hT10 hJ10 hK10 hD2' hD3' hA10 hQ10 hd10 hL10d hb10 hsl hnb2 hMM hIz hBz hsq hlt3 hfit2 hJ3 hn3 hp3 hq3 hX3 hF3 hB3 hK3 H9 hS
      go_wp2_with fail
      refine h_openL (S := fun _ => True) (by kernel_rfl) (by kernel_rfl) (fun _ _ _ _ _ h => h) (L := #[false, false, false, false, false, false, false, false, false]) (by kernel_rfl) ?_
      intro Q' hns hP hN
      have hS := True.intro
      refine h_takeL (i := 0) (v := .pointer (some ⟨l, 0, none⟩)) hns rfl rfl (by kernel_rfl) (by kernel_rfl) hP (y_move rfl (by kernel_rfl) (by kernel_rfl)) hS rfl (L' := #[true, false, false, false, false, false, false, false, false]) (by kernel_rfl) ?_
      refine h_takeL (i := 1) (v := .slice a1 t c1) hns rfl rfl (by kernel_rfl) (by kernel_rfl) hP (y_move rfl (by kernel_rfl) (by kernel_rfl)) hS rfl (L' := #[true, true, false, false, false, false, false, false, false]) (by kernel_rfl) ?_
      refine h_takeL (i := 2) (v := .int .i64 (n : Nat)) hns rfl rfl (by kernel_rfl) (by kernel_rfl) hP (y_move rfl (by kernel_rfl) (by kernel_rfl)) hS rfl (L' := #[true, true, true, false, false, false, false, false, false]) (by kernel_rfl) ?_
      refine h_takeL (i := 3) (v := x2) hns rfl rfl (by kernel_rfl) (by kernel_rfl) hP (y_slice (l := (some (.int .i64 n))) (h := none) (m := none) rfl (by kernel_rfl) (by kernel_rfl) (by kernel_rfl) (by kernel_rfl) (by kernel_rfl) HSPB.out.1) hS rfl (L' := #[true, true, true, true, false, false, false, false, false]) (by kernel_rfl) ?_
      refine h_takeL (i := 4) (v := .slice a2 t c2) hns rfl rfl (by kernel_rfl) (by kernel_rfl) hP (y_move rfl (by kernel_rfl) (by kernel_rfl)) hS rfl (L' := #[true, true, true, true, true, false, false, false, false]) (by kernel_rfl) ?_
      refine h_takeL (i := 5) (v := .int .i64 (n : Nat)) hns rfl rfl (by kernel_rfl) (by kernel_rfl) hP (y_move rfl (by kernel_rfl) (by kernel_rfl)) hS rfl (L' := #[true, true, true, true, true, true, false, false, false]) (by kernel_rfl) ?_
      refine h_takeL (i := 6) (v := y2) hns rfl rfl (by kernel_rfl) (by kernel_rfl) hP (y_slice (l := (some (.int .i64 n))) (h := none) (m := none) rfl (by kernel_rfl) (by kernel_rfl) (by kernel_rfl) (by kernel_rfl) (by kernel_rfl) HSPB.out.2) hS rfl (L' := #[true, true, true, true, true, true, true, false, false]) (by kernel_rfl) ?_
      simp only [List.setIfInBounds_toArray, List.set_cons_zero, List.set_cons_succ]
      refine h_callL (i := 7) (f := 15) (args := #[.pointer (some ⟨l, 0, none⟩), x2, y2]) (by kernel_rfl) rfl rfl (by kernel_rfl) (enter_go rfl (by kernel_rfl) (fun w => by go_simp)) (L' := #[true, true, true, true, true, true, true, true, false]) (by kernel_rfl) ?_
      refine HW4.out.mono ?_
      rintro e w11 ⟨rfl, s4, X4, cnt4, hJ4, hn4, hp4, hq4, _, hX4, hF4, hB4, hK4⟩
      rw [HE4.out]
      refine ⟨_, rfl, trivial, ?_⟩
      refine h_takeL (i := 8) (v := .int .i64 0) hns rfl rfl (by kernel_rfl) (by kernel_rfl) hP (y_assign rfl (by kernel_rfl) (by kernel_rfl)) hS rfl (L' := #[true, true, true, true, true, true, true, true, true]) (by kernel_rfl) ?_
      simp only [List.setIfInBounds_toArray, List.set_cons_zero, List.set_cons_succ]
      refine wpAnyH_done (by kernel_rfl) ?_ _
      refine hN _ _ ?_
      clear hP hN hns
      clear HW4 HSPB
      have h10 := H10.out
      have hW11 : Below ab W w11 := h10.2.2.2.2.trans (hB4.mono (Nat.le_of_lt HB1L.out.1))
      have hT11 := HT.out.belowB hW11 HTL.out
      have hJ11 := h10.1.fr hF4 h10.2.2.1.symm hT11
      have hK11 := h10.2.1.fr hF4 h10.2.2.2.1.symm hT11
      rw [List.map_reverse, refW_rev HFZ.out] at hK11
      have hcut := refW_cut HFZ.out 0 (refW 0 (zeros nb) (zs.take n) ((qs.map ql).take n)).1 n
      rw [hcut] at hJ4
      have HLB : Hid ((refW 0 (zeros nb) zs (qs.map ql)).2.length = nb) := hid (by rw [refW_fit HFZ.out, layAll_len]; exact HNT.out.2.2)
      have hn1j : nbOf s1.n = nb := by rw [← hJ11.jr.sett.con.len]; exact HLB.out
      have HSJ1 := hid hn1j
      generalize (refW 0 (zeros nb) zs (qs.map ql)).1 = sqF at *
      generalize (refW 0 (zeros nb) zs (qs.map ql)).2 = blF at *
      have HSQJ := hid (jseq_any hJ11.jr.jn)
      have HSQK := hid (jseq_any hK11.jr.jn)
      have H11 := hid (And.intro hJ11 (And.intro hK11 (And.intro hJ4 hW11)))
      clear h10 hW11 hT11 hJ11 hK11 hcut hn1j hJ4 hn4 hp4 hq4 hX4 hF4 hB4 hK4 H10 hS
      go_wp2_with fail
      refine HSQJ.out.mono ?_
      rintro e wz ⟨rfl, hwz⟩
      obtain rfl := hwz.symm
      go_wp2_with fail
      refine HSQK.out.mono ?_
      rintro e wz ⟨rfl, hwz⟩
      obtain rfl := hwz.symm
      clear HSQJ HSQK
      go_wp2_with fail
      go_loopw [27, 28, 29, 30, 31, 32, 33] (fun v27 _ _ _ _ _ _ wv => ∃ i : Nat, i ≤ nb ∧ v27 = .int .i64 i ∧ Below w11.heap.size w11 wv) (fun v27 _ _ _ _ _ _ _ => nb - (intOf v27).toNat)
      case atStart => exact ⟨0, Nat.zero_le _, rfl, Below.refl _ _⟩
      case round =>
      obtain ⟨i, hi, rfl, hBi⟩ := hrel
      have hnb2 := HNB2.out
      have hwi : IntKind.i64.wrap ((i : Int) + 1) = ((i + 1 : Nat) : Int) := by rw [IntWalk.i64_in _ ⟨by omega, by omega⟩]; omega
      have hJr := H11.out.1.below hBi
      have hKr := H11.out.2.1.below hBi
      have hLr := H11.out.2.2.1.below hBi
      have hbk := jblocks_any hJr.jr.jn
      rw [HSJ1.out] at hbk
      have HBK := hid hbk
      clear hbk
      by_cases hlt : i < nb
      · have hlt2 : (i : Int) < (nb : Int) := by omega
        obtain ⟨b, hb⟩ : ∃ b, blF[i]? = some b := ⟨_, List.getElem?_eq_getElem (by rw [HLB.out]; exact hlt)⟩
        have HRJ := hid (hJr.jr.readS hb)
        have HBB := hid hb
        have HBI := hid hBi
        have HKR := hid hKr
        have HLR := hid hLr
        have HI := hid hlt
        clear hJr hKr hLr hBi hb hi hlt hnb2
        go_wp2_with fail
        refine HBK.out.mono ?_
        rintro e wz ⟨rfl, hwz⟩
        obtain rfl := hwz.symm
        go_wp2_with fail
        refine HRJ.out.mono ?_
        rintro e wa ⟨hBa, ga, fa, hga, rfl, _, _, _, hsa⟩
        have HSA := hid hsa
        have HBA := hid hBa
        have HRK := hid ((HKR.out.below hBa).jr.readS HBB.out)
        have HLA := hid (HLR.out.below hBa)
        clear hsa hBa hga HRJ HBK HKR HLR
        go_wp2_with fail
        refine HRK.out.mono ?_
        rintro e wb ⟨hBb, gb, fb, hgb, rfl, _, _, _, hsb⟩
        have HSA2 := hid (HSA.out.below hBb)
        have HSB := hid hsb
        have HBB2 := hid (HBA.out.trans (hBb.mono HBA.out.size))
        have HRL := hid ((HLA.out.below hBb).jr.readS HBB.out)
        clear hsb hBb hgb HRK HSA HBA HLA
        go_wp2_with fail
        refine HRL.out.mono ?_
        rintro e wc ⟨hBc, gc, fc, hgc, rfl, _, _, _, hsc⟩
        have hca := conv_sl (HSA2.out.below hBc)
        have hcb := conv_sl (HSB.out.below hBc)
        have hcc := conv_sl hsc
        have HBC := hid (HBI.out.trans ((HBB2.out.trans (hBc.mono HBB2.out.size)).mono HBI.out.size))
        clear hBc hgc hsc HRL HSA2 HSB HBB2
        go_wp2_with fail
        exact ⟨⟨i + 1, HI.out, rfl, HBC.out⟩, by have := HI.out; simp [intOf]; omega⟩
      · obtain rfl : i = nb := by omega
        have hlt2 : ¬ (i : Int) < (i : Int) := by omega
        have HBF : Hid (Below ab W wr) := hid (H11.out.2.2.2.trans (hBi.mono (Nat.le_trans HW0.out H11.out.2.2.2.size)))
        clear hJr hKr hLr hBi hi hlt hnb2
        go_wp2_with fail
        refine HBK.out.mono ?_
        rintro e wz ⟨rfl, hwz⟩
        obtain rfl := hwz.symm
        go_wp2
        go_ret
        exact ⟨rfl, by rw [hab]; exact HBF.out⟩
end Go.Proofs.YtdogjicccajnkaaDoor
