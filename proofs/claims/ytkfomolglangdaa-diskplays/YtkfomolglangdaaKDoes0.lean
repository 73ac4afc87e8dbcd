/- The law's does: Write. -/
import Derived.Test.YtkfomolglangdaaKCopy
namespace Go.Proofs.Ytkfomolglangdaa
open Go Go.RowKit

set_option maxRecDepth 100000 in
set_option maxHeartbeats 4000000 in
theorem does_0 {w : World} {q p r B : Nat} {X : List Nat} {s : DS} {x : OpV} {l : List UInt8} {zs : List Int} (h : Both w q B p X r s) (hx : OpIn w B x l zs) (hk : pk x.kind 6 = 0) :
    Calls Try.prog 12 #[.pointer (some ⟨q, 0, none⟩), .agg (ocs x)] w (Did w q B) := by
  obtain ⟨w0, ob, hw0, hob0, hb0, ho0, hB0⟩ := both_box h x
  obtain ⟨hxk, hxa, hxn, hxl, hxb, hxs, hxi, hxr⟩ := hx
  have c0 : w0.cell? ⟨ob, 0, none⟩ = some (.int .i64 x.kind) := cell_at ho0 0 rfl
  have HB := hid hb0
  have HO := hid ho0
  have HBE := hid hB0
  have HXL := hid (fun w' hb => hxl w' (hB0.trans hb))
  have HXI := hid (fun w' hb => hxi w' (hB0.trans hb))
  have HXB := hid hxb
  have HXR := hid hxr
  have HXK := hid hxk
  have HXA := hid hxa
  have HXN := hid hxn
  have HXS := hid hxs
  clear h hb0 ho0 hB0 hxl hxi hxb hxr hxk hxa hxn hxs
  show Calls _ _ #[_, .agg #[.int .i64 x.kind, .int .i64 x.at_, .int .i64 x.nn, .slice x.ba x.bl x.bc, .slice x.sa x.sl x.sc]] w _
  go_enter Try.func12, Try.ntmps12
  go_upto_region 1 with fail
  rw [← hw0]
  rw [← hob0]
  clear hw0 hob0
  go_wp2_with fail
  refine (pick_any x.kind 6 HXK.out.1 HXK.out.2 (by decide) _).mono ?_
  rintro e w1 ⟨rfl, hw1⟩
  subst hw1
  rw [hk]
  clear c0 hk
  obtain ⟨g, c, w2, hcp, how, hB2⟩ := copyB (cap := x.bc) 35 (HXL.out w1 (Below.refl _ _)) HXB.out.2
  have hb2 := HB.out.below hB2
  have ho2 : Ob w2 ob x := below_at hB2 HO.out (heap_lt HO.out)
  have ho4 : Ob (w1.alloc (.cells #[] 5)) ob x := below_at ((Below.refl _ _).alloc (Nat.le_refl _) _) HO.out (heap_lt HO.out)
  have hsl : Sl w2 (.slice (some ⟨g, 0, none⟩) x.bl c) l := by
    have h1 := HXB.out.1
    rw [← h1] at how ⊢
    exact owns_sl how
  have HO4 := hid ho4
  have HO2 := hid ho2
  have HB2 := hid hb2
  have HCP := hid hcp
  have HOW := hid how
  have HSL := hid hsl
  have HBE2 := hid hB2
  clear hb2 ho2 ho4 hcp how hB2 hsl
  go_upto_region 3 with fail
  refine wp_region_lit ?_
  refine wp_run (v := .slice (some ⟨w1.heap.size, 0, none⟩) 0 0) rfl rfl (run_bs0 rfl (bslice0b w1)) rfl ?_
  refine wp_y (v := .pointer (some ⟨ob, 3, none⟩)) rfl rfl (y_faddr rfl (by kernel_rfl) (by kernel_rfl) (fa38_3 (ob))) rfl ?_
  refine wp_y (v := .slice x.ba x.bl x.bc) rfl rfl (y_load rfl (by kernel_rfl) (by kernel_rfl) (fun w' h => by subst h; exact load1 Try.isAgg35 (cell_at HO4.out 3 rfl))) rfl ?_
  refine wp_run (v := .slice (some ⟨g, 0, none⟩) x.bl c) rfl rfl (run_appOp rfl (by kernel_rfl) (by kernel_rfl) HCP.out) rfl ?_
  refine wp_y (v := .slice (some ⟨g, 0, none⟩) x.bl c) rfl rfl (y_assign rfl (by kernel_rfl) (by kernel_rfl)) rfl ?_
  try simp only [List.setIfInBounds_toArray, List.set_cons_zero, List.set_cons_succ]
  refine wp_end ?_
  clear HCP HO4
  go_upto_region 4 with fail
  refine z_open (S := fun w' => Bo w' q p r ∧ Ob w' ob x) 8 (by kernel_rfl) (by kernel_rfl) (fun _ _ _ _ _ h => h) (L := #[false, false, false, false, false, false, false, false, false]) (by kernel_rfl) ?_
  intro Q' hns hP hN
  have hS := (show Bo w2.drew q p r ∧ Ob w2.drew ob x from ⟨HB2.out.bo, HO2.out⟩)
  refine z_pure (i := 0) (v := .pointer (some ⟨q, 0, none⟩)) hns rfl rfl rfl (by kernel_rfl) (by kernel_rfl) hP (y_move rfl (by kernel_rfl) (by kernel_rfl)) (fun _ => hS) rfl (L' := #[true, false, false, false, false, false, false, false, false]) (by kernel_rfl) ?_
  refine z_pure (i := 1) (v := .pointer (some ⟨q, 0, none⟩)) hns rfl rfl rfl (by kernel_rfl) (by kernel_rfl) hP (y_nil rfl (by kernel_rfl) (by kernel_rfl)) (fun _ => hS) rfl (L' := #[true, true, false, false, false, false, false, false, false]) (by kernel_rfl) ?_
  refine z_pure (i := 2) (v := .pointer (some ⟨q, 0, none⟩)) hns rfl rfl rfl (by kernel_rfl) (by kernel_rfl) hP (y_faddr rfl (by kernel_rfl) (by kernel_rfl) (fa33_0 (q))) (fun _ => hS) rfl (L' := #[true, true, true, false, false, false, false, false, false]) (by kernel_rfl) ?_
  refine z_read (i := 3) (v := .pointer (some ⟨p, 0, none⟩)) hns rfl (by kernel_rfl) rfl rfl (by kernel_rfl) (by kernel_rfl) hP (y_load rfl (by kernel_rfl) (by kernel_rfl) (fun w' h => load1 Try.isAgg24 h.1.c0)) rfl hS rfl (L' := #[true, true, true, true, false, false, false, false, false]) (by kernel_rfl) ?_
  refine z_pure (i := 4) (v := .pointer (some ⟨ob, 1, none⟩)) hns rfl rfl rfl (by kernel_rfl) (by kernel_rfl) hP (y_faddr rfl (by kernel_rfl) (by kernel_rfl) (fa38_1 (ob))) (fun _ => hS) rfl (L' := #[true, true, true, true, true, false, false, false, false]) (by kernel_rfl) ?_
  refine z_read (i := 5) (v := .int .i64 x.at_) hns rfl (by kernel_rfl) rfl rfl (by kernel_rfl) (by kernel_rfl) hP (y_load rfl (by kernel_rfl) (by kernel_rfl) (fun w' h => load1 Try.isAgg3 (cell_at h.2 1 rfl))) rfl hS rfl (L' := #[true, true, true, true, true, true, false, false, false]) (by kernel_rfl) ?_
  refine z_pure (i := 6) (v := .slice (some ⟨g, 0, none⟩) x.bl c) hns rfl rfl rfl (by kernel_rfl) (by kernel_rfl) hP (y_move rfl (by kernel_rfl) (by kernel_rfl)) (fun _ => hS) rfl (L' := #[true, true, true, true, true, true, true, false, false]) (by kernel_rfl) ?_
  simp only [List.setIfInBounds_toArray, List.set_cons_zero, List.set_cons_succ]
  refine z_call (i := 7) (f := 19) (args := #[.pointer (some ⟨p, 0, none⟩), .int .i64 x.at_, .slice (some ⟨g, 0, none⟩) x.bl c]) (by kernel_rfl) rfl rfl (by kernel_rfl) (enter_go rfl (by kernel_rfl) (fun w => by go_simp)) (L' := #[true, true, true, true, true, true, true, true, false]) (by kernel_rfl) ?_
  refine (write_d (show Disk w2.drew p X s from HB2.out.disk) x.at_ (show Sl w2.drew _ l from HSL.out)).mono ?_
  rintro e w3 ⟨rfl, hD3, hF3⟩
  have hF3 : Fr X w2 w3 := hF3.undrew
  have hbo3 := bo_other HB2.out.bo HB2.out.disk hF3
  have ho3 : Ob w3 ob x := hF3.at HO2.out (HB2.out.disk.other HO2.out (by decide) (by decide))
  have hS3 := And.intro hbo3 ho3
  refine ⟨_, rfl, hS3, ?_⟩
  refine z_val (i := 8) (v := .int .i64 (s.wr x.at_ l).1) (by kernel_rfl) rfl rfl (by kernel_rfl) (run_asgK rfl (by kernel_rfl)) hS3 rfl (L' := #[true, true, true, true, true, true, true, true, true]) (by kernel_rfl) ?_
  try simp only [List.setIfInBounds_toArray, List.set_cons_zero, List.set_cons_succ]
  refine z_done (by kernel_rfl) ?_ _
  refine hN _ _ ?_
  clear hP hN hns
  clear hS
  have how3 : w3.ownsRow w1.heap.size 5 1 (.slice (some ⟨g, 0, none⟩) x.bl c) x.bl (cells8 l) := owns_fr HOW.out hF3 (fun g' c' hg => HB2.out.disk.other hg (by decide) (by decide))
  have hF13 : Fr X w1 w3 := (Fr.of_below (X := X) HBE2.out).trans hF3 (fun k hk => .inl hk)
  have HOW3 := hid how3
  have HF13 := hid hF13
  have HD3 := hid hD3
  have HO3 := hid ho3
  have HG := hid (show w1.heap.size ≤ g from (how3.lt g rfl).1)
  have HG3 := hid (own_type how3 g (by simp [Value.ownBlock]))
  have hev : ∃ ev, ev = (s.wr x.at_ l).1 := ⟨_, rfl⟩
  obtain ⟨ev, hev⟩ := hev
  rw [← hev]
  have hwr := fun w (hR : Ref w B r s) (hs : Sl w (.slice x.ba x.bl x.bc) l) => rwrite_d hR HB.out.goes x.at_ hs
  rw [← hev] at hwr
  have HWR := hid hwr
  clear how3 hF13 hF3 hD3 ho3 hbo3 hS3 HB2 HO2 HSL HBE2 HOW hwr hev
  go_upto_region 6 with fail
  go_loopw [7] (fun y wr => ∃ (i : Nat) (m : List UInt8), i ≤ x.bl ∧ y = .int .i64 i ∧ wr.ownsRow w1.heap.size 5 1 (.slice (some ⟨g, 0, none⟩) x.bl c) x.bl (cells8 m) ∧ Fr [g] w3 wr) (fun y _ => x.bl - (intOf y).toNat)
  case atStart => exact ⟨0, l, Nat.zero_le _, rfl, HOW3.out, Fr.refl _ _⟩
  case round =>
    obtain ⟨i, m, hi, rfl, hor, hFr⟩ := hrel
    have hxb := HXB.out.2
    have HWk := hid (incR (k := i) (by omega))
    clear hxb HOW3
    by_cases hlt : i < x.bl
    · have hlt' : decide ((i : Int) < (x.bl : Int)) = true := decide_eq_true (by omega)
      have hlt2 : (i : Int) < (x.bl : Int) := by omega
      have hmes : x.bl - ((i + 1 : Nat) : Int).toNat < x.bl - (i : Int).toNat := by omega
      have hml : m.length = x.bl := by have := hor.1; rw [cells8_len] at this; omega
      have hcl := own_cell hor (cells8_get m i (by omega))
      have hst := hor.stored i (.int .u8 77)
      have e77 : (cells8 m).set i (.int .u8 77) = cells8 (m.set i 77) := (cells8_set m i 77).symm
      rw [e77] at hst
      have HCL := hid (And.intro hcl (hor.frozenAt i))
      have HN := hid (And.intro hst.1 (hFr.trans (Fr.setCell wr g i (.int .u8 77)) (by simp)))
      clear hor hFr hcl hst e77 hml
      go_upto_region 8 with fail
      refine wp_region_lit ?_
      refine wp_y (v := .slice (some ⟨g, 0, none⟩) x.bl c) rfl rfl (y_move rfl (by kernel_rfl) (by kernel_rfl)) rfl ?_
      refine wp_y (v := .int .i64 i) rfl rfl (y_move rfl (by kernel_rfl) (by kernel_rfl)) rfl ?_
      refine wp_y (v := .pointer (some ⟨g, i, none⟩)) rfl rfl (y_index rfl (by kernel_rfl) (by kernel_rfl) (by kernel_rfl) (idx35 g x.bl c i hlt)) rfl ?_
      refine wp_do rfl rfl (run_storeOp rfl (by kernel_rfl) (by kernel_rfl) (store1 (t := 5) Try.sizeOf5 (.int .u8 77) rfl rfl HCL.out.1 HCL.out.2)) ?_
      try simp only [List.setIfInBounds_toArray, List.set_cons_zero, List.set_cons_succ]
      refine wp_end ?_
      clear HCL
      generalize wr.setCell ⟨g, i, none⟩ (.int .u8 77) = w9 at *
      go_upto_region 7 with fail
      refine wp_region_lit ?_
      refine wp_move (v := .int .i64 i) (by kernel_rfl) ?_
      refine wp_addi (z := ((i + 1 : Nat) : Int)) (by kernel_rfl) (by kernel_rfl) HWk.out ?_
      refine wp_assign (v := .int .i64 (i + 1 : Nat)) (by kernel_rfl) ?_
      dsimp only [Act.put]
      simp only [List.setIfInBounds_toArray, List.set_cons_zero, List.set_cons_succ]
      refine wp_end ?_
      go_wp2
      go_roundw
      case rel => exact ⟨i + 1, _, hlt, rfl, HN.out⟩
      case measure => exact hmes
    · have hlt' : decide ((i : Int) < (x.bl : Int)) = false := decide_eq_false (by omega)
      have hlt2 : ¬ (i : Int) < (x.bl : Int) := by omega
      have hFr1 : Fr X w1 wr := HF13.out.trans hFr (fun k hk => by
        obtain rfl : k = g := by simpa using hk
        exact .inr HG.out)
      have hD4 := HD3.out.fr hFr (fun k hk hm => by
        obtain rfl : k = g := by simpa using hm
        obtain ⟨cc, hcc⟩ := HG3.out
        exact HD3.out.other hcc (by decide) (by decide) hk)
      have ho4 : Ob wr ob x := hFr.at HO3.out (fun hm => by
        obtain rfl : ob = g := by simpa using hm
        obtain ⟨cc, hcc⟩ := HG3.out
        have := HO3.out
        rw [Ob, hcc] at this; cases this)
      have HH := hid (HB.out.prog hFr1 hD4 (DS.Goes.wr x.at_ l) (fun k hk => .inl hk))
      have HO5 := hid ho4
      clear hD4 ho4 hFr1 hFr hor HD3 HO3 HF13 HG3 HG
      go_upto_region 9 with fail
      refine z_open (S := fun w' => Bo w' q p r ∧ Ob w' ob x) 11 (by kernel_rfl) (by kernel_rfl) (fun _ _ _ _ _ h => h) (L := #[false, false, false, false, false, false, false, false, false, false, false, false]) (by kernel_rfl) ?_
      intro Q' hns hP hN
      have hS := (show Bo wr.drew q p r ∧ Ob wr.drew ob x from ⟨HH.out.bo, HO5.out⟩)
      refine z_pure (i := 0) (v := .int .i64 ev) hns rfl rfl rfl (by kernel_rfl) (by kernel_rfl) hP (y_move rfl (by kernel_rfl) (by kernel_rfl)) (fun _ => hS) rfl (L' := #[true, false, false, false, false, false, false, false, false, false, false, false]) (by kernel_rfl) ?_
      refine z_pure (i := 1) (v := .pointer (some ⟨q, 0, none⟩)) hns rfl rfl rfl (by kernel_rfl) (by kernel_rfl) hP (y_move rfl (by kernel_rfl) (by kernel_rfl)) (fun _ => hS) rfl (L' := #[true, true, false, false, false, false, false, false, false, false, false, false]) (by kernel_rfl) ?_
      refine z_pure (i := 2) (v := .pointer (some ⟨q, 0, none⟩)) hns rfl rfl rfl (by kernel_rfl) (by kernel_rfl) hP (y_nil rfl (by kernel_rfl) (by kernel_rfl)) (fun _ => hS) rfl (L' := #[true, true, true, false, false, false, false, false, false, false, false, false]) (by kernel_rfl) ?_
      refine z_pure (i := 3) (v := .pointer (some ⟨q, 1, none⟩)) hns rfl rfl rfl (by kernel_rfl) (by kernel_rfl) hP (y_faddr rfl (by kernel_rfl) (by kernel_rfl) (fa33_1 (q))) (fun _ => hS) rfl (L' := #[true, true, true, true, false, false, false, false, false, false, false, false]) (by kernel_rfl) ?_
      refine z_read (i := 4) (v := .pointer (some ⟨r, 0, none⟩)) hns rfl (by kernel_rfl) rfl rfl (by kernel_rfl) (by kernel_rfl) hP (y_load rfl (by kernel_rfl) (by kernel_rfl) (fun w' h => load1 Try.isAgg28 h.1.c1)) rfl hS rfl (L' := #[true, true, true, true, true, false, false, false, false, false, false, false]) (by kernel_rfl) ?_
      refine z_pure (i := 5) (v := .pointer (some ⟨ob, 1, none⟩)) hns rfl rfl rfl (by kernel_rfl) (by kernel_rfl) hP (y_faddr rfl (by kernel_rfl) (by kernel_rfl) (fa38_1 (ob))) (fun _ => hS) rfl (L' := #[true, true, true, true, true, true, false, false, false, false, false, false]) (by kernel_rfl) ?_
      refine z_read (i := 6) (v := .int .i64 x.at_) hns rfl (by kernel_rfl) rfl rfl (by kernel_rfl) (by kernel_rfl) hP (y_load rfl (by kernel_rfl) (by kernel_rfl) (fun w' h => load1 Try.isAgg3 (cell_at h.2 1 rfl))) rfl hS rfl (L' := #[true, true, true, true, true, true, true, false, false, false, false, false]) (by kernel_rfl) ?_
      simp only [List.setIfInBounds_toArray, List.set_cons_zero, List.set_cons_succ]
      refine z_pure (i := 7) (v := .pointer (some ⟨ob, 3, none⟩)) hns rfl rfl rfl (by kernel_rfl) (by kernel_rfl) hP (y_faddr rfl (by kernel_rfl) (by kernel_rfl) (fa38_3 (ob))) (fun _ => hS) rfl (L' := #[true, true, true, true, true, true, true, true, false, false, false, false]) (by kernel_rfl) ?_
      refine z_read (i := 8) (v := .slice x.ba x.bl x.bc) hns rfl (by kernel_rfl) rfl rfl (by kernel_rfl) (by kernel_rfl) hP (y_load rfl (by kernel_rfl) (by kernel_rfl) (fun w' h => load1 Try.isAgg35 (cell_at h.2 3 rfl))) rfl hS rfl (L' := #[true, true, true, true, true, true, true, true, true, false, false, false]) (by kernel_rfl) ?_
      refine z_call (i := 9) (f := 27) (args := #[.pointer (some ⟨r, 0, none⟩), .int .i64 x.at_, .slice x.ba x.bl x.bc]) (by kernel_rfl) rfl rfl (by kernel_rfl) (enter_go rfl (by kernel_rfl) (fun w => by go_simp)) (L' := #[true, true, true, true, true, true, true, true, true, true, false, false]) (by kernel_rfl) ?_
      refine (HWR.out wr.drew HH.out.ref (HXL.out wr.drew (show Below B w1 wr.drew from HH.out.below.drew))).mono ?_
      rintro e w5 ⟨rfl, hR5, Y, hF5, hM5⟩
      have hb5 := HH.out.doc (hF5.undrew : Fr Y wr w5) hM5 hR5
      have ho5 : Ob w5 ob x := hF5.undrew.at HO5.out (ob_mine HO5.out hM5)
      have hS5 := And.intro hb5.bo ho5
      refine ⟨_, rfl, hS5, ?_⟩
      refine z_pure (i := 10) (v := .bool true) hns rfl rfl rfl (by kernel_rfl) (by kernel_rfl) hP (y_eqi (t := 25) (x := ev) (y := ev) (.inr rfl) rfl (by kernel_rfl) (by kernel_rfl) (by kernel_rfl) (by simp)) (fun _ => hS5) rfl (L' := #[true, true, true, true, true, true, true, true, true, true, true, false]) (by kernel_rfl) ?_
      refine z_val (i := 11) (v := .bool true) (by kernel_rfl) rfl rfl (by kernel_rfl) (run_asgK rfl (by kernel_rfl)) hS5 rfl (L' := #[true, true, true, true, true, true, true, true, true, true, true, true]) (by kernel_rfl) ?_
      try simp only [List.setIfInBounds_toArray, List.set_cons_zero, List.set_cons_succ]
      refine z_done (by kernel_rfl) ?_ _
      refine hN _ _ ?_
      clear hP hN hns
      clear hS
      go_wp2
      go_ret
      exact ⟨rfl, p, X, r, _, hb5.out, HBE.out.trans hb5.below⟩
end Go.Proofs.Ytkfomolglangdaa
