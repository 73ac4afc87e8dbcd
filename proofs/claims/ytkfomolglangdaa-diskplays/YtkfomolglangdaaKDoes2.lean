/- The law's does: Read. -/
import Derived.Test.YtkfomolglangdaaKCopy
namespace Go.Proofs.Ytkfomolglangdaa
open Go Go.RowKit

set_option maxRecDepth 100000 in
set_option maxHeartbeats 4000000 in
theorem does_2 {w : World} {q p r B : Nat} {X : List Nat} {s : DS} {x : OpV} {l : List UInt8} {zs : List Int} (h : Both w q B p X r s) (hx : OpIn w B x l zs) (hk : pk x.kind 6 = 2) :
    Calls Try.prog 12 #[.pointer (some ⟨q, 0, none⟩), .agg (ocs x)] w (Did w q B) := by
  obtain ⟨w0, ob, hw0, hob0, hb0, ho0, hB0⟩ := both_box h x
  obtain ⟨hxk, hxa, hxn, hxl, hxb, hxs, hxi, hxr⟩ := hx
  have c0 : w0.cell? ⟨ob, 0, none⟩ = some (.int .i64 x.kind) := cell_at ho0 0 rfl
  have HB := hid hb0
  have HO := hid ho0
  have HBE := hid hB0
  have HXL := hid (fun w' hb => hxl w' (hB0.trans hb))
  have HXI := hid (fun w' hb => hxi w' (hB0.trans hb))
  have HXB := hid hxb
  have HXR := hid hxr
  have HXK := hid hxk
  have HXA := hid hxa
  have HXN := hid hxn
  have HXS := hid hxs
  clear h hb0 ho0 hB0 hxl hxi hxb hxr hxk hxa hxn hxs
  show Calls _ _ #[_, .agg #[.int .i64 x.kind, .int .i64 x.at_, .int .i64 x.nn, .slice x.ba x.bl x.bc, .slice x.sa x.sl x.sc]] w _
  go_enter Try.func12, Try.ntmps12
  go_upto_region 1 with fail
  rw [← hw0]
  rw [← hob0]
  clear hw0 hob0
  go_wp2_with fail
  refine (pick_any x.kind 6 HXK.out.1 HXK.out.2 (by decide) _).mono ?_
  rintro e w1 ⟨rfl, hw1⟩
  subst hw1
  rw [hk]
  clear c0 hk
  by_cases hg : s.gone = true
  · have HGN := hid hg
    clear hg
    go_upto_region 13 with fail
    refine z_open (S := fun w' => Bo w' q p r ∧ Ob w' ob x) 11 (by kernel_rfl) (by kernel_rfl) (fun _ _ _ _ _ h => h) (L := #[false, false, false, false, false, false, false, false, false, false, false, false]) (by kernel_rfl) ?_
    intro Q' hns hP hN
    have hS := (show Bo w1.drew q p r ∧ Ob w1.drew ob x from ⟨HB.out.bo, HO.out⟩)
    refine z_pure (i := 0) (v := .pointer (some ⟨q, 0, none⟩)) hns rfl rfl rfl (by kernel_rfl) (by kernel_rfl) hP (y_move rfl (by kernel_rfl) (by kernel_rfl)) (fun _ => hS) rfl (L' := #[true, false, false, false, false, false, false, false, false, false, false, false]) (by kernel_rfl) ?_
    refine z_pure (i := 1) (v := .pointer (some ⟨q, 0, none⟩)) hns rfl rfl rfl (by kernel_rfl) (by kernel_rfl) hP (y_nil rfl (by kernel_rfl) (by kernel_rfl)) (fun _ => hS) rfl (L' := #[true, true, false, false, false, false, false, false, false, false, false, false]) (by kernel_rfl) ?_
    refine z_pure (i := 2) (v := .pointer (some ⟨q, 0, none⟩)) hns rfl rfl rfl (by kernel_rfl) (by kernel_rfl) hP (y_faddr rfl (by kernel_rfl) (by kernel_rfl) (fa33_0 (q))) (fun _ => hS) rfl (L' := #[true, true, true, false, false, false, false, false, false, false, false, false]) (by kernel_rfl) ?_
    refine z_read (i := 3) (v := .pointer (some ⟨p, 0, none⟩)) hns rfl (by kernel_rfl) rfl rfl (by kernel_rfl) (by kernel_rfl) hP (y_load rfl (by kernel_rfl) (by kernel_rfl) (fun w' h => load1 Try.isAgg24 h.1.c0)) rfl hS rfl (L' := #[true, true, true, true, false, false, false, false, false, false, false, false]) (by kernel_rfl) ?_
    refine z_pure (i := 4) (v := .pointer (some ⟨ob, 1, none⟩)) hns rfl rfl rfl (by kernel_rfl) (by kernel_rfl) hP (y_faddr rfl (by kernel_rfl) (by kernel_rfl) (fa38_1 (ob))) (fun _ => hS) rfl (L' := #[true, true, true, true, true, false, false, false, false, false, false, false]) (by kernel_rfl) ?_
    refine z_read (i := 5) (v := .int .i64 x.at_) hns rfl (by kernel_rfl) rfl rfl (by kernel_rfl) (by kernel_rfl) hP (y_load rfl (by kernel_rfl) (by kernel_rfl) (fun w' h => load1 Try.isAgg3 (cell_at h.2 1 rfl))) rfl hS rfl (L' := #[true, true, true, true, true, true, false, false, false, false, false, false]) (by kernel_rfl) ?_
    refine z_call (i := 6) (f := 17) (args := #[.pointer (some ⟨p, 0, none⟩), .int .i64 x.at_]) (by kernel_rfl) rfl rfl (by kernel_rfl) (enter_go rfl (by kernel_rfl) (fun w => by go_simp)) (L' := #[true, true, true, true, true, true, true, false, false, false, false, false]) (by kernel_rfl) ?_
    refine (read_gone_d (show Disk w1.drew p X s from HB.out.disk) HGN.out x.at_).mono ?_
    rintro e w2 ⟨rfl, hw2⟩
    subst hw2
    refine ⟨_, rfl, hS, ?_⟩
    simp only [List.setIfInBounds_toArray, List.set_cons_zero, List.set_cons_succ]
    refine z_pure (i := 7) (v := .tuple #[.slice none 0 0, .int .i64 43]) hns rfl rfl rfl (by kernel_rfl) (by kernel_rfl) hP (y_move rfl (by kernel_rfl) (by kernel_rfl)) (fun _ => hS) rfl (L' := #[true, true, true, true, true, true, true, true, false, false, false, false]) (by kernel_rfl) ?_
    refine z_pure (i := 8) (v := .slice none 0 0) hns rfl rfl rfl (by kernel_rfl) (by kernel_rfl) hP (y_ext rfl (by kernel_rfl) (by kernel_rfl) (ext0 (.slice none 0 0) (.int .i64 43))) (fun _ => hS) rfl (L' := #[true, true, true, true, true, true, true, true, true, false, false, false]) (by kernel_rfl) ?_
    refine z_pure (i := 9) (v := .int .i64 43) hns rfl rfl rfl (by kernel_rfl) (by kernel_rfl) hP (y_ext rfl (by kernel_rfl) (by kernel_rfl) (ext1 (.slice none 0 0) (.int .i64 43))) (fun _ => hS) rfl (L' := #[true, true, true, true, true, true, true, true, true, true, false, false]) (by kernel_rfl) ?_
    refine z_pure (i := 10) (v := .slice none 0 0) hns rfl rfl rfl (by kernel_rfl) (by kernel_rfl) hP (y_assign rfl (by kernel_rfl) (by kernel_rfl)) (fun _ => hS) rfl (L' := #[true, true, true, true, true, true, true, true, true, true, true, false]) (by kernel_rfl) ?_
    refine z_val (i := 11) (v := .int .i64 43) (by kernel_rfl) rfl rfl (by kernel_rfl) (run_asgK rfl (by kernel_rfl)) hS rfl (L' := #[true, true, true, true, true, true, true, true, true, true, true, true]) (by kernel_rfl) ?_
    try simp only [List.setIfInBounds_toArray, List.set_cons_zero, List.set_cons_succ]
    refine z_done (by kernel_rfl) ?_ _
    refine hN _ _ ?_
    clear hP hN hns
    clear hS
    have HB2 := hid (show Both w1.drew q B p X r s from HB.out.below ((Below.refl _ _).drew))
    have HO2 := hid (show Ob w1.drew ob x from HO.out)
    have HE2 := hid (show Below B w1 w1.drew from (Below.refl _ _).drew)
    clear HB HO
    generalize w1.drew = w2 at *
    go_upto_region 14 with fail
    refine z_open (S := fun w' => Bo w' q p r ∧ Ob w' ob x) 11 (by kernel_rfl) (by kernel_rfl) (fun _ _ _ _ _ h => h) (L := #[false, false, false, false, false, false, false, false, false, false, false, false]) (by kernel_rfl) ?_
    intro Q' hns hP hN
    have hS := (show Bo w2.drew q p r ∧ Ob w2.drew ob x from ⟨HB2.out.bo, HO2.out⟩)
    refine z_pure (i := 0) (v := .pointer (some ⟨q, 0, none⟩)) hns rfl rfl rfl (by kernel_rfl) (by kernel_rfl) hP (y_move rfl (by kernel_rfl) (by kernel_rfl)) (fun _ => hS) rfl (L' := #[true, false, false, false, false, false, false, false, false, false, false, false]) (by kernel_rfl) ?_
    refine z_pure (i := 1) (v := .pointer (some ⟨q, 0, none⟩)) hns rfl rfl rfl (by kernel_rfl) (by kernel_rfl) hP (y_nil rfl (by kernel_rfl) (by kernel_rfl)) (fun _ => hS) rfl (L' := #[true, true, false, false, false, false, false, false, false, false, false, false]) (by kernel_rfl) ?_
    refine z_pure (i := 2) (v := .pointer (some ⟨q, 1, none⟩)) hns rfl rfl rfl (by kernel_rfl) (by kernel_rfl) hP (y_faddr rfl (by kernel_rfl) (by kernel_rfl) (fa33_1 (q))) (fun _ => hS) rfl (L' := #[true, true, true, false, false, false, false, false, false, false, false, false]) (by kernel_rfl) ?_
    refine z_read (i := 3) (v := .pointer (some ⟨r, 0, none⟩)) hns rfl (by kernel_rfl) rfl rfl (by kernel_rfl) (by kernel_rfl) hP (y_load rfl (by kernel_rfl) (by kernel_rfl) (fun w' h => load1 Try.isAgg28 h.1.c1)) rfl hS rfl (L' := #[true, true, true, true, false, false, false, false, false, false, false, false]) (by kernel_rfl) ?_
    refine z_pure (i := 4) (v := .pointer (some ⟨ob, 1, none⟩)) hns rfl rfl rfl (by kernel_rfl) (by kernel_rfl) hP (y_faddr rfl (by kernel_rfl) (by kernel_rfl) (fa38_1 (ob))) (fun _ => hS) rfl (L' := #[true, true, true, true, true, false, false, false, false, false, false, false]) (by kernel_rfl) ?_
    refine z_read (i := 5) (v := .int .i64 x.at_) hns rfl (by kernel_rfl) rfl rfl (by kernel_rfl) (by kernel_rfl) hP (y_load rfl (by kernel_rfl) (by kernel_rfl) (fun w' h => load1 Try.isAgg3 (cell_at h.2 1 rfl))) rfl hS rfl (L' := #[true, true, true, true, true, true, false, false, false, false, false, false]) (by kernel_rfl) ?_
    refine z_call (i := 6) (f := 29) (args := #[.pointer (some ⟨r, 0, none⟩), .int .i64 x.at_]) (by kernel_rfl) rfl rfl (by kernel_rfl) (enter_go rfl (by kernel_rfl) (fun w => by go_simp)) (L' := #[true, true, true, true, true, true, true, false, false, false, false, false]) (by kernel_rfl) ?_
    refine (rRead_gone (show Ref w2.drew B r s from HB2.out.ref) HGN.out x.at_).mono ?_
    rintro e w3 ⟨rfl, hw3⟩
    subst hw3
    refine ⟨_, rfl, hS, ?_⟩
    simp only [List.setIfInBounds_toArray, List.set_cons_zero, List.set_cons_succ]
    refine z_pure (i := 7) (v := .tuple #[.slice none 0 0, .int .i64 43]) hns rfl rfl rfl (by kernel_rfl) (by kernel_rfl) hP (y_move rfl (by kernel_rfl) (by kernel_rfl)) (fun _ => hS) rfl (L' := #[true, true, true, true, true, true, true, true, false, false, false, false]) (by kernel_rfl) ?_
    refine z_pure (i := 8) (v := .slice none 0 0) hns rfl rfl rfl (by kernel_rfl) (by kernel_rfl) hP (y_ext rfl (by kernel_rfl) (by kernel_rfl) (ext0 (.slice none 0 0) (.int .i64 43))) (fun _ => hS) rfl (L' := #[true, true, true, true, true, true, true, true, true, false, false, false]) (by kernel_rfl) ?_
    refine z_pure (i := 9) (v := .int .i64 43) hns rfl rfl rfl (by kernel_rfl) (by kernel_rfl) hP (y_ext rfl (by kernel_rfl) (by kernel_rfl) (ext1 (.slice none 0 0) (.int .i64 43))) (fun _ => hS) rfl (L' := #[true, true, true, true, true, true, true, true, true, true, false, false]) (by kernel_rfl) ?_
    refine z_pure (i := 10) (v := .slice none 0 0) hns rfl rfl rfl (by kernel_rfl) (by kernel_rfl) hP (y_assign rfl (by kernel_rfl) (by kernel_rfl)) (fun _ => hS) rfl (L' := #[true, true, true, true, true, true, true, true, true, true, true, false]) (by kernel_rfl) ?_
    refine z_val (i := 11) (v := .int .i64 43) (by kernel_rfl) rfl rfl (by kernel_rfl) (run_asgK rfl (by kernel_rfl)) hS rfl (L' := #[true, true, true, true, true, true, true, true, true, true, true, true]) (by kernel_rfl) ?_
    try simp only [List.setIfInBounds_toArray, List.set_cons_zero, List.set_cons_succ]
    refine z_done (by kernel_rfl) ?_ _
    refine hN _ _ ?_
    clear hP hN hns
    clear hS
    have HB3 := hid (show Both w2.drew q B p X r s from HB2.out.below ((Below.refl _ _).drew))
    have HE3 := hid (show Below B w1 w2.drew from HE2.out.drew)
    have hcv := conv_sl (Sl.nil w2.drew)
    clear HB2 HO2 HE2
    generalize w2.drew = w3 at *
    go_upto_region 17 with fail
    go_loopw [13] (fun y wr => y = .int .i64 0 ∧ wr = w3) (fun _ _ => 0)
    case atStart => exact ⟨rfl, rfl⟩
    case round =>
      obtain ⟨rfl, rfl⟩ := hrel
      go_wp2
      go_ret
      exact ⟨rfl, p, X, r, _, HB3.out, HBE.out.trans HE3.out⟩
  have hg' : s.gone = false := by simpa using hg
  have HGN := hid hg'
  clear hg hg'
  by_cases ha : x.at_ < 0 ∨ (s.n : Int) ≤ x.at_
  · have HA := hid ha
    clear ha
    go_upto_region 13 with fail
    refine z_open (S := fun w' => Bo w' q p r ∧ Ob w' ob x) 11 (by kernel_rfl) (by kernel_rfl) (fun _ _ _ _ _ h => h) (L := #[false, false, false, false, false, false, false, false, false, false, false, false]) (by kernel_rfl) ?_
    intro Q' hns hP hN
    have hS := (show Bo w1.drew q p r ∧ Ob w1.drew ob x from ⟨HB.out.bo, HO.out⟩)
    refine z_pure (i := 0) (v := .pointer (some ⟨q, 0, none⟩)) hns rfl rfl rfl (by kernel_rfl) (by kernel_rfl) hP (y_move rfl (by kernel_rfl) (by kernel_rfl)) (fun _ => hS) rfl (L' := #[true, false, false, false, false, false, false, false, false, false, false, false]) (by kernel_rfl) ?_
    refine z_pure (i := 1) (v := .pointer (some ⟨q, 0, none⟩)) hns rfl rfl rfl (by kernel_rfl) (by kernel_rfl) hP (y_nil rfl (by kernel_rfl) (by kernel_rfl)) (fun _ => hS) rfl (L' := #[true, true, false, false, false, false, false, false, false, false, false, false]) (by kernel_rfl) ?_
    refine z_pure (i := 2) (v := .pointer (some ⟨q, 0, none⟩)) hns rfl rfl rfl (by kernel_rfl) (by kernel_rfl) hP (y_faddr rfl (by kernel_rfl) (by kernel_rfl) (fa33_0 (q))) (fun _ => hS) rfl (L' := #[true, true, true, false, false, false, false, false, false, false, false, false]) (by kernel_rfl) ?_
    refine z_read (i := 3) (v := .pointer (some ⟨p, 0, none⟩)) hns rfl (by kernel_rfl) rfl rfl (by kernel_rfl) (by kernel_rfl) hP (y_load rfl (by kernel_rfl) (by kernel_rfl) (fun w' h => load1 Try.isAgg24 h.1.c0)) rfl hS rfl (L' := #[true, true, true, true, false, false, false, false, false, false, false, false]) (by kernel_rfl) ?_
    refine z_pure (i := 4) (v := .pointer (some ⟨ob, 1, none⟩)) hns rfl rfl rfl (by kernel_rfl) (by kernel_rfl) hP (y_faddr rfl (by kernel_rfl) (by kernel_rfl) (fa38_1 (ob))) (fun _ => hS) rfl (L' := #[true, true, true, true, true, false, false, false, false, false, false, false]) (by kernel_rfl) ?_
    refine z_read (i := 5) (v := .int .i64 x.at_) hns rfl (by kernel_rfl) rfl rfl (by kernel_rfl) (by kernel_rfl) hP (y_load rfl (by kernel_rfl) (by kernel_rfl) (fun w' h => load1 Try.isAgg3 (cell_at h.2 1 rfl))) rfl hS rfl (L' := #[true, true, true, true, true, true, false, false, false, false, false, false]) (by kernel_rfl) ?_
    refine z_call (i := 6) (f := 17) (args := #[.pointer (some ⟨p, 0, none⟩), .int .i64 x.at_]) (by kernel_rfl) rfl rfl (by kernel_rfl) (enter_go rfl (by kernel_rfl) (fun w => by go_simp)) (L' := #[true, true, true, true, true, true, true, false, false, false, false, false]) (by kernel_rfl) ?_
    refine (read_at_d (show Disk w1.drew p X s from HB.out.disk) HGN.out x.at_ HA.out).mono ?_
    rintro e w2 ⟨rfl, hw2⟩
    subst hw2
    refine ⟨_, rfl, hS, ?_⟩
    simp only [List.setIfInBounds_toArray, List.set_cons_zero, List.set_cons_succ]
    refine z_pure (i := 7) (v := .tuple #[.slice none 0 0, .int .i64 41]) hns rfl rfl rfl (by kernel_rfl) (by kernel_rfl) hP (y_move rfl (by kernel_rfl) (by kernel_rfl)) (fun _ => hS) rfl (L' := #[true, true, true, true, true, true, true, true, false, false, false, false]) (by kernel_rfl) ?_
    refine z_pure (i := 8) (v := .slice none 0 0) hns rfl rfl rfl (by kernel_rfl) (by kernel_rfl) hP (y_ext rfl (by kernel_rfl) (by kernel_rfl) (ext0 (.slice none 0 0) (.int .i64 41))) (fun _ => hS) rfl (L' := #[true, true, true, true, true, true, true, true, true, false, false, false]) (by kernel_rfl) ?_
    refine z_pure (i := 9) (v := .int .i64 41) hns rfl rfl rfl (by kernel_rfl) (by kernel_rfl) hP (y_ext rfl (by kernel_rfl) (by kernel_rfl) (ext1 (.slice none 0 0) (.int .i64 41))) (fun _ => hS) rfl (L' := #[true, true, true, true, true, true, true, true, true, true, false, false]) (by kernel_rfl) ?_
    refine z_pure (i := 10) (v := .slice none 0 0) hns rfl rfl rfl (by kernel_rfl) (by kernel_rfl) hP (y_assign rfl (by kernel_rfl) (by kernel_rfl)) (fun _ => hS) rfl (L' := #[true, true, true, true, true, true, true, true, true, true, true, false]) (by kernel_rfl) ?_
    refine z_val (i := 11) (v := .int .i64 41) (by kernel_rfl) rfl rfl (by kernel_rfl) (run_asgK rfl (by kernel_rfl)) hS rfl (L' := #[true, true, true, true, true, true, true, true, true, true, true, true]) (by kernel_rfl) ?_
    try simp only [List.setIfInBounds_toArray, List.set_cons_zero, List.set_cons_succ]
    refine z_done (by kernel_rfl) ?_ _
    refine hN _ _ ?_
    clear hP hN hns
    clear hS
    have HB2 := hid (show Both w1.drew q B p X r s from HB.out.below ((Below.refl _ _).drew))
    have HO2 := hid (show Ob w1.drew ob x from HO.out)
    have HE2 := hid (show Below B w1 w1.drew from (Below.refl _ _).drew)
    clear HB HO
    generalize w1.drew = w2 at *
    go_upto_region 14 with fail
    refine z_open (S := fun w' => Bo w' q p r ∧ Ob w' ob x) 11 (by kernel_rfl) (by kernel_rfl) (fun _ _ _ _ _ h => h) (L := #[false, false, false, false, false, false, false, false, false, false, false, false]) (by kernel_rfl) ?_
    intro Q' hns hP hN
    have hS := (show Bo w2.drew q p r ∧ Ob w2.drew ob x from ⟨HB2.out.bo, HO2.out⟩)
    refine z_pure (i := 0) (v := .pointer (some ⟨q, 0, none⟩)) hns rfl rfl rfl (by kernel_rfl) (by kernel_rfl) hP (y_move rfl (by kernel_rfl) (by kernel_rfl)) (fun _ => hS) rfl (L' := #[true, false, false, false, false, false, false, false, false, false, false, false]) (by kernel_rfl) ?_
    refine z_pure (i := 1) (v := .pointer (some ⟨q, 0, none⟩)) hns rfl rfl rfl (by kernel_rfl) (by kernel_rfl) hP (y_nil rfl (by kernel_rfl) (by kernel_rfl)) (fun _ => hS) rfl (L' := #[true, true, false, false, false, false, false, false, false, false, false, false]) (by kernel_rfl) ?_
    refine z_pure (i := 2) (v := .pointer (some ⟨q, 1, none⟩)) hns rfl rfl rfl (by kernel_rfl) (by kernel_rfl) hP (y_faddr rfl (by kernel_rfl) (by kernel_rfl) (fa33_1 (q))) (fun _ => hS) rfl (L' := #[true, true, true, false, false, false, false, false, false, false, false, false]) (by kernel_rfl) ?_
    refine z_read (i := 3) (v := .pointer (some ⟨r, 0, none⟩)) hns rfl (by kernel_rfl) rfl rfl (by kernel_rfl) (by kernel_rfl) hP (y_load rfl (by kernel_rfl) (by kernel_rfl) (fun w' h => load1 Try.isAgg28 h.1.c1)) rfl hS rfl (L' := #[true, true, true, true, false, false, false, false, false, false, false, false]) (by kernel_rfl) ?_
    refine z_pure (i := 4) (v := .pointer (some ⟨ob, 1, none⟩)) hns rfl rfl rfl (by kernel_rfl) (by kernel_rfl) hP (y_faddr rfl (by kernel_rfl) (by kernel_rfl) (fa38_1 (ob))) (fun _ => hS) rfl (L' := #[true, true, true, true, true, false, false, false, false, false, false, false]) (by kernel_rfl) ?_
    refine z_read (i := 5) (v := .int .i64 x.at_) hns rfl (by kernel_rfl) rfl rfl (by kernel_rfl) (by kernel_rfl) hP (y_load rfl (by kernel_rfl) (by kernel_rfl) (fun w' h => load1 Try.isAgg3 (cell_at h.2 1 rfl))) rfl hS rfl (L' := #[true, true, true, true, true, true, false, false, false, false, false, false]) (by kernel_rfl) ?_
    refine z_call (i := 6) (f := 29) (args := #[.pointer (some ⟨r, 0, none⟩), .int .i64 x.at_]) (by kernel_rfl) rfl rfl (by kernel_rfl) (enter_go rfl (by kernel_rfl) (fun w => by go_simp)) (L' := #[true, true, true, true, true, true, true, false, false, false, false, false]) (by kernel_rfl) ?_
    refine (rRead_at (show Ref w2.drew B r s from HB2.out.ref) HGN.out x.at_ HA.out).mono ?_
    rintro e w3 ⟨rfl, hw3⟩
    subst hw3
    refine ⟨_, rfl, hS, ?_⟩
    simp only [List.setIfInBounds_toArray, List.set_cons_zero, List.set_cons_succ]
    refine z_pure (i := 7) (v := .tuple #[.slice none 0 0, .int .i64 41]) hns rfl rfl rfl (by kernel_rfl) (by kernel_rfl) hP (y_move rfl (by kernel_rfl) (by kernel_rfl)) (fun _ => hS) rfl (L' := #[true, true, true, true, true, true, true, true, false, false, false, false]) (by kernel_rfl) ?_
    refine z_pure (i := 8) (v := .slice none 0 0) hns rfl rfl rfl (by kernel_rfl) (by kernel_rfl) hP (y_ext rfl (by kernel_rfl) (by kernel_rfl) (ext0 (.slice none 0 0) (.int .i64 41))) (fun _ => hS) rfl (L' := #[true, true, true, true, true, true, true, true, true, false, false, false]) (by kernel_rfl) ?_
    refine z_pure (i := 9) (v := .int .i64 41) hns rfl rfl rfl (by kernel_rfl) (by kernel_rfl) hP (y_ext rfl (by kernel_rfl) (by kernel_rfl) (ext1 (.slice none 0 0) (.int .i64 41))) (fun _ => hS) rfl (L' := #[true, true, true, true, true, true, true, true, true, true, false, false]) (by kernel_rfl) ?_
    refine z_pure (i := 10) (v := .slice none 0 0) hns rfl rfl rfl (by kernel_rfl) (by kernel_rfl) hP (y_assign rfl (by kernel_rfl) (by kernel_rfl)) (fun _ => hS) rfl (L' := #[true, true, true, true, true, true, true, true, true, true, true, false]) (by kernel_rfl) ?_
    refine z_val (i := 11) (v := .int .i64 41) (by kernel_rfl) rfl rfl (by kernel_rfl) (run_asgK rfl (by kernel_rfl)) hS rfl (L' := #[true, true, true, true, true, true, true, true, true, true, true, true]) (by kernel_rfl) ?_
    try simp only [List.setIfInBounds_toArray, List.set_cons_zero, List.set_cons_succ]
    refine z_done (by kernel_rfl) ?_ _
    refine hN _ _ ?_
    clear hP hN hns
    clear hS
    have HB3 := hid (show Both w2.drew q B p X r s from HB2.out.below ((Below.refl _ _).drew))
    have HE3 := hid (show Below B w1 w2.drew from HE2.out.drew)
    have hcv := conv_sl (Sl.nil w2.drew)
    clear HB2 HO2 HE2
    generalize w2.drew = w3 at *
    go_upto_region 17 with fail
    go_loopw [13] (fun y wr => y = .int .i64 0 ∧ wr = w3) (fun _ _ => 0)
    case atStart => exact ⟨rfl, rfl⟩
    case round =>
      obtain ⟨rfl, rfl⟩ := hrel
      go_wp2
      go_ret
      exact ⟨rfl, p, X, r, _, HB3.out, HBE.out.trans HE3.out⟩
  obtain ⟨k, hk⟩ : ∃ k : Nat, x.at_ = k := ⟨x.at_.toNat, by omega⟩
  have hkn : k < s.n := by omega
  have hok := HB.out.disk.ok
  obtain ⟨l1, hl1⟩ : ∃ l1, s.now[k]? = some l1 := ⟨_, List.getElem?_eq_getElem (by rw [hok.nowLen]; exact hkn)⟩
  have hll : l1.length = 128 := hok.nowLens l1 (List.mem_of_getElem? hl1)
  have hrd := fun w (hD : Disk w p X s) => read_d hD HGN.out k l1 hl1
  have hrr := fun w (hR : Ref w B r s) => rRead_ok hR HGN.out k l1 hl1
  rw [← hk] at hrd hrr
  have HRD := hid hrd
  have HRR := hid hrr
  have HL1 := hid hll
  clear hrd hrr hll hl1 hok hkn hk ha
  go_upto_region 13 with fail
  refine z_open (S := fun w' => Bo w' q p r ∧ Ob w' ob x) 11 (by kernel_rfl) (by kernel_rfl) (fun _ _ _ _ _ h => h) (L := #[false, false, false, false, false, false, false, false, false, false, false, false]) (by kernel_rfl) ?_
  intro Q' hns hP hN
  have hS := (show Bo w1.drew q p r ∧ Ob w1.drew ob x from ⟨HB.out.bo, HO.out⟩)
  refine z_pure (i := 0) (v := .pointer (some ⟨q, 0, none⟩)) hns rfl rfl rfl (by kernel_rfl) (by kernel_rfl) hP (y_move rfl (by kernel_rfl) (by kernel_rfl)) (fun _ => hS) rfl (L' := #[true, false, false, false, false, false, false, false, false, false, false, false]) (by kernel_rfl) ?_
  refine z_pure (i := 1) (v := .pointer (some ⟨q, 0, none⟩)) hns rfl rfl rfl (by kernel_rfl) (by kernel_rfl) hP (y_nil rfl (by kernel_rfl) (by kernel_rfl)) (fun _ => hS) rfl (L' := #[true, true, false, false, false, false, false, false, false, false, false, false]) (by kernel_rfl) ?_
  refine z_pure (i := 2) (v := .pointer (some ⟨q, 0, none⟩)) hns rfl rfl rfl (by kernel_rfl) (by kernel_rfl) hP (y_faddr rfl (by kernel_rfl) (by kernel_rfl) (fa33_0 (q))) (fun _ => hS) rfl (L' := #[true, true, true, false, false, false, false, false, false, false, false, false]) (by kernel_rfl) ?_
  refine z_read (i := 3) (v := .pointer (some ⟨p, 0, none⟩)) hns rfl (by kernel_rfl) rfl rfl (by kernel_rfl) (by kernel_rfl) hP (y_load rfl (by kernel_rfl) (by kernel_rfl) (fun w' h => load1 Try.isAgg24 h.1.c0)) rfl hS rfl (L' := #[true, true, true, true, false, false, false, false, false, false, false, false]) (by kernel_rfl) ?_
  refine z_pure (i := 4) (v := .pointer (some ⟨ob, 1, none⟩)) hns rfl rfl rfl (by kernel_rfl) (by kernel_rfl) hP (y_faddr rfl (by kernel_rfl) (by kernel_rfl) (fa38_1 (ob))) (fun _ => hS) rfl (L' := #[true, true, true, true, true, false, false, false, false, false, false, false]) (by kernel_rfl) ?_
  refine z_read (i := 5) (v := .int .i64 x.at_) hns rfl (by kernel_rfl) rfl rfl (by kernel_rfl) (by kernel_rfl) hP (y_load rfl (by kernel_rfl) (by kernel_rfl) (fun w' h => load1 Try.isAgg3 (cell_at h.2 1 rfl))) rfl hS rfl (L' := #[true, true, true, true, true, true, false, false, false, false, false, false]) (by kernel_rfl) ?_
  refine z_call (i := 6) (f := 17) (args := #[.pointer (some ⟨p, 0, none⟩), .int .i64 x.at_]) (by kernel_rfl) rfl rfl (by kernel_rfl) (enter_go rfl (by kernel_rfl) (fun w => by go_simp)) (L' := #[true, true, true, true, true, true, true, false, false, false, false, false]) (by kernel_rfl) ?_
  refine (HRD.out w1.drew HB.out.disk).mono ?_
  rintro e w2 ⟨rfl, hw2⟩
  have hB12 : Below w1.heap.size w1 w2 := by rw [hw2]; exact ((Below.refl _ _).drew).alloc (Nat.le_refl _) _
  have hsl2 := alloc_sl w1.drew l1 HL1.out 70
  rw [← hw2] at hsl2
  have hrow2 : w2.heap[w1.drew.heap.size]? = some (.cells (cells8 l1).toArray 70 (0, 0)) := by rw [hw2]; exact heap_alloc_last _ _
  have hb2 := HB.out.below hB12
  have ho2 : Ob w2 ob x := below_at hB12 HO.out (heap_lt HO.out)
  have hS2 := And.intro hb2.bo ho2
  clear hw2
  refine ⟨_, rfl, hS2, ?_⟩
  simp only [List.setIfInBounds_toArray, List.set_cons_zero, List.set_cons_succ]
  refine z_pure (i := 7) (v := .tuple #[.slice (some ⟨w1.drew.heap.size, 0, none⟩) 128 128, .int .i64 0]) hns rfl rfl rfl (by kernel_rfl) (by kernel_rfl) hP (y_move rfl (by kernel_rfl) (by kernel_rfl)) (fun _ => hS2) rfl (L' := #[true, true, true, true, true, true, true, true, false, false, false, false]) (by kernel_rfl) ?_
  refine z_pure (i := 8) (v := .slice (some ⟨w1.drew.heap.size, 0, none⟩) 128 128) hns rfl rfl rfl (by kernel_rfl) (by kernel_rfl) hP (y_ext rfl (by kernel_rfl) (by kernel_rfl) (ext0 (.slice (some ⟨w1.drew.heap.size, 0, none⟩) 128 128) (.int .i64 0))) (fun _ => hS2) rfl (L' := #[true, true, true, true, true, true, true, true, true, false, false, false]) (by kernel_rfl) ?_
  refine z_pure (i := 9) (v := .int .i64 0) hns rfl rfl rfl (by kernel_rfl) (by kernel_rfl) hP (y_ext rfl (by kernel_rfl) (by kernel_rfl) (ext1 (.slice (some ⟨w1.drew.heap.size, 0, none⟩) 128 128) (.int .i64 0))) (fun _ => hS2) rfl (L' := #[true, true, true, true, true, true, true, true, true, true, false, false]) (by kernel_rfl) ?_
  refine z_pure (i := 10) (v := .slice (some ⟨w1.drew.heap.size, 0, none⟩) 128 128) hns rfl rfl rfl (by kernel_rfl) (by kernel_rfl) hP (y_assign rfl (by kernel_rfl) (by kernel_rfl)) (fun _ => hS2) rfl (L' := #[true, true, true, true, true, true, true, true, true, true, true, false]) (by kernel_rfl) ?_
  refine z_val (i := 11) (v := .int .i64 0) (by kernel_rfl) rfl rfl (by kernel_rfl) (run_asgK rfl (by kernel_rfl)) hS2 rfl (L' := #[true, true, true, true, true, true, true, true, true, true, true, true]) (by kernel_rfl) ?_
  try simp only [List.setIfInBounds_toArray, List.set_cons_zero, List.set_cons_succ]
  refine z_done (by kernel_rfl) ?_ _
  refine hN _ _ ?_
  clear hP hN hns
  clear hS
  obtain ⟨g, hgg⟩ : ∃ g, g = w1.drew.heap.size := ⟨_, rfl⟩
  rw [← hgg] at hrow2 hsl2 ⊢
  have HGE := hid (show w1.heap.size ≤ g by rw [hgg]; exact Nat.le_refl _)
  have HB2 := hid hb2
  have HO2 := hid ho2
  have HSL2 := hid hsl2
  have HROW := hid hrow2
  have HE2 := hid hB12
  clear hb2 ho2 hsl2 hrow2 hB12 hS2 hgg HRD
  go_upto_region 14 with fail
  refine z_open (S := fun w' => Bo w' q p r ∧ Ob w' ob x) 11 (by kernel_rfl) (by kernel_rfl) (fun _ _ _ _ _ h => h) (L := #[false, false, false, false, false, false, false, false, false, false, false, false]) (by kernel_rfl) ?_
  intro Q' hns hP hN
  have hS := (show Bo w2.drew q p r ∧ Ob w2.drew ob x from ⟨HB2.out.bo, HO2.out⟩)
  refine z_pure (i := 0) (v := .pointer (some ⟨q, 0, none⟩)) hns rfl rfl rfl (by kernel_rfl) (by kernel_rfl) hP (y_move rfl (by kernel_rfl) (by kernel_rfl)) (fun _ => hS) rfl (L' := #[true, false, false, false, false, false, false, false, false, false, false, false]) (by kernel_rfl) ?_
  refine z_pure (i := 1) (v := .pointer (some ⟨q, 0, none⟩)) hns rfl rfl rfl (by kernel_rfl) (by kernel_rfl) hP (y_nil rfl (by kernel_rfl) (by kernel_rfl)) (fun _ => hS) rfl (L' := #[true, true, false, false, false, false, false, false, false, false, false, false]) (by kernel_rfl) ?_
  refine z_pure (i := 2) (v := .pointer (some ⟨q, 1, none⟩)) hns rfl rfl rfl (by kernel_rfl) (by kernel_rfl) hP (y_faddr rfl (by kernel_rfl) (by kernel_rfl) (fa33_1 (q))) (fun _ => hS) rfl (L' := #[true, true, true, false, false, false, false, false, false, false, false, false]) (by kernel_rfl) ?_
  refine z_read (i := 3) (v := .pointer (some ⟨r, 0, none⟩)) hns rfl (by kernel_rfl) rfl rfl (by kernel_rfl) (by kernel_rfl) hP (y_load rfl (by kernel_rfl) (by kernel_rfl) (fun w' h => load1 Try.isAgg28 h.1.c1)) rfl hS rfl (L' := #[true, true, true, true, false, false, false, false, false, false, false, false]) (by kernel_rfl) ?_
  refine z_pure (i := 4) (v := .pointer (some ⟨ob, 1, none⟩)) hns rfl rfl rfl (by kernel_rfl) (by kernel_rfl) hP (y_faddr rfl (by kernel_rfl) (by kernel_rfl) (fa38_1 (ob))) (fun _ => hS) rfl (L' := #[true, true, true, true, true, false, false, false, false, false, false, false]) (by kernel_rfl) ?_
  refine z_read (i := 5) (v := .int .i64 x.at_) hns rfl (by kernel_rfl) rfl rfl (by kernel_rfl) (by kernel_rfl) hP (y_load rfl (by kernel_rfl) (by kernel_rfl) (fun w' h => load1 Try.isAgg3 (cell_at h.2 1 rfl))) rfl hS rfl (L' := #[true, true, true, true, true, true, false, false, false, false, false, false]) (by kernel_rfl) ?_
  refine z_call (i := 6) (f := 29) (args := #[.pointer (some ⟨r, 0, none⟩), .int .i64 x.at_]) (by kernel_rfl) rfl rfl (by kernel_rfl) (enter_go rfl (by kernel_rfl) (fun w => by go_simp)) (L' := #[true, true, true, true, true, true, true, false, false, false, false, false]) (by kernel_rfl) ?_
  refine (HRR.out w2.drew HB2.out.ref).mono ?_
  rintro e w3 ⟨v2, rfl, hbk, hB23⟩
  have hB23 : Below w2.heap.size w2 w3 := ⟨hB23.os, hB23.tape, hB23.output, hB23.size, hB23.block⟩
  have hb3 := HB2.out.below hB23
  have ho3 : Ob w3 ob x := below_at hB23 HO2.out (heap_lt HO2.out)
  have hS3 := And.intro hb3.bo ho3
  refine ⟨_, rfl, hS3, ?_⟩
  simp only [List.setIfInBounds_toArray, List.set_cons_zero, List.set_cons_succ]
  refine z_pure (i := 7) (v := .tuple #[v2, .int .i64 0]) hns rfl rfl rfl (by kernel_rfl) (by kernel_rfl) hP (y_move rfl (by kernel_rfl) (by kernel_rfl)) (fun _ => hS3) rfl (L' := #[true, true, true, true, true, true, true, true, false, false, false, false]) (by kernel_rfl) ?_
  refine z_pure (i := 8) (v := v2) hns rfl rfl rfl (by kernel_rfl) (by kernel_rfl) hP (y_ext rfl (by kernel_rfl) (by kernel_rfl) (ext0 (v2) (.int .i64 0))) (fun _ => hS3) rfl (L' := #[true, true, true, true, true, true, true, true, true, false, false, false]) (by kernel_rfl) ?_
  refine z_pure (i := 9) (v := .int .i64 0) hns rfl rfl rfl (by kernel_rfl) (by kernel_rfl) hP (y_ext rfl (by kernel_rfl) (by kernel_rfl) (ext1 (v2) (.int .i64 0))) (fun _ => hS3) rfl (L' := #[true, true, true, true, true, true, true, true, true, true, false, false]) (by kernel_rfl) ?_
  refine z_pure (i := 10) (v := v2) hns rfl rfl rfl (by kernel_rfl) (by kernel_rfl) hP (y_assign rfl (by kernel_rfl) (by kernel_rfl)) (fun _ => hS3) rfl (L' := #[true, true, true, true, true, true, true, true, true, true, true, false]) (by kernel_rfl) ?_
  refine z_val (i := 11) (v := .int .i64 0) (by kernel_rfl) rfl rfl (by kernel_rfl) (run_asgK rfl (by kernel_rfl)) hS3 rfl (L' := #[true, true, true, true, true, true, true, true, true, true, true, true]) (by kernel_rfl) ?_
  try simp only [List.setIfInBounds_toArray, List.set_cons_zero, List.set_cons_succ]
  refine z_done (by kernel_rfl) ?_ _
  refine hN _ _ ?_
  clear hP hN hns
  clear hS
  have hcv1 := conv_sl (HSL2.out.below hB23)
  have hcv2 := conv_sl hbk.sl
  have HROW3 := hid (below_at hB23 HROW.out (heap_lt HROW.out))
  have HE3 := hid (HE2.out.trans (hB23.mono HE2.out.size))
  clear hbk hb3 ho3 hS3 HB2 HO2 HSL2 HROW HE2 HRR hB23
  go_upto_region 17 with fail
  go_loopw [13] (fun y wr => ∃ (i : Nat) (cur : Array Value), i ≤ 128 ∧ y = .int .i64 i ∧ wr.heap[g]? = some (.cells cur 70 (0, 0)) ∧ cur.size = 128 ∧ Below w1.heap.size w1 wr) (fun y _ => 128 - (intOf y).toNat)
  case atStart => exact ⟨0, _, Nat.zero_le _, rfl, HROW3.out, by rw [List.size_toArray, cells8_len]; exact HL1.out, HE3.out⟩
  case round =>
    obtain ⟨i, cur, hi, rfl, hrow, hcs, hBr⟩ := hrel
    have HWk := hid (incR (k := i) (by omega))
    clear hcv1 hcv2 HROW3 HE3
    by_cases hlt : i < 128
    · have hlt' : decide ((i : Int) < 128) = true := decide_eq_true (by omega)
      have hlt2 : (i : Int) < 128 := by omega
      have hmes : 128 - ((i + 1 : Nat) : Int).toNat < 128 - (i : Int).toNat := by omega
      obtain ⟨cv, hcv⟩ : ∃ cv, cur[i]? = some cv := ⟨_, Array.getElem?_eq_getElem (by omega)⟩
      have HCL := hid (And.intro (cell_at hrow i hcv) (open_at hrow i))
      have HN := hid (And.intro (heap_setCell hrow i (.int .u8 78)) (And.intro (show (cur.setIfInBounds i (.int .u8 78)).size = 128 by simpa using hcs) (hBr.setCell (p := ⟨g, i, none⟩) HGE.out (.int .u8 78))))
      clear hrow hBr hcs hcv
      go_upto_region 19 with fail
      refine wp_region_lit ?_
      refine wp_y (v := .slice (some ⟨g, 0, none⟩) 128 128) rfl rfl (y_move rfl (by kernel_rfl) (by kernel_rfl)) rfl ?_
      refine wp_y (v := .int .i64 i) rfl rfl (y_move rfl (by kernel_rfl) (by kernel_rfl)) rfl ?_
      refine wp_y (v := .pointer (some ⟨g, i, none⟩)) rfl rfl (y_index rfl (by kernel_rfl) (by kernel_rfl) (by kernel_rfl) (idx35 g 128 128 i hlt)) rfl ?_
      refine wp_do rfl rfl (run_storeOp rfl (by kernel_rfl) (by kernel_rfl) (store1 (t := 5) Try.sizeOf5 (.int .u8 78) rfl rfl HCL.out.1 HCL.out.2)) ?_
      try simp only [List.setIfInBounds_toArray, List.set_cons_zero, List.set_cons_succ]
      refine wp_end ?_
      clear HCL
      generalize wr.setCell ⟨g, i, none⟩ (.int .u8 78) = w9 at *
      go_upto_region 18 with fail
      refine wp_region_lit ?_
      refine wp_move (v := .int .i64 i) (by kernel_rfl) ?_
      refine wp_addi (z := ((i + 1 : Nat) : Int)) (by kernel_rfl) (by kernel_rfl) HWk.out ?_
      refine wp_assign (v := .int .i64 (i + 1 : Nat)) (by kernel_rfl) ?_
      dsimp only [Act.put]
      simp only [List.setIfInBounds_toArray, List.set_cons_zero, List.set_cons_succ]
      refine wp_end ?_
      go_wp2
      go_roundw
      case rel => exact ⟨i + 1, _, hlt, rfl, HN.out⟩
      case measure => exact hmes
    · have hlt' : decide ((i : Int) < 128) = false := decide_eq_false (by omega)
      have hlt2 : ¬ (i : Int) < 128 := by omega
      have HZ := hid (HB.out.below hBr)
      have HZB := hid (hBr.mono HB.out.small)
      clear hrow hBr hcs
      go_wp2
      go_ret
      exact ⟨rfl, p, X, r, _, HZ.out, HBE.out.trans HZB.out⟩
end Go.Proofs.Ytkfomolglangdaa
