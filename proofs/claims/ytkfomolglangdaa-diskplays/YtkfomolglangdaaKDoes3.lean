/- The law's does: CutAt. -/
import Derived.Test.YtkfomolglangdaaKCopy
namespace Go.Proofs.Ytkfomolglangdaa
open Go Go.RowKit

set_option maxRecDepth 100000 in
set_option maxHeartbeats 4000000 in
theorem does_3 {w : World} {q p r B : Nat} {X : List Nat} {s : DS} {x : OpV} {l : List UInt8} {zs : List Int} (h : Both w q B p X r s) (hx : OpIn w B x l zs) (hk : pk x.kind 6 = 3) :
    Calls Try.prog 12 #[.pointer (some ⟨q, 0, none⟩), .agg (ocs x)] w (Did w q B) := by
  obtain ⟨w0, ob, hw0, hob0, hb0, ho0, hB0⟩ := both_box h x
  obtain ⟨hxk, hxa, hxn, hxl, hxb, hxs, hxi, hxr⟩ := hx
  have c0 : w0.cell? ⟨ob, 0, none⟩ = some (.int .i64 x.kind) := cell_at ho0 0 rfl
  have HB := hid hb0
  have HO := hid ho0
  have HBE := hid hB0
  have HXL := hid (fun w' hb => hxl w' (hB0.trans hb))
  have HXI := hid (fun w' hb => hxi w' (hB0.trans hb))
  have HXB := hid hxb
  have HXR := hid hxr
  have HXK := hid hxk
  have HXA := hid hxa
  have HXN := hid hxn
  have HXS := hid hxs
  clear h hb0 ho0 hB0 hxl hxi hxb hxr hxk hxa hxn hxs
  show Calls _ _ #[_, .agg #[.int .i64 x.kind, .int .i64 x.at_, .int .i64 x.nn, .slice x.ba x.bl x.bc, .slice x.sa x.sl x.sc]] w _
  go_enter Try.func12, Try.ntmps12
  go_upto_region 1 with fail
  rw [← hw0]
  rw [← hob0]
  clear hw0 hob0
  go_wp2_with fail
  refine (pick_any x.kind 6 HXK.out.1 HXK.out.2 (by decide) _).mono ?_
  rintro e w1 ⟨rfl, hw1⟩
  subst hw1
  rw [hk]
  clear c0 hk
  have c2 : w1.cell? ⟨ob, 2, none⟩ = some (.int .i64 x.nn) := cell_at HO.out 2 rfl
  have hr2 : w1.cell? ⟨r, 2, none⟩ = some (.int .i64 s.ops) := by
    obtain ⟨vs, vl, _, hRc, _⟩ := HB.out.ref
    exact hRc.c2
  have HR2 := hid hr2
  clear hr2
  by_cases hn : 0 ≤ x.nn
  · have d0 : decide (0 ≤ x.nn) = true := decide_eq_true hn
    obtain ⟨cv, hcv⟩ : ∃ cv : Int, cv = s.ops + (pk x.nn 20 : Nat) := ⟨_, rfl⟩
    have hpk : pk x.nn 20 < 20 := pk_lt _ (by decide)
    have hcw : IntKind.i64.wrap (s.ops + ((pk x.nn 20 : Nat) : Int)) = cv := by
      have h0 := HB.out.ref.ok.o0
      have h1 := HB.out.ref.ok.o1
      rw [hcv, IntWalk.i64_in _ ⟨by omega, by omega⟩]
    have HCV := hid hcw
    clear hcv hpk hcw
    go_upto_region 24 with fail
    refine z_open (S := fun w' => w' = w1.drew) 11 (by kernel_rfl) (by kernel_rfl) (fun _ _ _ _ _ h => h) (L := #[false, false, false, false, false, false, false, false, false, false, false, false]) (by kernel_rfl) ?_
    intro Q' hns hP hN
    have hS := (show w1.drew = w1.drew from rfl)
    refine z_pure (i := 0) (v := .pointer (some ⟨q, 0, none⟩)) hns rfl rfl rfl (by kernel_rfl) (by kernel_rfl) hP (y_move rfl (by kernel_rfl) (by kernel_rfl)) (fun _ => hS) rfl (L' := #[true, false, false, false, false, false, false, false, false, false, false, false]) (by kernel_rfl) ?_
    refine z_pure (i := 1) (v := .pointer (some ⟨q, 0, none⟩)) hns rfl rfl rfl (by kernel_rfl) (by kernel_rfl) hP (y_nil rfl (by kernel_rfl) (by kernel_rfl)) (fun _ => hS) rfl (L' := #[true, true, false, false, false, false, false, false, false, false, false, false]) (by kernel_rfl) ?_
    refine z_pure (i := 2) (v := .pointer (some ⟨q, 1, none⟩)) hns rfl rfl rfl (by kernel_rfl) (by kernel_rfl) hP (y_faddr rfl (by kernel_rfl) (by kernel_rfl) (fa33_1 (q))) (fun _ => hS) rfl (L' := #[true, true, true, false, false, false, false, false, false, false, false, false]) (by kernel_rfl) ?_
    refine z_read (i := 3) (v := .pointer (some ⟨r, 0, none⟩)) hns rfl (by kernel_rfl) rfl rfl (by kernel_rfl) (by kernel_rfl) hP (y_load rfl (by kernel_rfl) (by kernel_rfl) (fun w' h => by subst h; exact load1 Try.isAgg28 HB.out.bo.c1)) rfl hS rfl (L' := #[true, true, true, true, false, false, false, false, false, false, false, false]) (by kernel_rfl) ?_
    refine z_pure (i := 4) (v := .pointer (some ⟨r, 0, none⟩)) hns rfl rfl rfl (by kernel_rfl) (by kernel_rfl) hP (y_nil rfl (by kernel_rfl) (by kernel_rfl)) (fun _ => hS) rfl (L' := #[true, true, true, true, true, false, false, false, false, false, false, false]) (by kernel_rfl) ?_
    refine z_pure (i := 5) (v := .pointer (some ⟨r, 2, none⟩)) hns rfl rfl rfl (by kernel_rfl) (by kernel_rfl) hP (y_faddr rfl (by kernel_rfl) (by kernel_rfl) (fa62_2 (r))) (fun _ => hS) rfl (L' := #[true, true, true, true, true, true, false, false, false, false, false, false]) (by kernel_rfl) ?_
    refine z_read (i := 6) (v := .int .i64 s.ops) hns rfl (by kernel_rfl) rfl rfl (by kernel_rfl) (by kernel_rfl) hP (y_load rfl (by kernel_rfl) (by kernel_rfl) (fun w' h => by subst h; exact load1 Try.isAgg3 HR2.out)) rfl hS rfl (L' := #[true, true, true, true, true, true, true, false, false, false, false, false]) (by kernel_rfl) ?_
    simp only [List.setIfInBounds_toArray, List.set_cons_zero, List.set_cons_succ]
    refine z_pure (i := 7) (v := .pointer (some ⟨ob, 2, none⟩)) hns rfl rfl rfl (by kernel_rfl) (by kernel_rfl) hP (y_faddr rfl (by kernel_rfl) (by kernel_rfl) (fa38_2 (ob))) (fun _ => hS) rfl (L' := #[true, true, true, true, true, true, true, true, false, false, false, false]) (by kernel_rfl) ?_
    refine z_read (i := 8) (v := .int .i64 x.nn) hns rfl (by kernel_rfl) rfl rfl (by kernel_rfl) (by kernel_rfl) hP (y_load rfl (by kernel_rfl) (by kernel_rfl) (fun w' h => by subst h; exact load1 Try.isAgg3 (cell_at HO.out 2 rfl))) rfl hS rfl (L' := #[true, true, true, true, true, true, true, true, true, false, false, false]) (by kernel_rfl) ?_
    refine z_call (i := 9) (f := 18) (args := #[.int .i64 x.nn, .int .i64 20]) (by kernel_rfl) rfl rfl (by kernel_rfl) (enter_go rfl (by kernel_rfl) (fun w => by go_simp)) (L' := #[true, true, true, true, true, true, true, true, true, true, false, false]) (by kernel_rfl) ?_
    refine (pick_any x.nn 20 HXN.out.1 HXN.out.2 (by decide) _).mono ?_
    rintro e wz ⟨rfl, hwz⟩
    subst hwz
    refine ⟨_, rfl, hS, ?_⟩
    refine z_pure (i := 10) (v := .int .i64 cv) hns rfl rfl rfl (by kernel_rfl) (by kernel_rfl) hP (y_bin rfl (by kernel_rfl) (by kernel_rfl) (by kernel_rfl) (addII _ _ _ HCV.out)) (fun _ => hS) rfl (L' := #[true, true, true, true, true, true, true, true, true, true, true, false]) (by kernel_rfl) ?_
    refine z_val (i := 11) (v := .int .i64 cv) (by kernel_rfl) rfl rfl (by kernel_rfl) (run_asgK rfl (by kernel_rfl)) hS rfl (L' := #[true, true, true, true, true, true, true, true, true, true, true, true]) (by kernel_rfl) ?_
    try simp only [List.setIfInBounds_toArray, List.set_cons_zero, List.set_cons_succ]
    refine z_done (by kernel_rfl) ?_ _
    refine hN _ _ ?_
    clear hP hN hns
    clear hS
    go_upto_region 25 with fail
    refine wp_region_lit ?_
    refine wp_y (v := .pointer (some ⟨q, 0, none⟩)) rfl rfl (y_move rfl (by kernel_rfl) (by kernel_rfl)) rfl ?_
    refine wp_y (v := .pointer (some ⟨q, 0, none⟩)) rfl rfl (y_nil rfl (by kernel_rfl) (by kernel_rfl)) rfl ?_
    refine wp_y (v := .pointer (some ⟨q, 0, none⟩)) rfl rfl (y_faddr rfl (by kernel_rfl) (by kernel_rfl) (fa33_0 (q))) rfl ?_
    refine wp_y (v := .pointer (some ⟨p, 0, none⟩)) rfl rfl (y_load rfl (by kernel_rfl) (by kernel_rfl) (fun w' h => by subst h; exact load1 Try.isAgg24 HB.out.bo.c0)) rfl ?_
    refine wp_y (v := .int .i64 cv) rfl rfl (y_move rfl (by kernel_rfl) (by kernel_rfl)) rfl ?_
    refine wp_call (f := 25) (args := #[.pointer (some ⟨p, 0, none⟩), .int .i64 cv]) (by kernel_rfl) (fun w => by go_simp) ?_
    refine (cutAt_d (show Disk w1.drew p X s from HB.out.disk) cv).mono ?_
    rintro e w2 ⟨rfl, hD2, hF2⟩
    have hb2 := HB.out.prog (show Fr X w1 w2 from hF2.undrew) hD2 (fun h => by cases h) (fun k hk => .inl hk)
    refine ⟨_, rfl, ?_⟩
    dsimp only [Act.put]
    try simp only [List.setIfInBounds_toArray, List.set_cons_zero, List.set_cons_succ]
    refine wp_end ?_
    go_upto_region 26 with fail
    refine wp_region_lit ?_
    refine wp_y (v := .pointer (some ⟨q, 0, none⟩)) rfl rfl (y_move rfl (by kernel_rfl) (by kernel_rfl)) rfl ?_
    refine wp_y (v := .pointer (some ⟨q, 0, none⟩)) rfl rfl (y_nil rfl (by kernel_rfl) (by kernel_rfl)) rfl ?_
    refine wp_y (v := .pointer (some ⟨q, 1, none⟩)) rfl rfl (y_faddr rfl (by kernel_rfl) (by kernel_rfl) (fa33_1 (q))) rfl ?_
    refine wp_y (v := .pointer (some ⟨r, 0, none⟩)) rfl rfl (y_load rfl (by kernel_rfl) (by kernel_rfl) (fun w' h => by subst h; exact load1 Try.isAgg28 hb2.bo.c1)) rfl ?_
    refine wp_y (v := .int .i64 cv) rfl rfl (y_move rfl (by kernel_rfl) (by kernel_rfl)) rfl ?_
    refine wp_call (f := 30) (args := #[.pointer (some ⟨r, 0, none⟩), .int .i64 cv]) (by kernel_rfl) (fun w => by go_simp) ?_
    refine (rcut_d hb2.ref cv).mono ?_
    rintro e w3 ⟨rfl, hR3, hF3, hM3⟩
    have hb3 := hb2.doc hF3 hM3 hR3
    refine ⟨_, rfl, ?_⟩
    dsimp only [Act.put]
    try simp only [List.setIfInBounds_toArray, List.set_cons_zero, List.set_cons_succ]
    refine wp_end ?_
    go_wp2
    go_ret
    exact ⟨rfl, p, X, r, _, hb3.out, HBE.out.trans hb3.below⟩
  · have d0 : decide (0 ≤ x.nn) = false := decide_eq_false hn
    go_upto_region 25 with fail
    refine wp_region_lit ?_
    refine wp_y (v := .pointer (some ⟨q, 0, none⟩)) rfl rfl (y_move rfl (by kernel_rfl) (by kernel_rfl)) rfl ?_
    refine wp_y (v := .pointer (some ⟨q, 0, none⟩)) rfl rfl (y_nil rfl (by kernel_rfl) (by kernel_rfl)) rfl ?_
    refine wp_y (v := .pointer (some ⟨q, 0, none⟩)) rfl rfl (y_faddr rfl (by kernel_rfl) (by kernel_rfl) (fa33_0 (q))) rfl ?_
    refine wp_y (v := .pointer (some ⟨p, 0, none⟩)) rfl rfl (y_load rfl (by kernel_rfl) (by kernel_rfl) (fun w' h => by subst h; exact load1 Try.isAgg24 HB.out.bo.c0)) rfl ?_
    refine wp_y (v := .int .i64 (-1)) rfl rfl (y_move rfl (by kernel_rfl) (by kernel_rfl)) rfl ?_
    refine wp_call (f := 25) (args := #[.pointer (some ⟨p, 0, none⟩), .int .i64 (-1)]) (by kernel_rfl) (fun w => by go_simp) ?_
    refine (cutAt_d (show Disk w1 p X s from HB.out.disk) (-1)).mono ?_
    rintro e w2 ⟨rfl, hD2, hF2⟩
    have hb2 := HB.out.prog (show Fr X w1 w2 from hF2) hD2 (fun h => by cases h) (fun k hk => .inl hk)
    refine ⟨_, rfl, ?_⟩
    dsimp only [Act.put]
    try simp only [List.setIfInBounds_toArray, List.set_cons_zero, List.set_cons_succ]
    refine wp_end ?_
    go_upto_region 26 with fail
    refine wp_region_lit ?_
    refine wp_y (v := .pointer (some ⟨q, 0, none⟩)) rfl rfl (y_move rfl (by kernel_rfl) (by kernel_rfl)) rfl ?_
    refine wp_y (v := .pointer (some ⟨q, 0, none⟩)) rfl rfl (y_nil rfl (by kernel_rfl) (by kernel_rfl)) rfl ?_
    refine wp_y (v := .pointer (some ⟨q, 1, none⟩)) rfl rfl (y_faddr rfl (by kernel_rfl) (by kernel_rfl) (fa33_1 (q))) rfl ?_
    refine wp_y (v := .pointer (some ⟨r, 0, none⟩)) rfl rfl (y_load rfl (by kernel_rfl) (by kernel_rfl) (fun w' h => by subst h; exact load1 Try.isAgg28 hb2.bo.c1)) rfl ?_
    refine wp_y (v := .int .i64 (-1)) rfl rfl (y_move rfl (by kernel_rfl) (by kernel_rfl)) rfl ?_
    refine wp_call (f := 30) (args := #[.pointer (some ⟨r, 0, none⟩), .int .i64 (-1)]) (by kernel_rfl) (fun w => by go_simp) ?_
    refine (rcut_d hb2.ref (-1)).mono ?_
    rintro e w3 ⟨rfl, hR3, hF3, hM3⟩
    have hb3 := hb2.doc hF3 hM3 hR3
    refine ⟨_, rfl, ?_⟩
    dsimp only [Act.put]
    try simp only [List.setIfInBounds_toArray, List.set_cons_zero, List.set_cons_succ]
    refine wp_end ?_
    go_wp2
    go_ret
    exact ⟨rfl, p, X, r, _, hb3.out, HBE.out.trans hb3.below⟩
end Go.Proofs.Ytkfomolglangdaa
