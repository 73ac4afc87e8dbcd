/- The law's does: Crash. -/
import Derived.Test.YtkfomolglangdaaKCopy
namespace Go.Proofs.Ytkfomolglangdaa
open Go Go.RowKit

set_option maxRecDepth 100000 in
set_option maxHeartbeats 4000000 in
theorem does_5 {w : World} {q p r B : Nat} {X : List Nat} {s : DS} {x : OpV} {l : List UInt8} {zs : List Int} (h : Both w q B p X r s) (hx : OpIn w B x l zs) (hk : pk x.kind 6 = 5) :
    Calls Try.prog 12 #[.pointer (some ⟨q, 0, none⟩), .agg (ocs x)] w (Did w q B) := by
  obtain ⟨w0, ob, hw0, hob0, hb0, ho0, hB0⟩ := both_box h x
  obtain ⟨hxk, hxa, hxn, hxl, hxb, hxs, hxi, hxr⟩ := hx
  have c0 : w0.cell? ⟨ob, 0, none⟩ = some (.int .i64 x.kind) := cell_at ho0 0 rfl
  have HB := hid hb0
  have HO := hid ho0
  have HBE := hid hB0
  have HXL := hid (fun w' hb => hxl w' (hB0.trans hb))
  have HXI := hid (fun w' hb => hxi w' (hB0.trans hb))
  have HXB := hid hxb
  have HXR := hid hxr
  have HXK := hid hxk
  have HXA := hid hxa
  have HXN := hid hxn
  have HXS := hid hxs
  clear h hb0 ho0 hB0 hxl hxi hxb hxr hxk hxa hxn hxs
  show Calls _ _ #[_, .agg #[.int .i64 x.kind, .int .i64 x.at_, .int .i64 x.nn, .slice x.ba x.bl x.bc, .slice x.sa x.sl x.sc]] w _
  go_enter Try.func12, Try.ntmps12
  go_upto_region 1 with fail
  rw [← hw0]
  rw [← hob0]
  clear hw0 hob0
  go_wp2_with fail
  refine (pick_any x.kind 6 HXK.out.1 HXK.out.2 (by decide) _).mono ?_
  rintro e w1 ⟨rfl, hw1⟩
  subst hw1
  rw [hk]
  clear c0 hk
  obtain ⟨g, c, w2, hcp, how, hB2⟩ := copyI (cap := x.sc) 36 (HXI.out w1 (Below.refl _ _)) HXS.out
  have hb2 := HB.out.below hB2
  have ho2 : Ob w2 ob x := below_at hB2 HO.out (heap_lt HO.out)
  have ho4 : Ob (w1.alloc (.cells #[] 3)) ob x := below_at ((Below.refl _ _).alloc (Nat.le_refl _) _) HO.out (heap_lt HO.out)
  have HO4 := hid ho4
  have HO2 := hid ho2
  have HB2 := hid hb2
  have HCP := hid hcp
  have HOW := hid how
  have HBE2 := hid hB2
  clear hb2 ho2 ho4 hcp how hB2
  go_upto_region 30 with fail
  refine wp_region_lit ?_
  refine wp_run (v := .slice (some ⟨w1.heap.size, 0, none⟩) 0 0) rfl rfl (run_bs0 rfl (bslice0i w1)) rfl ?_
  refine wp_y (v := .pointer (some ⟨ob, 4, none⟩)) rfl rfl (y_faddr rfl (by kernel_rfl) (by kernel_rfl) (fa38_4 (ob))) rfl ?_
  refine wp_y (v := .slice x.sa x.sl x.sc) rfl rfl (y_load rfl (by kernel_rfl) (by kernel_rfl) (fun w' h => by subst h; exact load1 Try.isAgg36 (cell_at HO4.out 4 rfl))) rfl ?_
  refine wp_run (v := .slice (some ⟨g, 0, none⟩) x.sl c) rfl rfl (run_appOp rfl (by kernel_rfl) (by kernel_rfl) HCP.out) rfl ?_
  refine wp_y (v := .slice (some ⟨g, 0, none⟩) x.sl c) rfl rfl (y_assign rfl (by kernel_rfl) (by kernel_rfl)) rfl ?_
  try simp only [List.setIfInBounds_toArray, List.set_cons_zero, List.set_cons_succ]
  refine wp_end ?_
  clear HCP HO4
  go_upto_region 31 with fail
  refine wp_region_lit ?_
  refine wp_y (v := .pointer (some ⟨q, 0, none⟩)) rfl rfl (y_move rfl (by kernel_rfl) (by kernel_rfl)) rfl ?_
  refine wp_y (v := .pointer (some ⟨q, 0, none⟩)) rfl rfl (y_move rfl (by kernel_rfl) (by kernel_rfl)) rfl ?_
  refine wp_y (v := .pointer (some ⟨q, 0, none⟩)) rfl rfl (y_nil rfl (by kernel_rfl) (by kernel_rfl)) rfl ?_
  refine wp_y (v := .pointer (some ⟨q, 0, none⟩)) rfl rfl (y_faddr rfl (by kernel_rfl) (by kernel_rfl) (fa33_0 (q))) rfl ?_
  refine wp_y (v := .pointer (some ⟨p, 0, none⟩)) rfl rfl (y_load rfl (by kernel_rfl) (by kernel_rfl) (fun w' h => by subst h; exact load1 Try.isAgg24 HB2.out.bo.c0)) rfl ?_
  refine wp_y (v := .slice (some ⟨g, 0, none⟩) x.sl c) rfl rfl (y_move rfl (by kernel_rfl) (by kernel_rfl)) rfl ?_
  refine wp_call (f := 16) (args := #[.pointer (some ⟨p, 0, none⟩), .slice (some ⟨g, 0, none⟩) x.sl c]) (by kernel_rfl) (fun w => by go_simp) ?_
  refine (crash_d HB2.out.disk (ints_owned HOW.out) HXS.out).mono ?_
  rintro e w3 ⟨p2, X2, rfl, hD3, hX3, hB3⟩
  have hb3 := HB2.out.below hB3
  refine ⟨_, rfl, ?_⟩
  dsimp only [Act.put]
  refine wp_y (v := .pointer (some ⟨q, 0, none⟩)) rfl rfl (y_nil rfl (by kernel_rfl) (by kernel_rfl)) rfl ?_
  simp only [List.setIfInBounds_toArray, List.set_cons_zero, List.set_cons_succ]
  refine wp_y (v := .pointer (some ⟨q, 0, none⟩)) rfl rfl (y_faddr rfl (by kernel_rfl) (by kernel_rfl) (fa33_0 (q))) rfl ?_
  refine wp_do rfl rfl (run_storeOp rfl (by kernel_rfl) (by kernel_rfl) (store1 (t := 24) Try.sizeOf24 (.pointer (some ⟨p2, 0, none⟩)) rfl rfl hb3.bo.c0 (open_at hb3.bo 0))) ?_
  try simp only [List.setIfInBounds_toArray, List.set_cons_zero, List.set_cons_succ]
  refine wp_end ?_
  have hq3 : q < w2.heap.size := heap_lt HB2.out.bo
  have hbo4 : Bo (w3.setCell ⟨q, 0, none⟩ (.pointer (some ⟨p2, 0, none⟩))) q p2 r := heap_setCell hb3.bo 0 _
  have hF4 : Fr [q] w3 (w3.setCell ⟨q, 0, none⟩ (.pointer (some ⟨p2, 0, none⟩))) := Fr.setCell _ _ _ _
  have hD4 := hD3.fr hF4 (fun k hk hm => by
    obtain rfl : k = q := by simpa using hm
    have := hX3 k hk; omega)
  have hR4 := hb3.ref.bothFr hb3.bo hF4
  have ho3 : Ob w3 ob x := below_at hB3 HO2.out (heap_lt HO2.out)
  have ho4 : Ob (w3.setCell ⟨q, 0, none⟩ (.pointer (some ⟨p2, 0, none⟩))) ob x := hF4.at ho3 (ob_both ho3 hb3.bo)
  have hB24 : Below B w1 (w3.setCell ⟨q, 0, none⟩ (.pointer (some ⟨p2, 0, none⟩))) := by
    have h1 := HBE2.out.mono HB.out.small
    have h2 := hB3.mono HB2.out.small
    exact (h1.trans h2).trans (hF4.below hb3.small (fun k hk => by
      obtain rfl : k = q := by simpa using hk
      exact HB.out.base))
  have hX4 : ∀ k ∈ X2, B ≤ k := fun k hk => Nat.le_trans HB2.out.small (hX3 k hk)
  have HBO4 := hid hbo4
  have HD4 := hid hD4
  have HR4 := hid hR4
  have HO4b := hid ho4
  have HB14 := hid hB24
  have HX4 := hid hX4
  have HBQ := hid HB.out.base
  have HSM := hid (Nat.le_trans HB.out.small hB24.size)
  clear hq3 hbo4 hF4 hD4 hR4 ho3 ho4 hB24 hX4 hD3 hX3 hB3 hb3 HB2 HO2 HOW HBE2 HB HO
  generalize w3.setCell ⟨q, 0, none⟩ (.pointer (some ⟨p2, 0, none⟩)) = w4 at *
  go_upto_region 32 with fail
  refine z_open (S := fun w' => Bo w' q p2 r ∧ Ob w' ob x) 10 (by kernel_rfl) (by kernel_rfl) (fun _ _ _ _ _ h => h) (L := #[false, false, false, false, false, false, false, false, false, false, false]) (by kernel_rfl) ?_
  intro Q' hns hP hN
  have hS := (show Bo w4.drew q p2 r ∧ Ob w4.drew ob x from ⟨HBO4.out, HO4b.out⟩)
  refine z_pure (i := 0) (v := .pointer (some ⟨q, 0, none⟩)) hns rfl rfl rfl (by kernel_rfl) (by kernel_rfl) hP (y_move rfl (by kernel_rfl) (by kernel_rfl)) (fun _ => hS) rfl (L' := #[true, false, false, false, false, false, false, false, false, false, false]) (by kernel_rfl) ?_
  refine z_pure (i := 1) (v := .pointer (some ⟨q, 0, none⟩)) hns rfl rfl rfl (by kernel_rfl) (by kernel_rfl) hP (y_move rfl (by kernel_rfl) (by kernel_rfl)) (fun _ => hS) rfl (L' := #[true, true, false, false, false, false, false, false, false, false, false]) (by kernel_rfl) ?_
  refine z_pure (i := 2) (v := .pointer (some ⟨q, 0, none⟩)) hns rfl rfl rfl (by kernel_rfl) (by kernel_rfl) hP (y_nil rfl (by kernel_rfl) (by kernel_rfl)) (fun _ => hS) rfl (L' := #[true, true, true, false, false, false, false, false, false, false, false]) (by kernel_rfl) ?_
  refine z_pure (i := 3) (v := .pointer (some ⟨q, 1, none⟩)) hns rfl rfl rfl (by kernel_rfl) (by kernel_rfl) hP (y_faddr rfl (by kernel_rfl) (by kernel_rfl) (fa33_1 (q))) (fun _ => hS) rfl (L' := #[true, true, true, true, false, false, false, false, false, false, false]) (by kernel_rfl) ?_
  refine z_read (i := 4) (v := .pointer (some ⟨r, 0, none⟩)) hns rfl (by kernel_rfl) rfl rfl (by kernel_rfl) (by kernel_rfl) hP (y_load rfl (by kernel_rfl) (by kernel_rfl) (fun w' h => load1 Try.isAgg28 h.1.c1)) rfl hS rfl (L' := #[true, true, true, true, true, false, false, false, false, false, false]) (by kernel_rfl) ?_
  refine z_pure (i := 5) (v := .pointer (some ⟨ob, 4, none⟩)) hns rfl rfl rfl (by kernel_rfl) (by kernel_rfl) hP (y_faddr rfl (by kernel_rfl) (by kernel_rfl) (fa38_4 (ob))) (fun _ => hS) rfl (L' := #[true, true, true, true, true, true, false, false, false, false, false]) (by kernel_rfl) ?_
  refine z_read (i := 6) (v := .slice x.sa x.sl x.sc) hns rfl (by kernel_rfl) rfl rfl (by kernel_rfl) (by kernel_rfl) hP (y_load rfl (by kernel_rfl) (by kernel_rfl) (fun w' h => load1 Try.isAgg36 (cell_at h.2 4 rfl))) rfl hS rfl (L' := #[true, true, true, true, true, true, true, false, false, false, false]) (by kernel_rfl) ?_
  simp only [List.setIfInBounds_toArray, List.set_cons_zero, List.set_cons_succ]
  refine z_call (i := 7) (f := 33) (args := #[.pointer (some ⟨r, 0, none⟩), .slice x.sa x.sl x.sc]) (by kernel_rfl) rfl rfl (by kernel_rfl) (enter_go rfl (by kernel_rfl) (fun w => by go_simp)) (L' := #[true, true, true, true, true, true, true, true, false, false, false]) (by kernel_rfl) ?_
  refine (rcrash_d (show Ref w4.drew B r s from HR4.out) (HXI.out w4.drew (show Below B w1 w4.drew from HB14.out.drew)) (by have := HXS.out; omega)).mono ?_
  rintro e w5 ⟨r2, rfl, hR5, hB5⟩
  have hB5 : Below w4.heap.size w4 w5 := ⟨hB5.os, hB5.tape, hB5.output, hB5.size, hB5.block⟩
  have hbo5 : Bo w5 q p2 r := below_at hB5 HBO4.out (heap_lt HBO4.out)
  have ho5 : Ob w5 ob x := below_at hB5 HO4b.out (heap_lt HO4b.out)
  have hS5 := And.intro hbo5 ho5
  refine ⟨_, rfl, hS5, ?_⟩
  refine z_pure (i := 8) (v := .pointer (some ⟨q, 0, none⟩)) hns rfl rfl rfl (by kernel_rfl) (by kernel_rfl) hP (y_nil rfl (by kernel_rfl) (by kernel_rfl)) (fun _ => hS5) rfl (L' := #[true, true, true, true, true, true, true, true, true, false, false]) (by kernel_rfl) ?_
  refine z_pure (i := 9) (v := .pointer (some ⟨q, 1, none⟩)) hns rfl rfl rfl (by kernel_rfl) (by kernel_rfl) hP (y_faddr rfl (by kernel_rfl) (by kernel_rfl) (fa33_1 (q))) (fun _ => hS5) rfl (L' := #[true, true, true, true, true, true, true, true, true, true, false]) (by kernel_rfl) ?_
  refine z_last (by kernel_rfl) rfl rfl (by kernel_rfl) (run_storeOp rfl (by kernel_rfl) (by kernel_rfl) (store1 (t := 28) Try.sizeOf28 (.pointer (some ⟨r2, 0, none⟩)) rfl rfl hbo5.c1 (open_at hbo5 1))) rfl (L' := #[true, true, true, true, true, true, true, true, true, true, true]) (by kernel_rfl) ?_
  try simp only [List.setIfInBounds_toArray, List.set_cons_zero, List.set_cons_succ]
  refine z_done (by kernel_rfl) ?_ _
  refine hN _ _ ?_
  clear hP hN hns
  clear hS
  have hF6 : Fr [q] w5 (w5.setCell ⟨q, 1, none⟩ (.pointer (some ⟨r2, 0, none⟩))) := Fr.setCell _ _ _ _
  have hbo6 : Bo (w5.setCell ⟨q, 1, none⟩ (.pointer (some ⟨r2, 0, none⟩))) q p2 r2 := heap_setCell hbo5 1 _
  have hD5 := HD4.out.below hB5
  have hD6 := hD5.fr hF6 (fun k hk hm => by
    obtain rfl : k = q := by simpa using hm
    exact hD5.other hbo5 (by decide) (by decide) hk)
  have hR6 := (hR5.lower (B' := B) HSM.out).bothFr hbo5 hF6
  have hB6 : Below B w1 (w5.setCell ⟨q, 1, none⟩ (.pointer (some ⟨r2, 0, none⟩))) := (HB14.out.trans (hB5.mono HSM.out)).trans (hF6.below (Nat.le_trans HSM.out hB5.size) (fun k hk => by
      obtain rfl : k = q := by simpa using hk
      exact HBQ.out))
  have hsm6 : B ≤ (w5.setCell ⟨q, 1, none⟩ (.pointer (some ⟨r2, 0, none⟩))).heap.size := Nat.le_trans (Nat.le_trans HSM.out hB5.size) hF6.size
  have HZ := hid (show Both _ q B p2 X2 r2 (s.cr zs) from ⟨hbo6, hD6, HX4.out, hR6, (fun h => by cases h), HBQ.out, hsm6⟩)
  have HB6 := hid hB6
  have c6 := hbo6.c0
  clear hF6 hbo6 hD5 hD6 hR6 hB6 hsm6 hR5 hB5 hbo5 ho5 hS5
  generalize w5.setCell ⟨q, 1, none⟩ (.pointer (some ⟨r2, 0, none⟩)) = w6 at *
  go_wp2
  go_ret
  exact ⟨rfl, p2, X2, r2, _, HZ.out, HBE.out.trans HB6.out⟩
end Go.Proofs.Ytkfomolglangdaa
