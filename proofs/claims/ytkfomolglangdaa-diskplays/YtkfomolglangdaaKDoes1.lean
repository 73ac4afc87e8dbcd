/- The law's does: Flush. -/
import Derived.Test.YtkfomolglangdaaKDoes
namespace Go.Proofs.Ytkfomolglangdaa
open Go Go.RowKit

set_option maxRecDepth 100000 in
set_option maxHeartbeats 4000000 in
theorem does_1 {w : World} {q p r B : Nat} {X : List Nat} {s : DS} {x : OpV} {l : List UInt8} {zs : List Int} (h : Both w q B p X r s) (hx : OpIn w B x l zs) (hk : pk x.kind 6 = 1) :
    Calls Try.prog 12 #[.pointer (some ⟨q, 0, none⟩), .agg (ocs x)] w (Did w q B) := by
  obtain ⟨w0, ob, hw0, hob0, hb0, ho0, hB0⟩ := both_box h x
  obtain ⟨hxk, hxa, hxn, hxl, hxb, hxs, hxi, hxr⟩ := hx
  have c0 : w0.cell? ⟨ob, 0, none⟩ = some (.int .i64 x.kind) := cell_at ho0 0 rfl
  have HB := hid hb0
  have HO := hid ho0
  have HBE := hid hB0
  have HXL := hid (fun w' hb => hxl w' (hB0.trans hb))
  have HXI := hid (fun w' hb => hxi w' (hB0.trans hb))
  have HXB := hid hxb
  have HXR := hid hxr
  have HXK := hid hxk
  have HXA := hid hxa
  have HXN := hid hxn
  have HXS := hid hxs
  clear h hb0 ho0 hB0 hxl hxi hxb hxr hxk hxa hxn hxs
  show Calls _ _ #[_, .agg #[.int .i64 x.kind, .int .i64 x.at_, .int .i64 x.nn, .slice x.ba x.bl x.bc, .slice x.sa x.sl x.sc]] w _
  go_enter Try.func12, Try.ntmps12
  go_upto_region 1 with fail
  rw [← hw0]
  rw [← hob0]
  clear hw0 hob0
  go_wp2_with fail
  refine (pick_any x.kind 6 HXK.out.1 HXK.out.2 (by decide) _).mono ?_
  rintro e w1 ⟨rfl, hw1⟩
  subst hw1
  rw [hk]
  clear c0 hk
  go_upto_region 11 with fail
  refine z_open (S := fun w' => Bo w' q p r ∧ Ob w' ob x) 11 (by kernel_rfl) (by kernel_rfl) (fun _ _ _ _ _ h => h) (L := #[false, false, false, false, false, false, false, false, false, false, false, false]) (by kernel_rfl) ?_
  intro Q' hns hP hN
  have hS := (show Bo w1.drew q p r ∧ Ob w1.drew ob x from ⟨HB.out.bo, HO.out⟩)
  refine z_pure (i := 0) (v := .pointer (some ⟨q, 0, none⟩)) hns rfl rfl rfl (by kernel_rfl) (by kernel_rfl) hP (y_move rfl (by kernel_rfl) (by kernel_rfl)) (fun _ => hS) rfl (L' := #[true, false, false, false, false, false, false, false, false, false, false, false]) (by kernel_rfl) ?_
  refine z_pure (i := 1) (v := .pointer (some ⟨q, 0, none⟩)) hns rfl rfl rfl (by kernel_rfl) (by kernel_rfl) hP (y_nil rfl (by kernel_rfl) (by kernel_rfl)) (fun _ => hS) rfl (L' := #[true, true, false, false, false, false, false, false, false, false, false, false]) (by kernel_rfl) ?_
  refine z_pure (i := 2) (v := .pointer (some ⟨q, 0, none⟩)) hns rfl rfl rfl (by kernel_rfl) (by kernel_rfl) hP (y_faddr rfl (by kernel_rfl) (by kernel_rfl) (fa33_0 (q))) (fun _ => hS) rfl (L' := #[true, true, true, false, false, false, false, false, false, false, false, false]) (by kernel_rfl) ?_
  refine z_read (i := 3) (v := .pointer (some ⟨p, 0, none⟩)) hns rfl (by kernel_rfl) rfl rfl (by kernel_rfl) (by kernel_rfl) hP (y_load rfl (by kernel_rfl) (by kernel_rfl) (fun w' h => load1 Try.isAgg24 h.1.c0)) rfl hS rfl (L' := #[true, true, true, true, false, false, false, false, false, false, false, false]) (by kernel_rfl) ?_
  refine z_pure (i := 5) (v := .pointer (some ⟨q, 0, none⟩)) hns rfl rfl rfl (by kernel_rfl) (by kernel_rfl) hP (y_move rfl (by kernel_rfl) (by kernel_rfl)) (fun _ => hS) rfl (L' := #[true, true, true, true, false, true, false, false, false, false, false, false]) (by kernel_rfl) ?_
  refine z_pure (i := 6) (v := .pointer (some ⟨q, 0, none⟩)) hns rfl rfl rfl (by kernel_rfl) (by kernel_rfl) hP (y_nil rfl (by kernel_rfl) (by kernel_rfl)) (fun _ => hS) rfl (L' := #[true, true, true, true, false, true, true, false, false, false, false, false]) (by kernel_rfl) ?_
  refine z_pure (i := 7) (v := .pointer (some ⟨q, 1, none⟩)) hns rfl rfl rfl (by kernel_rfl) (by kernel_rfl) hP (y_faddr rfl (by kernel_rfl) (by kernel_rfl) (fa33_1 (q))) (fun _ => hS) rfl (L' := #[true, true, true, true, false, true, true, true, false, false, false, false]) (by kernel_rfl) ?_
  simp only [List.setIfInBounds_toArray, List.set_cons_zero, List.set_cons_succ]
  refine z_read (i := 8) (v := .pointer (some ⟨r, 0, none⟩)) hns rfl (by kernel_rfl) rfl rfl (by kernel_rfl) (by kernel_rfl) hP (y_load rfl (by kernel_rfl) (by kernel_rfl) (fun w' h => load1 Try.isAgg28 h.1.c1)) rfl hS rfl (L' := #[true, true, true, true, false, true, true, true, true, false, false, false]) (by kernel_rfl) ?_
  refine z_call (i := 4) (f := 21) (args := #[.pointer (some ⟨p, 0, none⟩)]) (by kernel_rfl) rfl rfl (by kernel_rfl) (enter_go rfl (by kernel_rfl) (fun w => by go_simp)) (L' := #[true, true, true, true, true, true, true, true, true, false, false, false]) (by kernel_rfl) ?_
  refine (flush_d (show Disk w1.drew p X s from HB.out.disk)).mono ?_
  rintro e w2 ⟨rfl, X2, hD2, hX2, hF2⟩
  have hb2 := HB.out.prog (show Fr X w1 w2 from hF2.undrew) hD2 (DS.Goes.fl) hX2
  have ho2 : Ob w2 ob x := hF2.undrew.at HO.out (HB.out.disk.other HO.out (by decide) (by decide))
  have hS2 := And.intro hb2.bo ho2
  refine ⟨_, rfl, hS2, ?_⟩
  refine z_call (i := 9) (f := 28) (args := #[.pointer (some ⟨r, 0, none⟩)]) (by kernel_rfl) rfl rfl (by kernel_rfl) (enter_go rfl (by kernel_rfl) (fun w => by go_simp)) (L' := #[true, true, true, true, true, true, true, true, true, true, false, false]) (by kernel_rfl) ?_
  refine (rflush_d hb2.ref HB.out.goes).mono ?_
  rintro e w3 ⟨rfl, hR3, Y, hF3, hM3⟩
  have hb3 := hb2.doc hF3 hM3 hR3
  have ho3 : Ob w3 ob x := hF3.at ho2 (ob_mine ho2 hM3)
  have hS3 := And.intro hb3.bo ho3
  refine ⟨_, rfl, hS3, ?_⟩
  refine z_pure (i := 10) (v := .bool true) hns rfl rfl rfl (by kernel_rfl) (by kernel_rfl) hP (y_eqi (t := 25) (x := s.fl.1) (y := s.fl.1) (.inr rfl) rfl (by kernel_rfl) (by kernel_rfl) (by kernel_rfl) (by simp)) (fun _ => hS3) rfl (L' := #[true, true, true, true, true, true, true, true, true, true, true, false]) (by kernel_rfl) ?_
  refine z_val (i := 11) (v := .bool true) (by kernel_rfl) rfl rfl (by kernel_rfl) (run_asgK rfl (by kernel_rfl)) hS3 rfl (L' := #[true, true, true, true, true, true, true, true, true, true, true, true]) (by kernel_rfl) ?_
  try simp only [List.setIfInBounds_toArray, List.set_cons_zero, List.set_cons_succ]
  refine z_done (by kernel_rfl) ?_ _
  refine hN _ _ ?_
  clear hP hN hns
  clear hS
  go_wp2
  go_ret
  exact ⟨rfl, p, X2, r, _, hb3.out, HBE.out.trans hb3.below⟩
end Go.Proofs.Ytkfomolglangdaa
