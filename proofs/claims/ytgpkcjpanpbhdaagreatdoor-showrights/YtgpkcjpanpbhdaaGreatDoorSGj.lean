/- texts put together: SReadA SReadB SMod1 SReadC SShown -/
import Derived.Test.YtgpkcjpanpbhdaaGreatDoorSGi
import Derived.Test.YtgpkcjpanpbhdaaGreatDoorSGe
set_option maxRecDepth 100000
set_option maxHeartbeats 4000000
namespace Go.Proofs.YtgpkcjpanpbhdaaGreatDoor
open Go Go.RowKit
seal wpList in
theorem rdigit_49 (w : World) : Calls Tryz.prog 160 #[.int .u8 49] w fun e w' => e = .returned (.bool true) ∧ Below w.heap.size w w' := by
 have HB0 := hid (Below.refl w.heap.size w)
 go_enter Tryz.func160, Tryz.ntmps160
 go_upto_region 0 with fail
 refine rl ?_
 refine qv (.bool false) ?_
 simp only [nA, nB, nC]
 refine we ?_
 go_upto_region 1 with fail
 refine rl ?_
 refine qv (.int .u8 49) ?_
 refine qv (.bool true) ?_
 refine qv (.bool true) ?_
 simp only [nA, nB, nC]
 refine qg (.int .u8 49) rfl ?_
 simp only [nA, nB, nC]
 refine qg (.bool true) rfl ?_
 simp only [nA, nB, nC]
 refine qv (.bool true) ?_
 refine qv (.bool true) ?_
 simp only [nA, nB, nC]
 refine we ?_
 go_wp2_with fail
 go_ret
 exact ⟨rfl, HB0.out⟩
seal wpList in
theorem rdigit_46 (w : World) : Calls Tryz.prog 160 #[.int .u8 46] w fun e w' => e = .returned (.bool false) ∧ Below w.heap.size w w' := by
 have HB0 := hid (Below.refl w.heap.size w)
 go_enter Tryz.func160, Tryz.ntmps160
 go_upto_region 0 with fail
 refine rl ?_
 refine qv (.bool false) ?_
 simp only [nA, nB, nC]
 refine we ?_
 go_upto_region 1 with fail
 refine rl ?_
 refine qv (.int .u8 46) ?_
 refine qv (.bool false) ?_
 refine qv (.bool false) ?_
 simp only [nA, nB, nC]
 refine qs rfl ?_
 simp only [nA, nB, nC]
 refine qs rfl ?_
 simp only [nA, nB, nC]
 refine qv (.bool false) ?_
 refine qv (.bool false) ?_
 simp only [nA, nB, nC]
 refine we ?_
 go_wp2_with fail
 go_ret
 exact ⟨rfl, HB0.out⟩
seal wpList in
theorem rdigit_53 (w : World) : Calls Tryz.prog 160 #[.int .u8 53] w fun e w' => e = .returned (.bool true) ∧ Below w.heap.size w w' := by
 have HB0 := hid (Below.refl w.heap.size w)
 go_enter Tryz.func160, Tryz.ntmps160
 go_upto_region 0 with fail
 refine rl ?_
 refine qv (.bool false) ?_
 simp only [nA, nB, nC]
 refine we ?_
 go_upto_region 1 with fail
 refine rl ?_
 refine qv (.int .u8 53) ?_
 refine qv (.bool true) ?_
 refine qv (.bool true) ?_
 simp only [nA, nB, nC]
 refine qg (.int .u8 53) rfl ?_
 simp only [nA, nB, nC]
 refine qg (.bool true) rfl ?_
 simp only [nA, nB, nC]
 refine qv (.bool true) ?_
 refine qv (.bool true) ?_
 simp only [nA, nB, nC]
 refine we ?_
 go_wp2_with fail
 go_ret
 exact ⟨rfl, HB0.out⟩
seal wpList in
theorem rparse15 (w : World) : Calls Tryz.prog 125 #[strV [49, 46, 53]] w fun e w' => e = .returned (.tuple #[.int .i64 1500000, .bool true]) ∧ Below w.heap.size w w' := by
 have HB0 := hid (Below.refl w.heap.size w)
 go_enter Tryz.func125, Tryz.ntmps125
 go_upto_region 0 with fail
 refine rl ?_
 refine qv (.int .i64 0) ?_
 refine qv (.bool false) ?_
 simp only [nA, nB, nC]
 refine we ?_
 go_upto_region 1 with fail
 refine rl ?_
 refine qv (strV [49, 46, 53]) ?_
 refine qv (.int .i64 3) ?_
 refine qv (.bool true) ?_
 refine qv (.bool true) ?_
 simp only [nA, nB, nC]
 refine qg (strV [49, 46, 53]) rfl ?_
 simp only [nA, nB, nC]
 refine qg (.int .u8 49) rfl ?_
 simp only [nA, nB, nC]
 refine qg (.bool false) rfl ?_
 simp only [nA, nB, nC]
 refine qv (.bool false) ?_
 refine qv (.bool false) ?_
 simp only [nA, nB, nC]
 refine we ?_
 go_upto_region 2 with fail
 refine rl ?_
 refine qv (.bool false) ?_
 simp only [nA, nB, nC]
 refine we ?_
 go_upto_region 4 with fail
 refine rl ?_
 refine qv (.int .i64 0) ?_
 simp only [nA, nB, nC]
 refine we ?_
 go_wp2_with fail
 go_loopw [5] (fun v5 wr => ((v5 = (.int .i64 0)) ∨ (v5 = (.int .i64 1))) ∧ Below w.heap.size w wr) (fun v5 _ => 2 - (intOf v5).toNat)
 case atStart =>
  exact ⟨.inl rfl, HB0.out⟩
 case round =>
  obtain ⟨hst, hF⟩ := hrel
  clear HB0
  have HB0 := hid hF
  clear hF
  rcases hst with rfl | rfl
  ·skip
   go_upto_region 5 with fail
   refine rl ?_
   refine qv (.int .i64 0) ?_
   refine qv (strV [49, 46, 53]) ?_
   refine qv (.int .i64 3) ?_
   refine qv (.bool true) ?_
   simp only [nA, nB, nC]
   refine qv (.bool true) ?_
   simp only [nA, nB, nC]
   refine qg (strV [49, 46, 53]) rfl ?_
   simp only [nA, nB, nC]
   refine qg (.int .i64 0) rfl ?_
   simp only [nA, nB, nC]
   refine qg (.int .u8 49) rfl ?_
   simp only [nA, nB, nC]
   refine wp_callg (f := 160) (args := #[(.int .u8 49)]) rfl (by kernel_rfl) (enter_go rfl (by kernel_rfl) (fun w => by go_simp)) ?_
   have HCA := hid (rdigit_49 wr)
   refine HCA.out.mono ?_
   rintro e w1 ⟨rfl, (HB2 : Hid _)⟩
   refine ⟨_, rfl, ?_⟩
   replace HB0 := kb HB0 HB2
   try simp only [nA, nB, nC]
   refine qv (.bool true) ?_
   simp only [nA, nB, nC]
   refine we ?_
   go_upto_region 6 with fail
   refine rl ?_
   refine qv (.int .i64 0) ?_
   refine qv (.int .i64 1) ?_
   refine qv (.int .i64 1) ?_
   simp only [nA, nB, nC]
   refine we ?_
   go_wp2_with fail
   exact ⟨⟨.inr (rfl), HB0.out⟩, by simp [intOf]⟩
  ·skip
   go_upto_region 5 with fail
   refine rl ?_
   refine qv (.int .i64 1) ?_
   refine qv (strV [49, 46, 53]) ?_
   refine qv (.int .i64 3) ?_
   refine qv (.bool true) ?_
   simp only [nA, nB, nC]
   refine qv (.bool true) ?_
   simp only [nA, nB, nC]
   refine qg (strV [49, 46, 53]) rfl ?_
   simp only [nA, nB, nC]
   refine qg (.int .i64 1) rfl ?_
   simp only [nA, nB, nC]
   refine qg (.int .u8 46) rfl ?_
   simp only [nA, nB, nC]
   refine wp_callg (f := 160) (args := #[(.int .u8 46)]) rfl (by kernel_rfl) (enter_go rfl (by kernel_rfl) (fun w => by go_simp)) ?_
   have HCA := hid (rdigit_46 wr)
   refine HCA.out.mono ?_
   rintro e w3 ⟨rfl, (HB4 : Hid _)⟩
   refine ⟨_, rfl, ?_⟩
   replace HB0 := kb HB0 HB4
   try simp only [nA, nB, nC]
   refine qv (.bool false) ?_
   simp only [nA, nB, nC]
   refine we ?_
   go_upto_region 7 with fail
   refine rl ?_
   refine qv (.int .i64 1) ?_
   refine qv (.bool false) ?_
   refine qv (.bool false) ?_
   simp only [nA, nB, nC]
   refine qg (.int .i64 1) rfl ?_
   simp only [nA, nB, nC]
   refine qg (.bool false) rfl ?_
   simp only [nA, nB, nC]
   refine qv (.bool false) ?_
   refine qv (.bool false) ?_
   simp only [nA, nB, nC]
   refine qg (.int .i64 1) rfl ?_
   simp only [nA, nB, nC]
   refine qg (.bool false) rfl ?_
   simp only [nA, nB, nC]
   refine qg (.bool false) rfl ?_
   simp only [nA, nB, nC]
   refine qs rfl ?_
   simp only [nA, nB, nC]
   refine qs rfl ?_
   simp only [nA, nB, nC]
   refine qs rfl ?_
   simp only [nA, nB, nC]
   refine qg (.bool false) rfl ?_
   simp only [nA, nB, nC]
   refine qv (.bool false) ?_
   simp only [nA, nB, nC]
   refine we ?_
   go_upto_region 9 with fail
   refine rl ?_
   refine qv (.int .i64 0) ?_
   simp only [nA, nB, nC]
   refine we ?_
   go_upto_region 10 with fail
   refine rl ?_
   refine qv (.int .i64 1) ?_
   refine qv (strV [49, 46, 53]) ?_
   refine qv (.int .i64 3) ?_
   refine qv (.bool true) ?_
   simp only [nA, nB, nC]
   refine we ?_
   go_upto_region 11 with fail
   refine rl ?_
   refine qv (strV [49, 46, 53]) ?_
   refine qv (.int .i64 3) ?_
   refine qv (.int .i64 1) ?_
   refine qv (.int .i64 2) ?_
   simp only [nA, nB, nC]
   refine qv (.int .i64 1) ?_
   refine qv (.int .i64 1) ?_
   simp only [nA, nB, nC]
   refine we ?_
   go_upto_region 12 with fail
   refine rl ?_
   refine qv (strV [49, 46, 53]) ?_
   refine qv (.int .i64 1) ?_
   refine qv (.int .u8 46) ?_
   refine qv (.bool false) ?_
   simp only [nA, nB, nC]
   refine qv (.bool false) ?_
   simp only [nA, nB, nC]
   refine qg (.int .i64 1) rfl ?_
   simp only [nA, nB, nC]
   refine qg (.bool false) rfl ?_
   simp only [nA, nB, nC]
   refine qv (.bool false) ?_
   refine qv (.bool false) ?_
   simp only [nA, nB, nC]
   refine qg (.int .i64 1) rfl ?_
   simp only [nA, nB, nC]
   refine qg (.bool false) rfl ?_
   simp only [nA, nB, nC]
   refine qv (.bool false) ?_
   simp only [nA, nB, nC]
   refine we ?_
   go_upto_region 14 with fail
   refine rl ?_
   refine qv (.int .i64 0) ?_
   simp only [nA, nB, nC]
   refine we ?_
   go_upto_region 15 with fail
   refine rl ?_
   refine qv (.int .i64 0) ?_
   simp only [nA, nB, nC]
   refine we ?_
   go_wp2_with fail
   go_loopw [7, 8] (fun v7 v8 wr => ((v7 = (.int .i64 0) ∧ v8 = (.int .i64 0)) ∨ (v7 = (.int .i64 1) ∧ v8 = (.int .i64 1))) ∧ Below w.heap.size w wr) (fun v7 _ _ => 2 - (intOf v7).toNat)
   case atStart =>
    exact ⟨.inl ⟨rfl, rfl⟩, HB0.out⟩
   case round =>
    obtain ⟨hst, hF⟩ := hrel
    clear HB0
    have HB0 := hid hF
    clear hF
    rcases hst with ⟨rfl, rfl⟩ | ⟨rfl, rfl⟩
    ·skip
     go_upto_region 16 with fail
     refine rl ?_
     refine qv (.int .i64 0) ?_
     refine qv (.int .i64 1) ?_
     refine qv (.bool true) ?_
     simp only [nA, nB, nC]
     refine we ?_
     go_upto_region 18 with fail
     refine rl ?_
     refine qv (.int .i64 0) ?_
     refine qv (.int .i64 0) ?_
     refine qv (strV [49, 46, 53]) ?_
     refine qv (.int .i64 0) ?_
     simp only [nA, nB, nC]
     refine qv (.int .u8 49) ?_
     refine qv (.int .u8 1) ?_
     refine qv (.int .i64 1) ?_
     refine qv (.int .i64 1) ?_
     simp only [nA, nB, nC]
     refine qv (.int .i64 1) ?_
     simp only [nA, nB, nC]
     refine we ?_
     go_upto_region 17 with fail
     refine rl ?_
     refine qv (.int .i64 0) ?_
     refine qv (.int .i64 1) ?_
     refine qv (.int .i64 1) ?_
     simp only [nA, nB, nC]
     refine we ?_
     go_wp2_with fail
     exact ⟨⟨.inr (⟨rfl, rfl⟩), HB0.out⟩, by simp [intOf]⟩
    ·skip
     go_upto_region 16 with fail
     refine rl ?_
     refine qv (.int .i64 1) ?_
     refine qv (.int .i64 1) ?_
     refine qv (.bool false) ?_
     simp only [nA, nB, nC]
     refine we ?_
     go_upto_region 19 with fail
     refine rl ?_
     refine qv (.int .i64 0) ?_
     simp only [nA, nB, nC]
     refine we ?_
     go_wp2_with fail
     go_loopw [2, 3, 7, 9] (fun v2 v3 v7 v9 wr => ((v2 = (.int .i64 0) ∧ v3 = (.bool false) ∧ v7 = (.int .i64 1) ∧ v9 = (.int .i64 0)) ∨ (v2 = (.int .i64 0) ∧ v3 = (.bool false) ∧ v7 = (.int .i64 15) ∧ v9 = (.int .i64 1)) ∨ (v2 = (.int .i64 0) ∧ v3 = (.bool false) ∧ v7 = (.int .i64 150) ∧ v9 = (.int .i64 2)) ∨ (v2 = (.int .i64 0) ∧ v3 = (.bool false) ∧ v7 = (.int .i64 1500) ∧ v9 = (.int .i64 3)) ∨ (v2 = (.int .i64 0) ∧ v3 = (.bool false) ∧ v7 = (.int .i64 15000) ∧ v9 = (.int .i64 4)) ∨ (v2 = (.int .i64 0) ∧ v3 = (.bool false) ∧ v7 = (.int .i64 150000) ∧ v9 = (.int .i64 5)) ∨ (v2 = (.int .i64 0) ∧ v3 = (.bool false) ∧ v7 = (.int .i64 1500000) ∧ v9 = (.int .i64 6))) ∧ Below w.heap.size w wr) (fun _ _ v7 _ _ => 1500001 - (intOf v7).toNat)
     case atStart =>
      exact ⟨.inl ⟨rfl, rfl, rfl, rfl⟩, HB0.out⟩
     case round =>
      obtain ⟨hst, hF⟩ := hrel
      clear HB0
      have HB0 := hid hF
      clear hF
      rcases hst with ⟨rfl, rfl, rfl, rfl⟩ | ⟨rfl, rfl, rfl, rfl⟩ | ⟨rfl, rfl, rfl, rfl⟩ | ⟨rfl, rfl, rfl, rfl⟩ | ⟨rfl, rfl, rfl, rfl⟩ | ⟨rfl, rfl, rfl, rfl⟩ | ⟨rfl, rfl, rfl, rfl⟩
      ·skip
       go_upto_region 20 with fail
       refine rl ?_
       refine qv (.int .i64 0) ?_
       refine qv (.bool true) ?_
       simp only [nA, nB, nC]
       refine we ?_
       go_upto_region 22 with fail
       refine rl ?_
       refine qv (.int .i64 1) ?_
       refine qv (.int .i64 10) ?_
       refine qv (.int .i64 10) ?_
       simp only [nA, nB, nC]
       refine we ?_
       go_upto_region 23 with fail
       refine rl ?_
       refine qv (.int .i64 0) ?_
       refine qv (.int .i64 1) ?_
       refine qv (.bool true) ?_
       simp only [nA, nB, nC]
       refine we ?_
       go_upto_region 24 with fail
       refine rl ?_
       refine qv (strV [49, 46, 53]) ?_
       refine qv (.int .i64 1) ?_
       refine qv (.int .i64 2) ?_
       refine qv (.int .i64 0) ?_
       simp only [nA, nB, nC]
       refine qv (.int .i64 2) ?_
       refine qv (.int .u8 53) ?_
       refine qv (.int .u8 53) ?_
       simp only [nA, nB, nC]
       refine we ?_
       go_upto_region 25 with fail
       refine rl ?_
       refine qv (.int .u8 53) ?_
       simp only [nA, nB, nC]
       refine qc #[(.int .u8 53)] ?_
       have HCA := hid (rdigit_53 wr)
       refine HCA.out.mono ?_
       rintro e w5 ⟨rfl, (HB6 : Hid _)⟩
       refine ⟨_, rfl, ?_⟩
       replace HB0 := kb HB0 HB6
       try simp only [Act.put, nA, nB, nC]
       refine qv (.bool true) ?_
       simp only [nA, nB, nC]
       refine we ?_
       go_upto_region 26 with fail
       refine rl ?_
       refine qv (.bool true) ?_
       simp only [nA, nB, nC]
       refine wp_y (v := (.bool false)) rfl rfl (y_un (p := .bool true) rfl (by kernel_rfl) (by kernel_rfl) (fun w => qnotB true w)) rfl ?_
       simp only [nA, nB, nC]
       refine we ?_
       go_upto_region 28 with fail
       refine rl ?_
       refine qv (.int .i64 10) ?_
       refine qv (.int .u8 53) ?_
       refine qv (.int .u8 5) ?_
       refine qv (.int .i64 5) ?_
       simp only [nA, nB, nC]
       refine qv (.int .i64 15) ?_
       refine qv (.int .i64 15) ?_
       simp only [nA, nB, nC]
       refine we ?_
       go_upto_region 21 with fail
       refine rl ?_
       refine qv (.int .i64 0) ?_
       refine qv (.int .i64 1) ?_
       refine qv (.int .i64 1) ?_
       simp only [nA, nB, nC]
       refine we ?_
       go_wp2_with fail
       exact ⟨⟨.inr (.inl ⟨rfl, rfl, rfl, rfl⟩), HB0.out⟩, by simp [intOf]⟩
      ·skip
       go_upto_region 20 with fail
       refine rl ?_
       refine qv (.int .i64 1) ?_
       refine qv (.bool true) ?_
       simp only [nA, nB, nC]
       refine we ?_
       go_upto_region 22 with fail
       refine rl ?_
       refine qv (.int .i64 15) ?_
       refine qv (.int .i64 150) ?_
       refine qv (.int .i64 150) ?_
       simp only [nA, nB, nC]
       refine we ?_
       go_upto_region 23 with fail
       refine rl ?_
       refine qv (.int .i64 1) ?_
       refine qv (.int .i64 1) ?_
       refine qv (.bool false) ?_
       simp only [nA, nB, nC]
       refine we ?_
       go_upto_region 21 with fail
       refine rl ?_
       refine qv (.int .i64 1) ?_
       refine qv (.int .i64 2) ?_
       refine qv (.int .i64 2) ?_
       simp only [nA, nB, nC]
       refine we ?_
       go_wp2_with fail
       exact ⟨⟨.inr (.inr (.inl ⟨rfl, rfl, rfl, rfl⟩)), HB0.out⟩, by simp [intOf]⟩
      ·skip
       go_upto_region 20 with fail
       refine rl ?_
       refine qv (.int .i64 2) ?_
       refine qv (.bool true) ?_
       simp only [nA, nB, nC]
       refine we ?_
       go_upto_region 22 with fail
       refine rl ?_
       refine qv (.int .i64 150) ?_
       refine qv (.int .i64 1500) ?_
       refine qv (.int .i64 1500) ?_
       simp only [nA, nB, nC]
       refine we ?_
       go_upto_region 23 with fail
       refine rl ?_
       refine qv (.int .i64 2) ?_
       refine qv (.int .i64 1) ?_
       refine qv (.bool false) ?_
       simp only [nA, nB, nC]
       refine we ?_
       go_upto_region 21 with fail
       refine rl ?_
       refine qv (.int .i64 2) ?_
       refine qv (.int .i64 3) ?_
       refine qv (.int .i64 3) ?_
       simp only [nA, nB, nC]
       refine we ?_
       go_wp2_with fail
       exact ⟨⟨.inr (.inr (.inr (.inl ⟨rfl, rfl, rfl, rfl⟩))), HB0.out⟩, by simp [intOf]⟩
      ·skip
       go_upto_region 20 with fail
       refine rl ?_
       refine qv (.int .i64 3) ?_
       refine qv (.bool true) ?_
       simp only [nA, nB, nC]
       refine we ?_
       go_upto_region 22 with fail
       refine rl ?_
       refine qv (.int .i64 1500) ?_
       refine qv (.int .i64 15000) ?_
       refine qv (.int .i64 15000) ?_
       simp only [nA, nB, nC]
       refine we ?_
       go_upto_region 23 with fail
       refine rl ?_
       refine qv (.int .i64 3) ?_
       refine qv (.int .i64 1) ?_
       refine qv (.bool false) ?_
       simp only [nA, nB, nC]
       refine we ?_
       go_upto_region 21 with fail
       refine rl ?_
       refine qv (.int .i64 3) ?_
       refine qv (.int .i64 4) ?_
       refine qv (.int .i64 4) ?_
       simp only [nA, nB, nC]
       refine we ?_
       go_wp2_with fail
       exact ⟨⟨.inr (.inr (.inr (.inr (.inl ⟨rfl, rfl, rfl, rfl⟩)))), HB0.out⟩, by simp [intOf]⟩
      ·skip
       go_upto_region 20 with fail
       refine rl ?_
       refine qv (.int .i64 4) ?_
       refine qv (.bool true) ?_
       simp only [nA, nB, nC]
       refine we ?_
       go_upto_region 22 with fail
       refine rl ?_
       refine qv (.int .i64 15000) ?_
       refine qv (.int .i64 150000) ?_
       refine qv (.int .i64 150000) ?_
       simp only [nA, nB, nC]
       refine we ?_
       go_upto_region 23 with fail
       refine rl ?_
       refine qv (.int .i64 4) ?_
       refine qv (.int .i64 1) ?_
       refine qv (.bool false) ?_
       simp only [nA, nB, nC]
       refine we ?_
       go_upto_region 21 with fail
       refine rl ?_
       refine qv (.int .i64 4) ?_
       refine qv (.int .i64 5) ?_
       refine qv (.int .i64 5) ?_
       simp only [nA, nB, nC]
       refine we ?_
       go_wp2_with fail
       exact ⟨⟨.inr (.inr (.inr (.inr (.inr (.inl ⟨rfl, rfl, rfl, rfl⟩))))), HB0.out⟩, by simp [intOf]⟩
      ·skip
       go_upto_region 20 with fail
       refine rl ?_
       refine qv (.int .i64 5) ?_
       refine qv (.bool true) ?_
       simp only [nA, nB, nC]
       refine we ?_
       go_upto_region 22 with fail
       refine rl ?_
       refine qv (.int .i64 150000) ?_
       refine qv (.int .i64 1500000) ?_
       refine qv (.int .i64 1500000) ?_
       simp only [nA, nB, nC]
       refine we ?_
       go_upto_region 23 with fail
       refine rl ?_
       refine qv (.int .i64 5) ?_
       refine qv (.int .i64 1) ?_
       refine qv (.bool false) ?_
       simp only [nA, nB, nC]
       refine we ?_
       go_upto_region 21 with fail
       refine rl ?_
       refine qv (.int .i64 5) ?_
       refine qv (.int .i64 6) ?_
       refine qv (.int .i64 6) ?_
       simp only [nA, nB, nC]
       refine we ?_
       go_wp2_with fail
       exact ⟨⟨.inr (.inr (.inr (.inr (.inr (.inr (⟨rfl, rfl, rfl, rfl⟩)))))), HB0.out⟩, by simp [intOf]⟩
      ·skip
       go_upto_region 20 with fail
       refine rl ?_
       refine qv (.int .i64 6) ?_
       refine qv (.bool false) ?_
       simp only [nA, nB, nC]
       refine we ?_
       go_upto_region 29 with fail
       refine rl ?_
       refine qv (.int .i64 1500000) ?_
       refine qv (.bool false) ?_
       refine qv (.bool false) ?_
       simp only [nA, nB, nC]
       refine qg (.bool false) rfl ?_
       simp only [nA, nB, nC]
       refine qg (.bool false) rfl ?_
       simp only [nA, nB, nC]
       refine qs rfl ?_
       simp only [nA, nB, nC]
       refine qs rfl ?_
       simp only [nA, nB, nC]
       refine qg (.bool false) rfl ?_
       simp only [nA, nB, nC]
       refine qv (.bool false) ?_
       simp only [nA, nB, nC]
       refine we ?_
       go_upto_region 31 with fail
       refine rl ?_
       refine qv (.bool false) ?_
       simp only [nA, nB, nC]
       refine we ?_
       go_upto_region 33 with fail
       refine rl ?_
       refine qv (.int .i64 1500000) ?_
       refine qv (.int .i64 1500000) ?_
       refine qv (.bool true) ?_
       simp only [nA, nB, nC]
       refine we ?_
       go_wp2_with fail
       go_ret2
       exact ⟨rfl, HB0.out⟩
seal wpList in
theorem isDate_8 (w : World) : Calls Tryz.prog 123 #[strV [97, 32, 45, 32, 98, 32, 45, 32, 49, 46, 53], .int .i64 8] w fun e w' => e = .returned (.bool false) ∧ Below w.heap.size w w' := by
 have HB0 := hid (Below.refl w.heap.size w)
 go_enter Tryz.func123, Tryz.ntmps123
 go_upto_region 0 with fail
 refine rl ?_
 refine qv (.bool false) ?_
 simp only [nA, nB, nC]
 refine we ?_
 go_upto_region 1 with fail
 refine rl ?_
 refine qv (strV [100, 100, 100, 100, 45, 100, 100, 45, 100, 100]) ?_
 simp only [nA, nB, nC]
 refine we ?_
 go_upto_region 2 with fail
 refine rl ?_
 refine qv (strV [97, 32, 45, 32, 98, 32, 45, 32, 49, 46, 53]) ?_
 refine qv (.int .i64 11) ?_
 refine qv (.int .i64 8) ?_
 refine qv (.int .i64 3) ?_
 simp only [nA, nB, nC]
 refine qv (strV [100, 100, 100, 100, 45, 100, 100, 45, 100, 100]) ?_
 refine qv (.int .i64 10) ?_
 refine qv (.bool true) ?_
 simp only [nA, nB, nC]
 refine we ?_
 go_upto_region 3 with fail
 refine rl ?_
 refine qv (.bool false) ?_
 simp only [nA, nB, nC]
 refine we ?_
 go_wp2_with fail
 go_ret
 exact ⟨rfl, HB0.out⟩
seal wpList in
theorem number_8 (w : World) : Calls Tryz.prog 89 #[strV [97, 32, 45, 32, 98, 32, 45, 32, 49, 46, 53], .int .i64 8] w fun e w' => e = .returned (.tuple #[(.agg #[(.int .i64 6), (strV []), (.int .i64 1500000), (.int .i64 8)]), .int .i64 3, .int .i64 0]) ∧ Below w.heap.size w w' := by
 have HB0 := hid (Below.refl w.heap.size w)
 go_enter Tryz.func89, Tryz.ntmps89
 go_upto_region 0 with fail
 refine rl ?_
 obtain ⟨w3, g1, (HX : Hid _), (K2 : Hid _), (HB4 : Hid _), (GV : Hid _)⟩ := alh_usanceref07_Token w
 have GE_g1 := kh HB0 GV
 refine wp_run (v := (.pointer (some ⟨g1, 0, none⟩))) rfl rfl (run_alOp rfl HX.out) rfl ?_
 try simp only [nA, nB, nC]
 replace HB0 := kb HB0 HB4
 refine qv (.int .i64 0) ?_
 refine qv (.int .i64 0) ?_
 simp only [nA, nB, nC]
 refine we ?_
 go_upto_region 1 with fail
 refine rl ?_
 refine qv (.int .i64 8) ?_
 simp only [nA, nB, nC]
 refine wp_y (v := (.agg #[(.int .i64 0), (strV []), (.int .i64 0), (.int .i64 8)])) rfl rfl (y_val2 rfl (h := fun w' h => by rw [h]; exact run_buildOp rfl (by kernel_rfl) (bu_usanceref07_Token_3 w3 8))) rfl ?_
 simp only [nA, nB, nC]
 obtain ⟨wv, w7, g5, hx1, hx2, hbk, hbb, hge⟩ := var_usanceref07_Token w3 0 [] 0 8
 have K6 := hid hbk
 have HBV := hid hbb
 have HX1 := hid hx1
 have HX2 := hid hx2
 have GV := hid hge
 clear hx1 hx2 hbk hbb hge
 refine wp_run (v := (.pointer (some ⟨g5, 0, none⟩))) rfl rfl (run_alOp rfl HX1.out) rfl ?_
 try simp only [nA, nB, nC]
 refine wp_do rfl rfl (run_storeOp rfl (by kernel_rfl) (by kernel_rfl) HX2.out) ?_
 try simp only [nA, nB, nC]
 clear HX1 HX2
 have NE_g1_g5 := kn K2 GV
 have GE_g5 := kh HB0 GV
 replace K2 := ka HBV K2
 replace HB0 := kb HB0 HBV
 clear HBV GV
 refine we ?_
 go_upto_region 2 with fail
 refine rl ?_
 refine qv (.int .i64 10) ?_
 simp only [nA, nB, nC]
 refine we ?_
 go_upto_region 3 with fail
 refine rl ?_
 refine qv (strV [97, 32, 45, 32, 98, 32, 45, 32, 49, 46, 53]) ?_
 refine qv (.int .i64 8) ?_
 simp only [nA, nB, nC]
 refine qc #[(strV [97, 32, 45, 32, 98, 32, 45, 32, 49, 46, 53]), (.int .i64 8)] ?_
 have HCA := hid (isDate_8 w7)
 refine HCA.out.mono ?_
 rintro e w8 ⟨rfl, (HB9 : Hid _)⟩
 refine ⟨_, rfl, ?_⟩
 replace K2 := ka HB9 K2
 replace K6 := ka HB9 K6
 replace HB0 := kb HB0 HB9
 try simp only [Act.put, nA, nB, nC]
 refine qv (.bool false) ?_
 simp only [nA, nB, nC]
 refine we ?_
 go_upto_region 4 with fail
 refine rl ?_
 refine qv (.bool false) ?_
 simp only [nA, nB, nC]
 refine we ?_
 go_upto_region 10 with fail
 refine rl ?_
 refine qv (.int .i64 1) ?_
 simp only [nA, nB, nC]
 refine we ?_
 go_wp2_with fail
 go_loopw [8] (fun v8 wr => ((v8 = (.int .i64 1))) ∧ Below w.heap.size w wr ∧ wr.heap[g1]? = some (.cells #[(.int .i64 0), (strV []), (.int .i64 0), (.int .i64 0)] 75 (0, 0)) ∧ wr.heap[g5]? = some (.cells #[(.int .i64 0), (strV []), (.int .i64 0), (.int .i64 8)] 75 (0, 0))) (fun v8 _ => 2 - (intOf v8).toNat)
 case atStart =>
  exact ⟨rfl, HB0.out, K2.out, K6.out⟩
 case round =>
  obtain ⟨hst, hF, hk0, hk1⟩ := hrel
  clear HB0
  have HB0 := hid hF
  clear hF
  clear K2
  have K2 := hid hk0
  clear hk0
  clear K6
  have K6 := hid hk1
  clear hk1
  obtain rfl := hst
  go_upto_region 11 with fail
  refine rl ?_
  refine qv (.int .i64 8) ?_
  refine qv (.int .i64 1) ?_
  refine qv (.int .i64 9) ?_
  refine qv (strV [97, 32, 45, 32, 98, 32, 45, 32, 49, 46, 53]) ?_
  simp only [nA, nB, nC]
  refine qv (.int .i64 11) ?_
  refine qv (.bool true) ?_
  refine qv (.bool true) ?_
  simp only [nA, nB, nC]
  refine qg (strV [97, 32, 45, 32, 98, 32, 45, 32, 49, 46, 53]) rfl ?_
  simp only [nA, nB, nC]
  refine qg (.int .i64 8) rfl ?_
  simp only [nA, nB, nC]
  refine qg (.int .i64 1) rfl ?_
  simp only [nA, nB, nC]
  refine qg (.int .i64 9) rfl ?_
  simp only [nA, nB, nC]
  refine qg (.int .u8 46) rfl ?_
  simp only [nA, nB, nC]
  refine wp_callg (f := 88) (args := #[(.int .u8 46)]) rfl (by kernel_rfl) (enter_go rfl (by kernel_rfl) (fun w => by go_simp)) ?_
  have HCA := hid (digit8_any 46 wr)
  refine HCA.out.mono ?_
  rintro e wz ⟨he, hwz⟩
  rw [(show btw 48 57 46 = false from rfl)] at he
  subst he
  refine ⟨_, rfl, ?_⟩
  obtain rfl := hwz.symm
  try simp only [nA, nB, nC]
  refine qv (.bool false) ?_
  simp only [nA, nB, nC]
  refine we ?_
  go_upto_region 13 with fail
  refine rl ?_
  refine qv (.int .i64 8) ?_
  refine qv (.int .i64 1) ?_
  refine qv (.int .i64 9) ?_
  refine qv (.int .i64 10) ?_
  simp only [nA, nB, nC]
  refine qv (strV [97, 32, 45, 32, 98, 32, 45, 32, 49, 46, 53]) ?_
  refine qv (.int .i64 11) ?_
  refine qv (.bool true) ?_
  refine qv (.bool true) ?_
  simp only [nA, nB, nC]
  refine qg (strV [97, 32, 45, 32, 98, 32, 45, 32, 49, 46, 53]) rfl ?_
  simp only [nA, nB, nC]
  refine qg (.int .i64 8) rfl ?_
  simp only [nA, nB, nC]
  refine qg (.int .i64 1) rfl ?_
  simp only [nA, nB, nC]
  refine qg (.int .i64 9) rfl ?_
  simp only [nA, nB, nC]
  refine qg (.int .u8 46) rfl ?_
  simp only [nA, nB, nC]
  refine qg (.bool true) rfl ?_
  simp only [nA, nB, nC]
  refine qv (.bool true) ?_
  refine qv (.bool true) ?_
  simp only [nA, nB, nC]
  refine qg (strV [97, 32, 45, 32, 98, 32, 45, 32, 49, 46, 53]) rfl ?_
  simp only [nA, nB, nC]
  refine qg (.int .i64 8) rfl ?_
  simp only [nA, nB, nC]
  refine qg (.int .i64 1) rfl ?_
  simp only [nA, nB, nC]
  refine qg (.int .i64 9) rfl ?_
  simp only [nA, nB, nC]
  refine qg (.int .i64 10) rfl ?_
  simp only [nA, nB, nC]
  refine qg (.int .u8 53) rfl ?_
  simp only [nA, nB, nC]
  refine wp_callg (f := 88) (args := #[(.int .u8 53)]) rfl (by kernel_rfl) (enter_go rfl (by kernel_rfl) (fun w => by go_simp)) ?_
  have HCA := hid (digit8_any 53 wr)
  refine HCA.out.mono ?_
  rintro e wz ⟨he, hwz⟩
  rw [(show btw 48 57 53 = true from rfl)] at he
  subst he
  refine ⟨_, rfl, ?_⟩
  obtain rfl := hwz.symm
  try simp only [nA, nB, nC]
  refine qv (.bool true) ?_
  simp only [nA, nB, nC]
  refine we ?_
  go_upto_region 14 with fail
  refine rl ?_
  refine qv (.int .i64 1) ?_
  refine qv (.int .i64 3) ?_
  refine qv (.int .i64 3) ?_
  simp only [nA, nB, nC]
  refine we ?_
  go_wp2_with fail
  go_loopw [8] (fun v8 wr => ((v8 = (.int .i64 3))) ∧ Below w.heap.size w wr ∧ wr.heap[g1]? = some (.cells #[(.int .i64 0), (strV []), (.int .i64 0), (.int .i64 0)] 75 (0, 0)) ∧ wr.heap[g5]? = some (.cells #[(.int .i64 0), (strV []), (.int .i64 0), (.int .i64 8)] 75 (0, 0))) (fun v8 _ => 4 - (intOf v8).toNat)
  case atStart =>
   exact ⟨rfl, HB0.out, K2.out, K6.out⟩
  case round =>
   obtain ⟨hst, hF, hk0, hk1⟩ := hrel
   clear HB0
   have HB0 := hid hF
   clear hF
   clear K2
   have K2 := hid hk0
   clear hk0
   clear K6
   have K6 := hid hk1
   clear hk1
   obtain rfl := hst
   go_upto_region 15 with fail
   refine rl ?_
   refine qv (.int .i64 8) ?_
   refine qv (.int .i64 3) ?_
   refine qv (.int .i64 11) ?_
   refine qv (strV [97, 32, 45, 32, 98, 32, 45, 32, 49, 46, 53]) ?_
   simp only [nA, nB, nC]
   refine qv (.int .i64 11) ?_
   refine qv (.bool false) ?_
   refine qv (.bool false) ?_
   simp only [nA, nB, nC]
   refine qs rfl ?_
   simp only [nA, nB, nC]
   refine qs rfl ?_
   simp only [nA, nB, nC]
   refine qs rfl ?_
   simp only [nA, nB, nC]
   refine qs rfl ?_
   simp only [nA, nB, nC]
   refine qs rfl ?_
   simp only [nA, nB, nC]
   refine qs rfl ?_
   simp only [nA, nB, nC]
   refine qv (.bool false) ?_
   simp only [nA, nB, nC]
   refine we ?_
   go_upto_region 17 with fail
   refine rl ?_
   refine qv (strV [97, 32, 45, 32, 98, 32, 45, 32, 49, 46, 53]) ?_
   refine qv (.int .i64 8) ?_
   refine qv (.int .i64 8) ?_
   refine qv (.int .i64 3) ?_
   simp only [nA, nB, nC]
   refine qv (.int .i64 11) ?_
   refine qv (strV [49, 46, 53]) ?_
   simp only [nA, nB, nC]
   refine qc #[(strV [49, 46, 53])] ?_
   have HCA := hid (rparse15 wr)
   refine HCA.out.mono ?_
   rintro e w10 ⟨rfl, (HB11 : Hid _)⟩
   refine ⟨_, rfl, ?_⟩
   replace K2 := ka HB11 K2
   replace K6 := ka HB11 K6
   replace HB0 := kb HB0 HB11
   try simp only [Act.put, nA, nB, nC]
   refine qv (.tuple #[(.int .i64 1500000), (.bool true)]) ?_
   refine qv (.int .i64 1500000) ?_
   refine qv (.bool true) ?_
   refine qv (.int .i64 1500000) ?_
   simp only [nA, nB, nC]
   refine qv (.bool true) ?_
   simp only [nA, nB, nC]
   refine we ?_
   go_upto_region 18 with fail
   refine rl ?_
   refine qv (.bool true) ?_
   simp only [nA, nB, nC]
   refine wp_y (v := (.bool false)) rfl rfl (y_un (p := .bool true) rfl (by kernel_rfl) (by kernel_rfl) (fun w => qnotB true w)) rfl ?_
   simp only [nA, nB, nC]
   refine we ?_
   go_upto_region 20 with fail
   refine rl ?_
   refine qf (fa_usanceref07_Token_0 g5 0) ?_
   simp only [nA, nB, nC]
   obtain ⟨w12, hbx, hbk, hbf⟩ := st1_x sz_int (.int .i64 6) (c' := #[(.int .i64 6), (strV []), (.int .i64 0), (.int .i64 8)]) K6.out (i := 0) rfl rfl rfl rfl
   replace K6 := hid hbk
   have HF13 := hid hbf
   have HX := hid hbx
   clear hbx hbk hbf
   refine wp_do rfl rfl (run_storeOp rfl (by kernel_rfl) (by kernel_rfl) HX.out) ?_
   try simp only [nA, nB, nC]
   replace K2 := hid (Fr.at HF13.out K2.out (by simpa using NE_g1_g5.out))
   replace HB0 := hid (HB0.out.trans (HF13.out.below HB0.out.size (by simpa using GE_g5.out)))
   refine we ?_
   go_upto_region 21 with fail
   refine rl ?_
   refine qv (.int .i64 1500000) ?_
   refine qf (fa_usanceref07_Token_2 g5 0) ?_
   simp only [nA, nB, nC]
   obtain ⟨w14, hbx, hbk, hbf⟩ := st1_x sz_int64 (.int .i64 1500000) (c' := #[(.int .i64 6), (strV []), (.int .i64 1500000), (.int .i64 8)]) K6.out (i := 2) rfl rfl rfl rfl
   replace K6 := hid hbk
   have HF15 := hid hbf
   have HX := hid hbx
   clear hbx hbk hbf
   refine wp_do rfl rfl (run_storeOp rfl (by kernel_rfl) (by kernel_rfl) HX.out) ?_
   try simp only [nA, nB, nC]
   replace K2 := hid (Fr.at HF15.out K2.out (by simpa using NE_g1_g5.out))
   replace HB0 := hid (HB0.out.trans (HF15.out.below HB0.out.size (by simpa using GE_g5.out)))
   refine we ?_
   go_upto_region 22 with fail
   refine rl ?_
   refine qv (.int .i64 8) ?_
   refine qv (.int .i64 3) ?_
   refine qv (.int .i64 11) ?_
   refine qv (strV [97, 32, 45, 32, 98, 32, 45, 32, 49, 46, 53]) ?_
   simp only [nA, nB, nC]
   refine qv (.int .i64 11) ?_
   refine qv (.bool false) ?_
   simp only [nA, nB, nC]
   refine we ?_
   go_upto_region 27 with fail
   refine rl ?_
   refine qk (.agg #[(.int .i64 6), (strV []), (.int .i64 1500000), (.int .i64 8)]) Tryz.isAgg75 K6 ?_
   refine qv (.int .i64 3) ?_
   simp only [nA, nB, nC]
   obtain ⟨w16, hbx, hbk, hbf⟩ := st_x (T := 75) (c := #[(.int .i64 0), (strV []), (.int .i64 0), (.int .i64 0)]) (c' := #[(.int .i64 6), (strV []), (.int .i64 1500000), (.int .i64 8)]) (by kernel_rfl) rfl rfl K2.out (by intro v hv; simp at hv; rcases hv with rfl | rfl | rfl | rfl <;> first | rfl | assumption)
   replace K2 := hid hbk
   have HF17 := hid hbf
   have HX := hid hbx
   clear hbx hbk hbf
   refine wp_do rfl rfl (run_storeOp rfl (by kernel_rfl) (by kernel_rfl) HX.out) ?_
   try simp only [nA, nB, nC]
   replace K6 := hid (Fr.at HF17.out K6.out (by simpa using (Ne.symm NE_g1_g5.out)))
   replace HB0 := hid (HB0.out.trans (HF17.out.below HB0.out.size (by simpa using GE_g1.out)))
   refine qv (.int .i64 3) ?_
   refine qv (.int .i64 0) ?_
   simp only [nA, nB, nC]
   refine we ?_
   go_wp2_with fail
   exact ret_three rfl rfl rfl (load_blk Tryz.isAgg75 (by kernel_rfl) rfl K2.out) ⟨rfl, HB0.out⟩
seal wpList in
theorem token_8 (w : World) : Calls Tryz.prog 57 #[strV [97, 32, 45, 32, 98, 32, 45, 32, 49, 46, 53], .int .i64 8] w fun e w' => e = .returned (.tuple #[(.agg #[(.int .i64 6), (strV []), (.int .i64 1500000), (.int .i64 8)]), .int .i64 3, .int .i64 0]) ∧ Below w.heap.size w w' := by
 have HB0 := hid (Below.refl w.heap.size w)
 go_enter Tryz.func57, Tryz.ntmps57
 go_upto_region 0 with fail
 refine rl ?_
 obtain ⟨w3, g1, (HX : Hid _), (K2 : Hid _), (HB4 : Hid _), (GV : Hid _)⟩ := alh_usanceref07_Token w
 have GE_g1 := kh HB0 GV
 refine wp_run (v := (.pointer (some ⟨g1, 0, none⟩))) rfl rfl (run_alOp rfl HX.out) rfl ?_
 try simp only [nA, nB, nC]
 replace HB0 := kb HB0 HB4
 refine qv (.int .i64 0) ?_
 refine qv (.int .i64 0) ?_
 simp only [nA, nB, nC]
 refine we ?_
 go_upto_region 1 with fail
 refine rl ?_
 refine qv (strV [97, 32, 45, 32, 98, 32, 45, 32, 49, 46, 53]) ?_
 refine qv (.int .i64 8) ?_
 refine qv (.int .u8 49) ?_
 refine qv (.int .u8 49) ?_
 simp only [nA, nB, nC]
 refine we ?_
 go_upto_region 2 with fail
 refine rl ?_
 refine qv (.int .u8 49) ?_
 simp only [nA, nB, nC]
 refine qc #[(.int .u8 49)] ?_
 have HCA := hid (small8_any 49 w3)
 refine HCA.out.mono ?_
 rintro e wz ⟨he, hwz⟩
 rw [(show btw 97 122 49 = false from rfl)] at he
 subst he
 refine ⟨_, rfl, ?_⟩
 obtain rfl := hwz.symm
 try simp only [Act.put, nA, nB, nC]
 refine qv (.bool false) ?_
 simp only [nA, nB, nC]
 refine we ?_
 go_upto_region 4 with fail
 refine rl ?_
 refine qv (.int .u8 49) ?_
 simp only [nA, nB, nC]
 refine qc #[(.int .u8 49)] ?_
 have HCA := hid (digit8_any 49 w3)
 refine HCA.out.mono ?_
 rintro e wz ⟨he, hwz⟩
 rw [(show btw 48 57 49 = true from rfl)] at he
 subst he
 refine ⟨_, rfl, ?_⟩
 obtain rfl := hwz.symm
 try simp only [Act.put, nA, nB, nC]
 refine qv (.bool true) ?_
 simp only [nA, nB, nC]
 refine we ?_
 go_upto_region 5 with fail
 refine rl ?_
 refine qv (strV [97, 32, 45, 32, 98, 32, 45, 32, 49, 46, 53]) ?_
 refine qv (.int .i64 8) ?_
 simp only [nA, nB, nC]
 refine qc #[(strV [97, 32, 45, 32, 98, 32, 45, 32, 49, 46, 53]), (.int .i64 8)] ?_
 have HCA := hid (number_8 w3)
 refine HCA.out.mono ?_
 rintro e w5 ⟨rfl, (HB6 : Hid _)⟩
 refine ⟨_, rfl, ?_⟩
 replace K2 := ka HB6 K2
 replace HB0 := kb HB0 HB6
 try simp only [Act.put, nA, nB, nC]
 refine qv (.agg #[(.int .i64 6), (strV []), (.int .i64 1500000), (.int .i64 8)]) ?_
 refine qv (.int .i64 3) ?_
 refine qv (.int .i64 0) ?_
 simp only [nA, nB, nC]
 obtain ⟨w7, hbx, hbk, hbf⟩ := st_x (T := 75) (c := #[(.int .i64 0), (strV []), (.int .i64 0), (.int .i64 0)]) (c' := #[(.int .i64 6), (strV []), (.int .i64 1500000), (.int .i64 8)]) (by kernel_rfl) rfl rfl K2.out (by intro v hv; simp at hv; rcases hv with rfl | rfl | rfl | rfl <;> first | rfl | assumption)
 replace K2 := hid hbk
 have HF8 := hid hbf
 have HX := hid hbx
 clear hbx hbk hbf
 refine wp_do rfl rfl (run_storeOp rfl (by kernel_rfl) (by kernel_rfl) HX.out) ?_
 try simp only [nA, nB, nC]
 replace HB0 := hid (HB0.out.trans (HF8.out.below HB0.out.size (by simpa using GE_g1.out)))
 refine qv (.int .i64 3) ?_
 refine qv (.int .i64 0) ?_
 simp only [nA, nB, nC]
 refine we ?_
 go_wp2_with fail
 exact ret_three rfl rfl rfl (load_blk Tryz.isAgg75 (by kernel_rfl) rfl K2.out) ⟨rfl, HB0.out⟩
def tcs (t : Tok) : List Value := [.int .i64 t.k, strV t.tx, .int .i64 t.n, .int .i64 t.a]
def To (n : Nat) (w : World) (v : Value) (ts : List Tok) : Prop := w.ownsRow n 75 4 v ts.length (ts.flatMap tcs)
theorem To.nil (n : Nat) (w : World) : To n w (.slice none 0 0) [] := ⟨rfl, .inl ⟨rfl, rfl⟩⟩
theorem To.below {n : Nat} {w w' : World} {v : Value} {ts : List Tok} (h : To n w v ts) (hB : Below w.heap.size w w') : To n w' v ts := by
 refine ⟨h.1, ?_⟩
 rcases h.2 with h | ⟨g, cap, cur, a, b, hg, r⟩
 ·exact .inl h
 ·exact .inr ⟨g, cap, cur, a, b, below_at hB hg (heap_lt hg), r⟩
theorem To.val {n : Nat} {w : World} {v : Value} {ts : List Tok} (h : To n w v ts) : ∃ a c, v = .slice a ts.length c := by
 rcases h.2 with ⟨h, h0⟩ | ⟨g, cap, cur, a, b, hg, r⟩
 ·exact ⟨none, 0, by rw [h, h0]⟩
 ·exact ⟨_, _, a⟩
theorem inf71 : ∃ i, Tryz.prog.info? 75 = some i ∧ i.zero = some (.agg #[.int .i64 0, .string ⟨#[]⟩, .int .i64 0, .int .i64 0]) ∧ i.size = 4 ∧ i.bytes = 40 := info_parts (by kernel_rfl)
theorem To.app {n : Nat} {w : World} {v : Value} {ts : List Tok} (h : To n w v ts) (t : Tok) (hlen : ts.length + 1 ≤ 10000) (hn : n ≤ w.heap.size) {g : Nat} (hg : w.heap[g]? = some (.cells #[.int .i64 t.k, strV t.tx, .int .i64 t.n, .int .i64 t.a] 75 (0, 0))) :
  ∃ v' w', (∀ ty, (Builtin.append_ #[47, 47] ty #[v, .slice (some ⟨g, 0, none⟩) 1 1]).run Tryz.prog w = .ok v' w') ∧ To n w' v' (ts ++ [t]) ∧ Below n w w' := by
 obtain ⟨i0, hi, hz0, hz1, hz2⟩ := inf71
 have key := fun ty => run_append_own_at (P := Tryz.prog) (w := w) n 47 ty 75 i0 (.agg #[.int .i64 0, .string ⟨#[]⟩, .int .i64 0, .int .i64 0]) 4 40 (by kernel_rfl) hi hz0 hz1 hz2 rfl (by decide) v _ _ h ⟨g, 0, none⟩ 1 1 (tcs t) rfl (fun j u hj => by
  rw [add_lit, Nat.zero_add]
  refine cell_at hg j ?_
  match j, hj with
  | 0, hj => cases hj; rfl
  | 1, hj => cases hj; rfl
  | 2, hj => cases hj; rfl
  | 3, hj => cases hj; rfl) (fun u hu => by simp [tcs] at hu; rcases hu with rfl | rfl | rfl | rfl <;> rfl) (by unfold maxLen; omega) (by omega) hn
 obtain ⟨v', w', h1, h2, h3, -, -⟩ := key 0
 have hF := grown_fr h3
 refine ⟨v', w', fun ty => h1, ?_, hF.below hn (fun x hx => ?_)⟩
 ·unfold To
  rw [List.length_append, List.flatMap_append]
  simpa using h2
 ·have hb : v.ownBlock = some x := by simpa using hx
  rcases h.2 with ⟨h, h0⟩ | ⟨g', cap, cur, e, hn', hg', r⟩
  ·rw [h] at hb; cases hb
  ·rw [e] at hb; cases hb; exact hn'
theorem To.tks {n : Nat} {w : World} {v : Value} {ts : List Tok} (h : To n w v ts) (hl : ts.length ≤ 100000) (h0 : 0 < ts.length) : Tks w v ts := by
 rcases h.2 with ⟨h, h1⟩ | ⟨g, cap, cur, e, hn', hg', h3, h4, h5, h6⟩
 ·omega
 ·refine ⟨g, 0, cap, cur, (0, 0), e, hl, hg', fun i t ht => ?_⟩
  have hlt := (List.getElem?_eq_some_iff.1 ht).1
  have key : ∀ j, j < 4 → cur[0 + i * 4 + j]? = (tcs t)[j]? := fun j hj => by
   have e1 : (ts.flatMap tcs)[i * 4 + j]? = (tcs t)[j]? := by
    clear h h3 h4 h5 h6 e hn' hg' hlt hl h0
    induction ts generalizing i with
    | nil => simp at ht
    | cons y r ih =>
     cases i with
     | zero => simp at ht; subst ht; rw [List.flatMap_cons, Nat.zero_mul, Nat.zero_add, List.getElem?_append_left (by simp [tcs]; omega)]
     | succ i =>
      rw [List.flatMap_cons, List.getElem?_append_right (by simp [tcs]; omega)]
      have : (i + 1) * 4 + j - (tcs y).length = i * 4 + j := by simp [tcs]; omega
      rw [this]
      exact ih i (by simpa using ht)
   rw [← e1, ← h6, Nat.zero_add, List.getElem?_take_of_lt (by omega), Array.getElem?_toList]
  exact ⟨key 0 (by decide), key 1 (by decide), key 2 (by decide), key 3 (by decide)⟩
theorem bsg_Susanceref07_Token_1 (w : World) (z0 : Int) (s1 : List UInt8) (z2 : Int) (z3 : Int) : ∃ w1 g, (Instr.buildSlice 47 1 #[(0, (.agg #[.int .i64 z0, strV s1, .int .i64 z2, .int .i64 z3]))]).run Tryz.prog w = .ok (.slice (some ⟨g, 0, none⟩) 1 1) w1 ∧ w1.heap[g]? = some (.cells #[.int .i64 z0, strV s1, .int .i64 z2, .int .i64 z3] 75 (0, 0)) ∧ Below w.heap.size w w1 ∧ w.heap.size ≤ g :=
 ⟨w.alloc (.cells #[.int .i64 z0, strV s1, .int .i64 z2, .int .i64 z3] 75), w.heap.size, by unfold strV; go_simp, heap_alloc_last w _, (Below.refl _ _).alloc (Nat.le_refl _) _, Nat.le_refl _⟩
seal wpList in
theorem scan_any (w : World) : Calls Tryz.prog 38 #[strV [97, 32, 45, 32, 98, 32, 45, 32, 49, 46, 53]] w fun e w' => ∃ v, e = .returned (.tuple #[v, .int .i64 0, .int .i64 0]) ∧ To w.heap.size w' v [⟨1, [97], 0, 0⟩, ⟨8, [45], 0, 2⟩, ⟨1, [98], 0, 4⟩, ⟨8, [45], 0, 6⟩, ⟨6, [], 1500000, 8⟩, ⟨0, [], 0, 11⟩] ∧ Below w.heap.size w w' := by
 have HB0 := hid (Below.refl w.heap.size w)
 go_enter Tryz.func38, Tryz.ntmps38
 go_upto_region 0 with fail
 refine rl ?_
 refine qv (.slice none 0 0) ?_
 refine qv (.int .i64 0) ?_
 refine qv (.int .i64 0) ?_
 simp only [nA, nB, nC]
 refine we ?_
 go_upto_region 1 with fail
 refine rl ?_
 refine qv (strV [97, 32, 45, 32, 98, 32, 45, 32, 49, 46, 53]) ?_
 refine qv (.int .i64 11) ?_
 refine qv (.bool false) ?_
 simp only [nA, nB, nC]
 refine we ?_
 go_upto_region 3 with fail
 refine rl ?_
 refine qv (.slice none 0 0) ?_
 simp only [nA, nB, nC]
 refine we ?_
 go_upto_region 4 with fail
 refine rl ?_
 refine qv (.int .i64 0) ?_
 simp only [nA, nB, nC]
 refine we ?_
 go_wp2_with fail
 go_loopw [5, 6] (fun v5 v6 wr => ((v6 = .int .i64 0 ∧ To w.heap.size wr v5 []) ∨ (v6 = .int .i64 1 ∧ To w.heap.size wr v5 [⟨1, [97], 0, 0⟩]) ∨ (v6 = .int .i64 2 ∧ To w.heap.size wr v5 [⟨1, [97], 0, 0⟩]) ∨ (v6 = .int .i64 3 ∧ To w.heap.size wr v5 [⟨1, [97], 0, 0⟩, ⟨8, [45], 0, 2⟩]) ∨ (v6 = .int .i64 4 ∧ To w.heap.size wr v5 [⟨1, [97], 0, 0⟩, ⟨8, [45], 0, 2⟩]) ∨ (v6 = .int .i64 5 ∧ To w.heap.size wr v5 [⟨1, [97], 0, 0⟩, ⟨8, [45], 0, 2⟩, ⟨1, [98], 0, 4⟩]) ∨ (v6 = .int .i64 6 ∧ To w.heap.size wr v5 [⟨1, [97], 0, 0⟩, ⟨8, [45], 0, 2⟩, ⟨1, [98], 0, 4⟩]) ∨ (v6 = .int .i64 7 ∧ To w.heap.size wr v5 [⟨1, [97], 0, 0⟩, ⟨8, [45], 0, 2⟩, ⟨1, [98], 0, 4⟩, ⟨8, [45], 0, 6⟩]) ∨ (v6 = .int .i64 8 ∧ To w.heap.size wr v5 [⟨1, [97], 0, 0⟩, ⟨8, [45], 0, 2⟩, ⟨1, [98], 0, 4⟩, ⟨8, [45], 0, 6⟩]) ∨ (v6 = .int .i64 11 ∧ To w.heap.size wr v5 [⟨1, [97], 0, 0⟩, ⟨8, [45], 0, 2⟩, ⟨1, [98], 0, 4⟩, ⟨8, [45], 0, 6⟩, ⟨6, [], 1500000, 8⟩])) ∧ Below w.heap.size w wr) (fun _ v6 _ => 12 - (intOf v6).toNat)
 case atStart =>
  exact ⟨.inl ⟨rfl, To.nil _ _⟩, HB0.out⟩
 case round =>
  obtain ⟨hst, hF⟩ := hrel
  clear HB0
  have HB0 := hid hF
  clear hF
  rcases hst with ⟨rfl, hto⟩ | ⟨rfl, hto⟩ | ⟨rfl, hto⟩ | ⟨rfl, hto⟩ | ⟨rfl, hto⟩ | ⟨rfl, hto⟩ | ⟨rfl, hto⟩ | ⟨rfl, hto⟩ | ⟨rfl, hto⟩ | ⟨rfl, hto⟩
  ·have HTO := hid hto
   clear hto
   go_upto_region 5 with fail
   refine rl ?_
   refine qv (.int .i64 0) ?_
   refine qv (strV [97, 32, 45, 32, 98, 32, 45, 32, 49, 46, 53]) ?_
   refine qv (.int .i64 11) ?_
   refine qv (.bool true) ?_
   simp only [nA, nB, nC]
   refine we ?_
   go_upto_region 6 with fail
   refine rl ?_
   refine qv (strV [97, 32, 45, 32, 98, 32, 45, 32, 49, 46, 53]) ?_
   refine qv (.int .i64 0) ?_
   refine qv (.int .u8 97) ?_
   refine qv (.bool false) ?_
   simp only [nA, nB, nC]
   refine we ?_
   go_upto_region 8 with fail
   refine rl ?_
   refine qv (strV [97, 32, 45, 32, 98, 32, 45, 32, 49, 46, 53]) ?_
   refine qv (.int .i64 0) ?_
   refine qv (.int .u8 97) ?_
   refine qv (.bool false) ?_
   simp only [nA, nB, nC]
   refine we ?_
   go_upto_region 11 with fail
   refine rl ?_
   refine qv (strV [97, 32, 45, 32, 98, 32, 45, 32, 49, 46, 53]) ?_
   refine qv (.int .i64 0) ?_
   simp only [nA, nB, nC]
   refine qc #[(strV [97, 32, 45, 32, 98, 32, 45, 32, 49, 46, 53]), (.int .i64 0)] ?_
   have HCA := hid (token_0 wr)
   refine HCA.out.mono ?_
   rintro e w1 ⟨rfl, (HB2 : Hid _)⟩
   refine ⟨_, rfl, ?_⟩
   replace HTO := hid (HTO.out.below HB2.out)
   replace HB0 := kb HB0 HB2
   try simp only [Act.put, nA, nB, nC]
   refine qv (.tuple #[(.agg #[(.int .i64 1), (strV [97]), (.int .i64 0), (.int .i64 0)]), (.int .i64 1), (.int .i64 0)]) ?_
   refine qv (.agg #[(.int .i64 1), (strV [97]), (.int .i64 0), (.int .i64 0)]) ?_
   refine qv (.int .i64 1) ?_
   refine qv (.int .i64 0) ?_
   simp only [nA, nB, nC]
   obtain ⟨wv, w5, g3, hx1, hx2, hbk, hbb, hge⟩ := var_usanceref07_Token w1 1 [97] 0 0
   have K4 := hid hbk
   have HBV := hid hbb
   have HX1 := hid hx1
   have HX2 := hid hx2
   have GV := hid hge
   clear hx1 hx2 hbk hbb hge
   refine wp_run (v := (.pointer (some ⟨g3, 0, none⟩))) rfl rfl (run_alOp rfl HX1.out) rfl ?_
   try simp only [nA, nB, nC]
   refine wp_do rfl rfl (run_storeOp rfl (by kernel_rfl) (by kernel_rfl) HX2.out) ?_
   try simp only [nA, nB, nC]
   clear HX1 HX2
   have GE_g3 := kh HB0 GV
   replace HTO := hid (HTO.out.below HBV.out)
   replace HB0 := kb HB0 HBV
   clear HBV GV
   refine qv (.int .i64 1) ?_
   refine qv (.int .i64 0) ?_
   simp only [nA, nB, nC]
   refine we ?_
   go_upto_region 12 with fail
   refine rl ?_
   refine qv (.int .i64 0) ?_
   refine qv (.bool false) ?_
   simp only [nA, nB, nC]
   refine we ?_
   go_upto_region 14 with fail
   refine rl ?_
   refine qv u5 ?_
   simp only [nA, nB, nC]
   obtain ⟨aa, cc, hvl⟩ := HTO.out.val
   have HVL := hid hvl
   clear hvl
   refine wp_y (v := (.int .i64 0)) rfl rfl (y_lenT len_Susanceref07_Token (p := aa) (n := 0) (c := cc) rfl (by kernel_rfl) (by exact HVL.out)) rfl ?_
   simp only [nA, nB, nC]
   refine qv (.bool false) ?_
   simp only [nA, nB, nC]
   refine we ?_
   go_upto_region 16 with fail
   refine rl ?_
   refine qv u5 ?_
   refine qk (.agg #[(.int .i64 1), (strV [97]), (.int .i64 0), (.int .i64 0)]) Tryz.isAgg75 K4 ?_
   simp only [nA, nB, nC]
   obtain ⟨w8, g6, (HX : Hid _), (K7 : Hid _), (HB9 : Hid _), (GV : Hid _)⟩ := bsg_Susanceref07_Token_1 w5 1 [97] 0 0
   have NE_g3_g6 := kn K4 GV
   have GE_g6 := kh HB0 GV
   refine wp_run (v := (.slice (some ⟨g6, 0, none⟩) 1 1)) rfl rfl (run_bsOp rfl (by kernel_rfl) HX.out) rfl ?_
   try simp only [nA, nB, nC]
   replace K4 := ka HB9 K4
   replace HTO := hid (HTO.out.below HB9.out)
   replace HB0 := kb HB0 HB9
   obtain ⟨vv0, ww0, ha1, ha2, ha3⟩ := HTO.out.app ⟨1, [97], 0, 0⟩ (by decide) (Nat.le_trans (Nat.le_refl _) HB0.out.size) K7.out
   have HAP := hid ha1
   clear ha1
   replace HTO : Hid (To w.heap.size ww0 vv0 [⟨1, [97], 0, 0⟩]) := hid ha2
   replace HB0 := hid (HB0.out.trans ha3)
   clear ha2 ha3
   refine wp_run (v := vv0) rfl rfl (run_appOp rfl (by kernel_rfl) (by kernel_rfl) (HAP.out _)) rfl ?_
   try simp only [nA, nB, nC]
   refine qv vv0 ?_
   simp only [nA, nB, nC]
   refine we ?_
   go_upto_region 17 with fail
   refine rl ?_
   refine qv (.int .i64 0) ?_
   refine qv (.int .i64 1) ?_
   refine qv (.int .i64 1) ?_
   refine qv (.int .i64 1) ?_
   simp only [nA, nB, nC]
   refine we ?_
   go_wp2_with fail
   exact ⟨⟨.inr (.inl ⟨rfl, HTO.out⟩), HB0.out⟩, by simp [intOf]⟩
  ·have HTO := hid hto
   clear hto
   go_upto_region 5 with fail
   refine rl ?_
   refine qv (.int .i64 1) ?_
   refine qv (strV [97, 32, 45, 32, 98, 32, 45, 32, 49, 46, 53]) ?_
   refine qv (.int .i64 11) ?_
   refine qv (.bool true) ?_
   simp only [nA, nB, nC]
   refine we ?_
   go_upto_region 6 with fail
   refine rl ?_
   refine qv (strV [97, 32, 45, 32, 98, 32, 45, 32, 49, 46, 53]) ?_
   refine qv (.int .i64 1) ?_
   refine qv (.int .u8 32) ?_
   refine qv (.bool true) ?_
   simp only [nA, nB, nC]
   refine we ?_
   go_upto_region 7 with fail
   refine rl ?_
   refine qv (.int .i64 1) ?_
   refine qv (.int .i64 2) ?_
   refine qv (.int .i64 2) ?_
   simp only [nA, nB, nC]
   refine we ?_
   go_wp2_with fail
   exact ⟨⟨.inr (.inr (.inl ⟨rfl, HTO.out⟩)), HB0.out⟩, by simp [intOf]⟩
  ·have HTO := hid hto
   clear hto
   go_upto_region 5 with fail
   refine rl ?_
   refine qv (.int .i64 2) ?_
   refine qv (strV [97, 32, 45, 32, 98, 32, 45, 32, 49, 46, 53]) ?_
   refine qv (.int .i64 11) ?_
   refine qv (.bool true) ?_
   simp only [nA, nB, nC]
   refine we ?_
   go_upto_region 6 with fail
   refine rl ?_
   refine qv (strV [97, 32, 45, 32, 98, 32, 45, 32, 49, 46, 53]) ?_
   refine qv (.int .i64 2) ?_
   refine qv (.int .u8 45) ?_
   refine qv (.bool false) ?_
   simp only [nA, nB, nC]
   refine we ?_
   go_upto_region 8 with fail
   refine rl ?_
   refine qv (strV [97, 32, 45, 32, 98, 32, 45, 32, 49, 46, 53]) ?_
   refine qv (.int .i64 2) ?_
   refine qv (.int .u8 45) ?_
   refine qv (.bool false) ?_
   simp only [nA, nB, nC]
   refine we ?_
   go_upto_region 11 with fail
   refine rl ?_
   refine qv (strV [97, 32, 45, 32, 98, 32, 45, 32, 49, 46, 53]) ?_
   refine qv (.int .i64 2) ?_
   simp only [nA, nB, nC]
   refine qc #[(strV [97, 32, 45, 32, 98, 32, 45, 32, 49, 46, 53]), (.int .i64 2)] ?_
   have HCA := hid (token_2 wr)
   refine HCA.out.mono ?_
   rintro e w10 ⟨rfl, (HB11 : Hid _)⟩
   refine ⟨_, rfl, ?_⟩
   replace HTO := hid (HTO.out.below HB11.out)
   replace HB0 := kb HB0 HB11
   try simp only [Act.put, nA, nB, nC]
   refine qv (.tuple #[(.agg #[(.int .i64 8), (strV [45]), (.int .i64 0), (.int .i64 2)]), (.int .i64 1), (.int .i64 0)]) ?_
   refine qv (.agg #[(.int .i64 8), (strV [45]), (.int .i64 0), (.int .i64 2)]) ?_
   refine qv (.int .i64 1) ?_
   refine qv (.int .i64 0) ?_
   simp only [nA, nB, nC]
   obtain ⟨wv, w14, g12, hx1, hx2, hbk, hbb, hge⟩ := var_usanceref07_Token w10 8 [45] 0 2
   have K13 := hid hbk
   have HBV := hid hbb
   have HX1 := hid hx1
   have HX2 := hid hx2
   have GV := hid hge
   clear hx1 hx2 hbk hbb hge
   refine wp_run (v := (.pointer (some ⟨g12, 0, none⟩))) rfl rfl (run_alOp rfl HX1.out) rfl ?_
   try simp only [nA, nB, nC]
   refine wp_do rfl rfl (run_storeOp rfl (by kernel_rfl) (by kernel_rfl) HX2.out) ?_
   try simp only [nA, nB, nC]
   clear HX1 HX2
   have GE_g12 := kh HB0 GV
   replace HTO := hid (HTO.out.below HBV.out)
   replace HB0 := kb HB0 HBV
   clear HBV GV
   refine qv (.int .i64 1) ?_
   refine qv (.int .i64 0) ?_
   simp only [nA, nB, nC]
   refine we ?_
   go_upto_region 12 with fail
   refine rl ?_
   refine qv (.int .i64 0) ?_
   refine qv (.bool false) ?_
   simp only [nA, nB, nC]
   refine we ?_
   go_upto_region 14 with fail
   refine rl ?_
   refine qv u5 ?_
   simp only [nA, nB, nC]
   obtain ⟨aa, cc, hvl⟩ := HTO.out.val
   have HVL := hid hvl
   clear hvl
   refine wp_y (v := (.int .i64 1)) rfl rfl (y_lenT len_Susanceref07_Token (p := aa) (n := 1) (c := cc) rfl (by kernel_rfl) (by exact HVL.out)) rfl ?_
   simp only [nA, nB, nC]
   refine qv (.bool false) ?_
   simp only [nA, nB, nC]
   refine we ?_
   go_upto_region 16 with fail
   refine rl ?_
   refine qv u5 ?_
   refine qk (.agg #[(.int .i64 8), (strV [45]), (.int .i64 0), (.int .i64 2)]) Tryz.isAgg75 K13 ?_
   simp only [nA, nB, nC]
   obtain ⟨w17, g15, (HX : Hid _), (K16 : Hid _), (HB18 : Hid _), (GV : Hid _)⟩ := bsg_Susanceref07_Token_1 w14 8 [45] 0 2
   have NE_g12_g15 := kn K13 GV
   have GE_g15 := kh HB0 GV
   refine wp_run (v := (.slice (some ⟨g15, 0, none⟩) 1 1)) rfl rfl (run_bsOp rfl (by kernel_rfl) HX.out) rfl ?_
   try simp only [nA, nB, nC]
   replace K13 := ka HB18 K13
   replace HTO := hid (HTO.out.below HB18.out)
   replace HB0 := kb HB0 HB18
   obtain ⟨vv1, ww1, ha1, ha2, ha3⟩ := HTO.out.app ⟨8, [45], 0, 2⟩ (by decide) (Nat.le_trans (Nat.le_refl _) HB0.out.size) K16.out
   have HAP := hid ha1
   clear ha1
   replace HTO : Hid (To w.heap.size ww1 vv1 [⟨1, [97], 0, 0⟩, ⟨8, [45], 0, 2⟩]) := hid ha2
   replace HB0 := hid (HB0.out.trans ha3)
   clear ha2 ha3
   refine wp_run (v := vv1) rfl rfl (run_appOp rfl (by kernel_rfl) (by kernel_rfl) (HAP.out _)) rfl ?_
   try simp only [nA, nB, nC]
   refine qv vv1 ?_
   simp only [nA, nB, nC]
   refine we ?_
   go_upto_region 17 with fail
   refine rl ?_
   refine qv (.int .i64 2) ?_
   refine qv (.int .i64 1) ?_
   refine qv (.int .i64 3) ?_
   refine qv (.int .i64 3) ?_
   simp only [nA, nB, nC]
   refine we ?_
   go_wp2_with fail
   exact ⟨⟨.inr (.inr (.inr (.inl ⟨rfl, HTO.out⟩))), HB0.out⟩, by simp [intOf]⟩
  ·have HTO := hid hto
   clear hto
   go_upto_region 5 with fail
   refine rl ?_
   refine qv (.int .i64 3) ?_
   refine qv (strV [97, 32, 45, 32, 98, 32, 45, 32, 49, 46, 53]) ?_
   refine qv (.int .i64 11) ?_
   refine qv (.bool true) ?_
   simp only [nA, nB, nC]
   refine we ?_
   go_upto_region 6 with fail
   refine rl ?_
   refine qv (strV [97, 32, 45, 32, 98, 32, 45, 32, 49, 46, 53]) ?_
   refine qv (.int .i64 3) ?_
   refine qv (.int .u8 32) ?_
   refine qv (.bool true) ?_
   simp only [nA, nB, nC]
   refine we ?_
   go_upto_region 7 with fail
   refine rl ?_
   refine qv (.int .i64 3) ?_
   refine qv (.int .i64 4) ?_
   refine qv (.int .i64 4) ?_
   simp only [nA, nB, nC]
   refine we ?_
   go_wp2_with fail
   exact ⟨⟨.inr (.inr (.inr (.inr (.inl ⟨rfl, HTO.out⟩)))), HB0.out⟩, by simp [intOf]⟩
  ·have HTO := hid hto
   clear hto
   go_upto_region 5 with fail
   refine rl ?_
   refine qv (.int .i64 4) ?_
   refine qv (strV [97, 32, 45, 32, 98, 32, 45, 32, 49, 46, 53]) ?_
   refine qv (.int .i64 11) ?_
   refine qv (.bool true) ?_
   simp only [nA, nB, nC]
   refine we ?_
   go_upto_region 6 with fail
   refine rl ?_
   refine qv (strV [97, 32, 45, 32, 98, 32, 45, 32, 49, 46, 53]) ?_
   refine qv (.int .i64 4) ?_
   refine qv (.int .u8 98) ?_
   refine qv (.bool false) ?_
   simp only [nA, nB, nC]
   refine we ?_
   go_upto_region 8 with fail
   refine rl ?_
   refine qv (strV [97, 32, 45, 32, 98, 32, 45, 32, 49, 46, 53]) ?_
   refine qv (.int .i64 4) ?_
   refine qv (.int .u8 98) ?_
   refine qv (.bool false) ?_
   simp only [nA, nB, nC]
   refine we ?_
   go_upto_region 11 with fail
   refine rl ?_
   refine qv (strV [97, 32, 45, 32, 98, 32, 45, 32, 49, 46, 53]) ?_
   refine qv (.int .i64 4) ?_
   simp only [nA, nB, nC]
   refine qc #[(strV [97, 32, 45, 32, 98, 32, 45, 32, 49, 46, 53]), (.int .i64 4)] ?_
   have HCA := hid (token_4 wr)
   refine HCA.out.mono ?_
   rintro e w19 ⟨rfl, (HB20 : Hid _)⟩
   refine ⟨_, rfl, ?_⟩
   replace HTO := hid (HTO.out.below HB20.out)
   replace HB0 := kb HB0 HB20
   try simp only [Act.put, nA, nB, nC]
   refine qv (.tuple #[(.agg #[(.int .i64 1), (strV [98]), (.int .i64 0), (.int .i64 4)]), (.int .i64 1), (.int .i64 0)]) ?_
   refine qv (.agg #[(.int .i64 1), (strV [98]), (.int .i64 0), (.int .i64 4)]) ?_
   refine qv (.int .i64 1) ?_
   refine qv (.int .i64 0) ?_
   simp only [nA, nB, nC]
   obtain ⟨wv, w23, g21, hx1, hx2, hbk, hbb, hge⟩ := var_usanceref07_Token w19 1 [98] 0 4
   have K22 := hid hbk
   have HBV := hid hbb
   have HX1 := hid hx1
   have HX2 := hid hx2
   have GV := hid hge
   clear hx1 hx2 hbk hbb hge
   refine wp_run (v := (.pointer (some ⟨g21, 0, none⟩))) rfl rfl (run_alOp rfl HX1.out) rfl ?_
   try simp only [nA, nB, nC]
   refine wp_do rfl rfl (run_storeOp rfl (by kernel_rfl) (by kernel_rfl) HX2.out) ?_
   try simp only [nA, nB, nC]
   clear HX1 HX2
   have GE_g21 := kh HB0 GV
   replace HTO := hid (HTO.out.below HBV.out)
   replace HB0 := kb HB0 HBV
   clear HBV GV
   refine qv (.int .i64 1) ?_
   refine qv (.int .i64 0) ?_
   simp only [nA, nB, nC]
   refine we ?_
   go_upto_region 12 with fail
   refine rl ?_
   refine qv (.int .i64 0) ?_
   refine qv (.bool false) ?_
   simp only [nA, nB, nC]
   refine we ?_
   go_upto_region 14 with fail
   refine rl ?_
   refine qv u5 ?_
   simp only [nA, nB, nC]
   obtain ⟨aa, cc, hvl⟩ := HTO.out.val
   have HVL := hid hvl
   clear hvl
   refine wp_y (v := (.int .i64 2)) rfl rfl (y_lenT len_Susanceref07_Token (p := aa) (n := 2) (c := cc) rfl (by kernel_rfl) (by exact HVL.out)) rfl ?_
   simp only [nA, nB, nC]
   refine qv (.bool false) ?_
   simp only [nA, nB, nC]
   refine we ?_
   go_upto_region 16 with fail
   refine rl ?_
   refine qv u5 ?_
   refine qk (.agg #[(.int .i64 1), (strV [98]), (.int .i64 0), (.int .i64 4)]) Tryz.isAgg75 K22 ?_
   simp only [nA, nB, nC]
   obtain ⟨w26, g24, (HX : Hid _), (K25 : Hid _), (HB27 : Hid _), (GV : Hid _)⟩ := bsg_Susanceref07_Token_1 w23 1 [98] 0 4
   have NE_g21_g24 := kn K22 GV
   have GE_g24 := kh HB0 GV
   refine wp_run (v := (.slice (some ⟨g24, 0, none⟩) 1 1)) rfl rfl (run_bsOp rfl (by kernel_rfl) HX.out) rfl ?_
   try simp only [nA, nB, nC]
   replace K22 := ka HB27 K22
   replace HTO := hid (HTO.out.below HB27.out)
   replace HB0 := kb HB0 HB27
   obtain ⟨vv2, ww2, ha1, ha2, ha3⟩ := HTO.out.app ⟨1, [98], 0, 4⟩ (by decide) (Nat.le_trans (Nat.le_refl _) HB0.out.size) K25.out
   have HAP := hid ha1
   clear ha1
   replace HTO : Hid (To w.heap.size ww2 vv2 [⟨1, [97], 0, 0⟩, ⟨8, [45], 0, 2⟩, ⟨1, [98], 0, 4⟩]) := hid ha2
   replace HB0 := hid (HB0.out.trans ha3)
   clear ha2 ha3
   refine wp_run (v := vv2) rfl rfl (run_appOp rfl (by kernel_rfl) (by kernel_rfl) (HAP.out _)) rfl ?_
   try simp only [nA, nB, nC]
   refine qv vv2 ?_
   simp only [nA, nB, nC]
   refine we ?_
   go_upto_region 17 with fail
   refine rl ?_
   refine qv (.int .i64 4) ?_
   refine qv (.int .i64 1) ?_
   refine qv (.int .i64 5) ?_
   refine qv (.int .i64 5) ?_
   simp only [nA, nB, nC]
   refine we ?_
   go_wp2_with fail
   exact ⟨⟨.inr (.inr (.inr (.inr (.inr (.inl ⟨rfl, HTO.out⟩))))), HB0.out⟩, by simp [intOf]⟩
  ·have HTO := hid hto
   clear hto
   go_upto_region 5 with fail
   refine rl ?_
   refine qv (.int .i64 5) ?_
   refine qv (strV [97, 32, 45, 32, 98, 32, 45, 32, 49, 46, 53]) ?_
   refine qv (.int .i64 11) ?_
   refine qv (.bool true) ?_
   simp only [nA, nB, nC]
   refine we ?_
   go_upto_region 6 with fail
   refine rl ?_
   refine qv (strV [97, 32, 45, 32, 98, 32, 45, 32, 49, 46, 53]) ?_
   refine qv (.int .i64 5) ?_
   refine qv (.int .u8 32) ?_
   refine qv (.bool true) ?_
   simp only [nA, nB, nC]
   refine we ?_
   go_upto_region 7 with fail
   refine rl ?_
   refine qv (.int .i64 5) ?_
   refine qv (.int .i64 6) ?_
   refine qv (.int .i64 6) ?_
   simp only [nA, nB, nC]
   refine we ?_
   go_wp2_with fail
   exact ⟨⟨.inr (.inr (.inr (.inr (.inr (.inr (.inl ⟨rfl, HTO.out⟩)))))), HB0.out⟩, by simp [intOf]⟩
  ·have HTO := hid hto
   clear hto
   go_upto_region 5 with fail
   refine rl ?_
   refine qv (.int .i64 6) ?_
   refine qv (strV [97, 32, 45, 32, 98, 32, 45, 32, 49, 46, 53]) ?_
   refine qv (.int .i64 11) ?_
   refine qv (.bool true) ?_
   simp only [nA, nB, nC]
   refine we ?_
   go_upto_region 6 with fail
   refine rl ?_
   refine qv (strV [97, 32, 45, 32, 98, 32, 45, 32, 49, 46, 53]) ?_
   refine qv (.int .i64 6) ?_
   refine qv (.int .u8 45) ?_
   refine qv (.bool false) ?_
   simp only [nA, nB, nC]
   refine we ?_
   go_upto_region 8 with fail
   refine rl ?_
   refine qv (strV [97, 32, 45, 32, 98, 32, 45, 32, 49, 46, 53]) ?_
   refine qv (.int .i64 6) ?_
   refine qv (.int .u8 45) ?_
   refine qv (.bool false) ?_
   simp only [nA, nB, nC]
   refine we ?_
   go_upto_region 11 with fail
   refine rl ?_
   refine qv (strV [97, 32, 45, 32, 98, 32, 45, 32, 49, 46, 53]) ?_
   refine qv (.int .i64 6) ?_
   simp only [nA, nB, nC]
   refine qc #[(strV [97, 32, 45, 32, 98, 32, 45, 32, 49, 46, 53]), (.int .i64 6)] ?_
   have HCA := hid (token_6 wr)
   refine HCA.out.mono ?_
   rintro e w28 ⟨rfl, (HB29 : Hid _)⟩
   refine ⟨_, rfl, ?_⟩
   replace HTO := hid (HTO.out.below HB29.out)
   replace HB0 := kb HB0 HB29
   try simp only [Act.put, nA, nB, nC]
   refine qv (.tuple #[(.agg #[(.int .i64 8), (strV [45]), (.int .i64 0), (.int .i64 6)]), (.int .i64 1), (.int .i64 0)]) ?_
   refine qv (.agg #[(.int .i64 8), (strV [45]), (.int .i64 0), (.int .i64 6)]) ?_
   refine qv (.int .i64 1) ?_
   refine qv (.int .i64 0) ?_
   simp only [nA, nB, nC]
   obtain ⟨wv, w32, g30, hx1, hx2, hbk, hbb, hge⟩ := var_usanceref07_Token w28 8 [45] 0 6
   have K31 := hid hbk
   have HBV := hid hbb
   have HX1 := hid hx1
   have HX2 := hid hx2
   have GV := hid hge
   clear hx1 hx2 hbk hbb hge
   refine wp_run (v := (.pointer (some ⟨g30, 0, none⟩))) rfl rfl (run_alOp rfl HX1.out) rfl ?_
   try simp only [nA, nB, nC]
   refine wp_do rfl rfl (run_storeOp rfl (by kernel_rfl) (by kernel_rfl) HX2.out) ?_
   try simp only [nA, nB, nC]
   clear HX1 HX2
   have GE_g30 := kh HB0 GV
   replace HTO := hid (HTO.out.below HBV.out)
   replace HB0 := kb HB0 HBV
   clear HBV GV
   refine qv (.int .i64 1) ?_
   refine qv (.int .i64 0) ?_
   simp only [nA, nB, nC]
   refine we ?_
   go_upto_region 12 with fail
   refine rl ?_
   refine qv (.int .i64 0) ?_
   refine qv (.bool false) ?_
   simp only [nA, nB, nC]
   refine we ?_
   go_upto_region 14 with fail
   refine rl ?_
   refine qv u5 ?_
   simp only [nA, nB, nC]
   obtain ⟨aa, cc, hvl⟩ := HTO.out.val
   have HVL := hid hvl
   clear hvl
   refine wp_y (v := (.int .i64 3)) rfl rfl (y_lenT len_Susanceref07_Token (p := aa) (n := 3) (c := cc) rfl (by kernel_rfl) (by exact HVL.out)) rfl ?_
   simp only [nA, nB, nC]
   refine qv (.bool false) ?_
   simp only [nA, nB, nC]
   refine we ?_
   go_upto_region 16 with fail
   refine rl ?_
   refine qv u5 ?_
   refine qk (.agg #[(.int .i64 8), (strV [45]), (.int .i64 0), (.int .i64 6)]) Tryz.isAgg75 K31 ?_
   simp only [nA, nB, nC]
   obtain ⟨w35, g33, (HX : Hid _), (K34 : Hid _), (HB36 : Hid _), (GV : Hid _)⟩ := bsg_Susanceref07_Token_1 w32 8 [45] 0 6
   have NE_g30_g33 := kn K31 GV
   have GE_g33 := kh HB0 GV
   refine wp_run (v := (.slice (some ⟨g33, 0, none⟩) 1 1)) rfl rfl (run_bsOp rfl (by kernel_rfl) HX.out) rfl ?_
   try simp only [nA, nB, nC]
   replace K31 := ka HB36 K31
   replace HTO := hid (HTO.out.below HB36.out)
   replace HB0 := kb HB0 HB36
   obtain ⟨vv3, ww3, ha1, ha2, ha3⟩ := HTO.out.app ⟨8, [45], 0, 6⟩ (by decide) (Nat.le_trans (Nat.le_refl _) HB0.out.size) K34.out
   have HAP := hid ha1
   clear ha1
   replace HTO : Hid (To w.heap.size ww3 vv3 [⟨1, [97], 0, 0⟩, ⟨8, [45], 0, 2⟩, ⟨1, [98], 0, 4⟩, ⟨8, [45], 0, 6⟩]) := hid ha2
   replace HB0 := hid (HB0.out.trans ha3)
   clear ha2 ha3
   refine wp_run (v := vv3) rfl rfl (run_appOp rfl (by kernel_rfl) (by kernel_rfl) (HAP.out _)) rfl ?_
   try simp only [nA, nB, nC]
   refine qv vv3 ?_
   simp only [nA, nB, nC]
   refine we ?_
   go_upto_region 17 with fail
   refine rl ?_
   refine qv (.int .i64 6) ?_
   refine qv (.int .i64 1) ?_
   refine qv (.int .i64 7) ?_
   refine qv (.int .i64 7) ?_
   simp only [nA, nB, nC]
   refine we ?_
   go_wp2_with fail
   exact ⟨⟨.inr (.inr (.inr (.inr (.inr (.inr (.inr (.inl ⟨rfl, HTO.out⟩))))))), HB0.out⟩, by simp [intOf]⟩
  ·have HTO := hid hto
   clear hto
   go_upto_region 5 with fail
   refine rl ?_
   refine qv (.int .i64 7) ?_
   refine qv (strV [97, 32, 45, 32, 98, 32, 45, 32, 49, 46, 53]) ?_
   refine qv (.int .i64 11) ?_
   refine qv (.bool true) ?_
   simp only [nA, nB, nC]
   refine we ?_
   go_upto_region 6 with fail
   refine rl ?_
   refine qv (strV [97, 32, 45, 32, 98, 32, 45, 32, 49, 46, 53]) ?_
   refine qv (.int .i64 7) ?_
   refine qv (.int .u8 32) ?_
   refine qv (.bool true) ?_
   simp only [nA, nB, nC]
   refine we ?_
   go_upto_region 7 with fail
   refine rl ?_
   refine qv (.int .i64 7) ?_
   refine qv (.int .i64 8) ?_
   refine qv (.int .i64 8) ?_
   simp only [nA, nB, nC]
   refine we ?_
   go_wp2_with fail
   exact ⟨⟨.inr (.inr (.inr (.inr (.inr (.inr (.inr (.inr (.inl ⟨rfl, HTO.out⟩)))))))), HB0.out⟩, by simp [intOf]⟩
  ·have HTO := hid hto
   clear hto
   go_upto_region 5 with fail
   refine rl ?_
   refine qv (.int .i64 8) ?_
   refine qv (strV [97, 32, 45, 32, 98, 32, 45, 32, 49, 46, 53]) ?_
   refine qv (.int .i64 11) ?_
   refine qv (.bool true) ?_
   simp only [nA, nB, nC]
   refine we ?_
   go_upto_region 6 with fail
   refine rl ?_
   refine qv (strV [97, 32, 45, 32, 98, 32, 45, 32, 49, 46, 53]) ?_
   refine qv (.int .i64 8) ?_
   refine qv (.int .u8 49) ?_
   refine qv (.bool false) ?_
   simp only [nA, nB, nC]
   refine we ?_
   go_upto_region 8 with fail
   refine rl ?_
   refine qv (strV [97, 32, 45, 32, 98, 32, 45, 32, 49, 46, 53]) ?_
   refine qv (.int .i64 8) ?_
   refine qv (.int .u8 49) ?_
   refine qv (.bool false) ?_
   simp only [nA, nB, nC]
   refine we ?_
   go_upto_region 11 with fail
   refine rl ?_
   refine qv (strV [97, 32, 45, 32, 98, 32, 45, 32, 49, 46, 53]) ?_
   refine qv (.int .i64 8) ?_
   simp only [nA, nB, nC]
   refine qc #[(strV [97, 32, 45, 32, 98, 32, 45, 32, 49, 46, 53]), (.int .i64 8)] ?_
   have HCA := hid (token_8 wr)
   refine HCA.out.mono ?_
   rintro e w37 ⟨rfl, (HB38 : Hid _)⟩
   refine ⟨_, rfl, ?_⟩
   replace HTO := hid (HTO.out.below HB38.out)
   replace HB0 := kb HB0 HB38
   try simp only [Act.put, nA, nB, nC]
   refine qv (.tuple #[(.agg #[(.int .i64 6), (strV []), (.int .i64 1500000), (.int .i64 8)]), (.int .i64 3), (.int .i64 0)]) ?_
   refine qv (.agg #[(.int .i64 6), (strV []), (.int .i64 1500000), (.int .i64 8)]) ?_
   refine qv (.int .i64 3) ?_
   refine qv (.int .i64 0) ?_
   simp only [nA, nB, nC]
   obtain ⟨wv, w41, g39, hx1, hx2, hbk, hbb, hge⟩ := var_usanceref07_Token w37 6 [] 1500000 8
   have K40 := hid hbk
   have HBV := hid hbb
   have HX1 := hid hx1
   have HX2 := hid hx2
   have GV := hid hge
   clear hx1 hx2 hbk hbb hge
   refine wp_run (v := (.pointer (some ⟨g39, 0, none⟩))) rfl rfl (run_alOp rfl HX1.out) rfl ?_
   try simp only [nA, nB, nC]
   refine wp_do rfl rfl (run_storeOp rfl (by kernel_rfl) (by kernel_rfl) HX2.out) ?_
   try simp only [nA, nB, nC]
   clear HX1 HX2
   have GE_g39 := kh HB0 GV
   replace HTO := hid (HTO.out.below HBV.out)
   replace HB0 := kb HB0 HBV
   clear HBV GV
   refine qv (.int .i64 3) ?_
   refine qv (.int .i64 0) ?_
   simp only [nA, nB, nC]
   refine we ?_
   go_upto_region 12 with fail
   refine rl ?_
   refine qv (.int .i64 0) ?_
   refine qv (.bool false) ?_
   simp only [nA, nB, nC]
   refine we ?_
   go_upto_region 14 with fail
   refine rl ?_
   refine qv u5 ?_
   simp only [nA, nB, nC]
   obtain ⟨aa, cc, hvl⟩ := HTO.out.val
   have HVL := hid hvl
   clear hvl
   refine wp_y (v := (.int .i64 4)) rfl rfl (y_lenT len_Susanceref07_Token (p := aa) (n := 4) (c := cc) rfl (by kernel_rfl) (by exact HVL.out)) rfl ?_
   simp only [nA, nB, nC]
   refine qv (.bool false) ?_
   simp only [nA, nB, nC]
   refine we ?_
   go_upto_region 16 with fail
   refine rl ?_
   refine qv u5 ?_
   refine qk (.agg #[(.int .i64 6), (strV []), (.int .i64 1500000), (.int .i64 8)]) Tryz.isAgg75 K40 ?_
   simp only [nA, nB, nC]
   obtain ⟨w44, g42, (HX : Hid _), (K43 : Hid _), (HB45 : Hid _), (GV : Hid _)⟩ := bsg_Susanceref07_Token_1 w41 6 [] 1500000 8
   have NE_g39_g42 := kn K40 GV
   have GE_g42 := kh HB0 GV
   refine wp_run (v := (.slice (some ⟨g42, 0, none⟩) 1 1)) rfl rfl (run_bsOp rfl (by kernel_rfl) HX.out) rfl ?_
   try simp only [nA, nB, nC]
   replace K40 := ka HB45 K40
   replace HTO := hid (HTO.out.below HB45.out)
   replace HB0 := kb HB0 HB45
   obtain ⟨vv4, ww4, ha1, ha2, ha3⟩ := HTO.out.app ⟨6, [], 1500000, 8⟩ (by decide) (Nat.le_trans (Nat.le_refl _) HB0.out.size) K43.out
   have HAP := hid ha1
   clear ha1
   replace HTO : Hid (To w.heap.size ww4 vv4 [⟨1, [97], 0, 0⟩, ⟨8, [45], 0, 2⟩, ⟨1, [98], 0, 4⟩, ⟨8, [45], 0, 6⟩, ⟨6, [], 1500000, 8⟩]) := hid ha2
   replace HB0 := hid (HB0.out.trans ha3)
   clear ha2 ha3
   refine wp_run (v := vv4) rfl rfl (run_appOp rfl (by kernel_rfl) (by kernel_rfl) (HAP.out _)) rfl ?_
   try simp only [nA, nB, nC]
   refine qv vv4 ?_
   simp only [nA, nB, nC]
   refine we ?_
   go_upto_region 17 with fail
   refine rl ?_
   refine qv (.int .i64 8) ?_
   refine qv (.int .i64 3) ?_
   refine qv (.int .i64 11) ?_
   refine qv (.int .i64 11) ?_
   simp only [nA, nB, nC]
   refine we ?_
   go_wp2_with fail
   exact ⟨⟨.inr (.inr (.inr (.inr (.inr (.inr (.inr (.inr (.inr (⟨rfl, HTO.out⟩))))))))), HB0.out⟩, by simp [intOf]⟩
  ·have HTO := hid hto
   clear hto
   go_upto_region 5 with fail
   refine rl ?_
   refine qv (.int .i64 11) ?_
   refine qv (strV [97, 32, 45, 32, 98, 32, 45, 32, 49, 46, 53]) ?_
   refine qv (.int .i64 11) ?_
   refine qv (.bool false) ?_
   simp only [nA, nB, nC]
   refine we ?_
   go_upto_region 18 with fail
   refine rl ?_
   refine qv u5 ?_
   refine qv (strV [97, 32, 45, 32, 98, 32, 45, 32, 49, 46, 53]) ?_
   refine qv (.int .i64 11) ?_
   simp only [nA, nB, nC]
   refine wp_y (v := (.agg #[(.int .i64 0), (strV []), (.int .i64 0), (.int .i64 11)])) rfl rfl (y_val2 rfl (h := fun w' h => by rw [h]; exact run_buildOp rfl (by kernel_rfl) (bu_usanceref07_Token_3 wr 11))) rfl ?_
   simp only [nA, nB, nC]
   obtain ⟨w48, g46, (HX : Hid _), (K47 : Hid _), (HB49 : Hid _), (GV : Hid _)⟩ := bsg_Susanceref07_Token_1 wr 0 [] 0 11
   have GE_g46 := kh HB0 GV
   refine wp_run (v := (.slice (some ⟨g46, 0, none⟩) 1 1)) rfl rfl (run_bsOp rfl (by kernel_rfl) HX.out) rfl ?_
   try simp only [nA, nB, nC]
   replace HTO := hid (HTO.out.below HB49.out)
   replace HB0 := kb HB0 HB49
   obtain ⟨vv5, ww5, ha1, ha2, ha3⟩ := HTO.out.app ⟨0, [], 0, 11⟩ (by decide) (Nat.le_trans (Nat.le_refl _) HB0.out.size) K47.out
   have HAP := hid ha1
   clear ha1
   replace HTO : Hid (To w.heap.size ww5 vv5 [⟨1, [97], 0, 0⟩, ⟨8, [45], 0, 2⟩, ⟨1, [98], 0, 4⟩, ⟨8, [45], 0, 6⟩, ⟨6, [], 1500000, 8⟩, ⟨0, [], 0, 11⟩]) := hid ha2
   replace HB0 := hid (HB0.out.trans ha3)
   clear ha2 ha3
   refine wp_run (v := vv5) rfl rfl (run_appOp rfl (by kernel_rfl) (by kernel_rfl) (HAP.out _)) rfl ?_
   try simp only [nA, nB, nC]
   refine qv vv5 ?_
   refine qv (.int .i64 0) ?_
   refine qv (.int .i64 0) ?_
   simp only [nA, nB, nC]
   refine we ?_
   go_wp2_with fail
   go_ret3
   exact ⟨_, rfl, HTO.out, HB0.out⟩
def Tr.kd : Tr → Int
 | .mk k _ _ _ _ => k
def Kds (w : World) (sv : Value) (ks : List Tr) : Prop := ∃ a c, sv = .slice a ks.length c ∧ (ks.length ≤ c ∧ c ≤ 9223372036854775807) ∧ ∀ (i : Nat) (t : Tr), ks[i]? = some t → ∃ b o u, a = some ⟨b, o, none⟩ ∧ Cl w b (o + i * 5) u ∧ Nd w u t
theorem Nd.kds {w : World} {k : Int} {tx : List UInt8} {n : Int} {s : Value} {at_ : Int} {kids : List Tr} (h : Nd w (nv k tx n s at_) (.mk k tx n kids at_)) : Kds w s kids := by
 obtain ⟨a, c, e, hl, hk⟩ := h.open
 have e3 : s = .slice a kids.length c := by unfold nv at e; injection e with e; simp at e; exact e
 exact ⟨a, c, e3, hl, hk⟩
def ldg (kd : Int) (ks : List Tr) : Nat := (ks.takeWhile fun t => t.kd == kd).length
theorem ldg_le (kd : Int) (ks : List Tr) : ldg kd ks ≤ ks.length := by unfold ldg; exact (List.takeWhile_prefix _).length_le
theorem ldg_at {kd : Int} {ks : List Tr} {j : Nat} (ha : (ks.take j).all (fun t => t.kd == kd) = true) (hj : j ≤ ks.length) (hb : ∀ t, ks[j]? = some t → (t.kd == kd) = false) : ldg kd ks = j := by
 unfold ldg
 induction ks generalizing j with
 | nil => simp at hj; simp [hj]
 | cons t r ih =>
  cases j with
  | zero =>
   have := hb t (by simp)
   rw [List.takeWhile_cons, this]; rfl
  | succ j =>
   simp only [List.take_succ_cons, List.all_cons, Bool.and_eq_true] at ha
   rw [List.takeWhile_cons, if_pos ha.1, List.length_cons, ih ha.2 (by simpa using hj) (fun t ht => hb t (by simpa using ht))]
seal wpList in
theorem leading_any {w : World} {sv : Value} {ks : List Tr} (h : Kds w sv ks) (kd : Int) : Calls Tryz.prog 44 #[sv, .int .i64 kd] w fun e w' => e = .returned (.int .i64 (ldg kd ks : Nat)) ∧ w' = w := by
 obtain ⟨a, c, rfl, hl, hk⟩ := h
 obtain ⟨N, hN⟩ : ∃ N, ks.length = N := ⟨_, rfl⟩
 rw [hN] at hl ⊢
 have HN := hid hN
 have HM : Hid (N ≤ 9223372036854775807) := hid (Nat.le_trans hl.1 hl.2)
 have HK := hid hk
 clear hN hl hk
 go_enter Tryz.func44, Tryz.ntmps44
 go_upto_region 0 with fail
 refine rl ?_
 refine qv (.int .i64 0) ?_
 simp only [nA, nB, nC]
 refine we ?_
 go_upto_region 1 with fail
 refine rl ?_
 refine qv (.slice a N c) ?_
 simp only [nA, nB, nC]
 refine wp_y (v := (.int .i64 (((N : Nat) : Int)))) rfl rfl (y_lenT len_Sapi_Node (p := a) (n := N) (c := c) rfl (by kernel_rfl) (by kernel_rfl)) rfl ?_
 simp only [nA, nB, nC]
 refine qv (.int .i64 0) ?_
 simp only [nA, nB, nC]
 refine we ?_
 go_wp2_with fail
 go_loopw [8] (fun v8 wr => ∃ j : Nat, j ≤ N ∧ v8 = .int .i64 j ∧ (ks.take j).all (fun t => t.kd == kd) = true ∧ wr = w) (fun v8 _ => N - (intOf v8).toNat)
 case atStart =>
  exact ⟨0, Nat.zero_le _, rfl, by simp, rfl⟩
 case round =>
  obtain ⟨j, hj, rfl, ha, rfl⟩ := hrel
  have HAL := hid ha
  have HJJ := hid hj
  clear ha hj
  go_upto_region 2 with fail
  refine rl ?_
  rcases bt (decide (((j : Nat) : Int) < ((N : Nat) : Int))) with Hhb1 | Hhb1
  ·have hlt : j < N := by have := of_decide_eq_true Hhb1.out; omega
   obtain ⟨t, ht⟩ : ∃ t, ks[j]? = some t := ⟨_, List.getElem?_eq_getElem (by rw [HN.out]; exact hlt)⟩
   obtain ⟨b, o, u, rfl, ⟨k', tx', n', s', at', rfl, hat⟩, hnd⟩ := HK.out j t ht
   have hkd : t.kd = k' := by obtain ⟨k9, tx9, n9, ks9, a9⟩ := t; obtain ⟨a8, c8, e8, -⟩ := hnd.open; unfold nv at e8; injection e8 with e8; simp at e8; exact e8.1.symm
   have HKD := hid hkd
   have HJ := hid ht
   have HLT := hid hlt
   have HC0 := hid hat.1
   have HS1 := hid (wrap_next (N := N) hlt HM.out)
   clear hlt ht hnd hat hkd
   refine qb (blss_int ((j : Nat) : Int) ((N : Nat) : Int) true Hhb1.out) ?_
   simp only [nA, nB, nC]
   refine we ?_
   go_upto_region 3 with fail
   refine rl ?_
   refine qv (.int .i64 (((j : Nat) : Int))) ?_
   refine qv (.int .i64 (((j : Nat) : Int))) ?_
   simp only [nA, nB, nC]
   refine we ?_
   go_upto_region 4 with fail
   refine rl ?_
   refine qv (.slice (some ⟨b, o, none⟩) N c) ?_
   refine qv (.int .i64 (((j : Nat) : Int))) ?_
   simp only [nA, nB, nC]
   refine wp_y (v := (.pointer (some ⟨b, o + j * 5, none⟩))) rfl rfl (y_index (p := (.slice (some ⟨b, o, none⟩) N c)) (k := (.int .i64 (((j : Nat) : Int)))) rfl (by kernel_rfl) (by kernel_rfl) (by kernel_rfl) (idx24 b o N c j HLT.out)) rfl ?_
   simp only [nA, nB, nC]
   refine qf (fa_api_Node_0 b (o + j * 5)) ?_
   simp only [nA, nB, nC]
   refine wp_y (v := (.int .i64 k')) rfl rfl (y_load rfl (hl := fun w' h => by rw [h]; exact load1 Tryz.isAgg3 HC0.out)) rfl ?_
   simp only [nA, nB, nC]
   refine qv (.int .i64 kd) ?_
   simp only [nA, nB, nC]
   rcases bt ((k' != kd)) with Hhb2 | Hhb2
   ·refine wp_y (v := (.bool true)) rfl rfl (y_bin (k := .i64) (k' := .i64) (m := k') (n := kd) rfl (hr := bneq_int k' kd true Hhb2.out)) rfl ?_
    try simp only [nA, nB, nC]
    refine we ?_
    go_upto_region 5 with fail
    refine rl ?_
    refine qv (.int .i64 (((j : Nat) : Int))) ?_
    refine qv (.int .i64 (((j : Nat) : Int))) ?_
    simp only [nA, nB, nC]
    refine we ?_
    go_wp2_with fail
    go_ret
    exact ⟨by rw [ldg_at HAL.out (by rw [HN.out]; exact HJJ.out) (fun t ht => by rw [HJ.out] at ht; cases ht; rw [HKD.out]; have h9 := Hhb2.out; simpa using h9)]; rfl, rfl⟩
   ·refine wp_y (v := (.bool false)) rfl rfl (y_bin (k := .i64) (k' := .i64) (m := k') (n := kd) rfl (hr := bneq_int k' kd false Hhb2.out)) rfl ?_
    try simp only [nA, nB, nC]
    refine we ?_
    go_upto_region 6 with fail
    refine rl ?_
    refine qb (badd_int ((j : Nat) : Int) 1 ((j + 1 : Nat) : Int) HS1.out) ?_
    refine qv (.int .i64 (((j + 1 : Nat) : Int))) ?_
    simp only [nA, nB, nC]
    refine we ?_
    go_wp2_with fail
    exact ⟨⟨j + 1, HLT.out, rfl, by rw [take_next HJ.out, List.all_append, HAL.out, Bool.true_and]; have h9 := Hhb2.out; simp at h9; simp [HKD.out, h9], trivial⟩, by have := HLT.out; simp [intOf]; omega⟩
  ·have hlt : j = N := by have := of_decide_eq_false Hhb1.out; have := HJJ.out; omega
   have HLG : Hid (ldg kd ks = N) := hid (ldg_at (by rw [← hlt]; exact HAL.out) (by rw [HN.out]; exact Nat.le_refl _) (fun t ht => by rw [List.getElem?_eq_none (by rw [HN.out]; exact Nat.le_refl _)] at ht; cases ht))
   clear hlt
   refine qb (blss_int ((j : Nat) : Int) ((N : Nat) : Int) false Hhb1.out) ?_
   simp only [nA, nB, nC]
   refine we ?_
   go_upto_region 7 with fail
   refine rl ?_
   refine qv (.slice a N c) ?_
   simp only [nA, nB, nC]
   refine wp_y (v := (.int .i64 (((N : Nat) : Int)))) rfl rfl (y_lenT len_Sapi_Node (p := a) (n := N) (c := c) rfl (by kernel_rfl) (by kernel_rfl)) rfl ?_
   simp only [nA, nB, nC]
   refine qv (.int .i64 (((N : Nat) : Int))) ?_
   simp only [nA, nB, nC]
   refine we ?_
   go_wp2_with fail
   go_ret
   exact ⟨by rw [HLG.out]; rfl, rfl⟩
def nmd (kd k : Int) (tx : List UInt8) (n : Int) : Bool := k == kd && (n == 0 && fre tx)
seal wpList in
theorem isNamed_any {w : World} {p : Nat} {m : Int} {v : Value} {k : Int} {tx : List UInt8} {n : Int} {kids : List Tr} {at_ : Int} (hm : Mkr w p m) (h0 : 0 ≤ m) (h1 : m ≤ 8192) (hn : Nd w v (.mk k tx n kids at_)) (ht : tx.length ≤ 9223372036854775807) (kd : Int) : Calls Tryz.prog 45 #[.pointer (some ⟨p, 0, none⟩), v, .int .i64 kd] w fun e w' => e = .returned (.bool (decide (0 ≤ m - 1) && nmd kd k tx n)) ∧ Fr [p] w w' ∧ Mkr w' p (m - 1) := by
 obtain ⟨a, c, rfl, -, -⟩ := hn.open
 have HM := hid hm
 have HMM : Hid (0 ≤ m ∧ m ≤ 8192) := hid ⟨h0, h1⟩
 have HT := hid ht
 have HF0 := hid (Fr.refl [p] w)
 clear hm h0 h1 hn ht
 generalize kids.length = N
 go_enter Tryz.func45, Tryz.ntmps45
 go_upto_region 0 with fail
 refine rl ?_
 obtain ⟨w3, g1, (HX : Hid _), (K2 : Hid _), (HB4 : Hid _)⟩ := box_x 24 w #[(.int .i64 k), (strV tx), (.int .i64 n), (.slice a N c), (.int .i64 at_)]
 refine wp_run (v := (.pointer (some ⟨g1, 0, none⟩))) rfl rfl (run_boxOp rfl (by kernel_rfl) HX.out) rfl ?_
 try simp only [nA, nB, nC]
 replace HF0 := kf HF0 HB4
 replace HM := ka HB4 HM
 refine qv (.bool false) ?_
 simp only [nA, nB, nC]
 refine we ?_
 go_upto_region 1 with fail
 refine rl ?_
 refine qv (.pointer (some ⟨p, 0, none⟩)) ?_
 simp only [nA, nB, nC]
 rcases bt (decide (0 ≤ m - 1)) with Hhb5 | Hhb5
 ·refine wp_call (f := 70) (args := #[(.pointer (some ⟨p, 0, none⟩))]) (by kernel_rfl) (fun w => by go_simp) ?_
  have HCA := hid (counts_any HM.out (by have := HMM.out; omega))
  refine HCA.out.mono ?_
  rintro e w6 ⟨he, hF, hm⟩
  rw [Hhb5.out] at he
  subst he
  refine ⟨_, rfl, ?_⟩
  have HFF := hid hF
  clear hF
  replace K2 := hid (Fr.at HFF.out K2.out (not_mkr K2.out HM.out (by decide)))
  replace HF0 := hid (HF0.out.trans HFF.out (by simp))
  replace HM := hid hm
  clear hm HFF
  try simp only [Act.put, nA, nB, nC]
  refine qv (.bool true) ?_
  simp only [nA, nB, nC]
  refine wp_yg (v := (.pointer (some ⟨g1, 0, none⟩))) rfl (y_faddr rfl (hf := fa_api_Node_0 g1 0)) rfl ?_
  try simp only [nA, nB, nC]
  refine wp_yg (v := (.int .i64 k)) rfl (y_load rfl (hl := fun w' h => by rw [h]; exact load1 Tryz.isAgg3 (cell_at K2.out 0 rfl))) rfl ?_
  try simp only [nA, nB, nC]
  refine qg (.int .i64 kd) rfl ?_
  simp only [nA, nB, nC]
  rcases bt ((k == kd)) with Hhb7 | Hhb7
  ·refine wp_yg (v := (.bool true)) rfl (y_bin (k := .i64) (k' := .i64) (m := k) (n := kd) rfl (hr := beql_int k kd true Hhb7.out)) rfl ?_
   try simp only [nA, nB, nC]
   refine qv (.bool true) ?_
   refine qv (.bool true) ?_
   simp only [nA, nB, nC]
   refine wp_yg (v := (.pointer (some ⟨g1, 2, none⟩))) rfl (y_faddr rfl (hf := fa_api_Node_2 g1 0)) rfl ?_
   try simp only [nA, nB, nC]
   refine wp_yg (v := (.int .i64 n)) rfl (y_load rfl (hl := fun w' h => by rw [h]; exact load1 Tryz.isAgg2 (cell_at K2.out 2 rfl))) rfl ?_
   try simp only [nA, nB, nC]
   rcases bt ((n == (0 : Int))) with Hhb8 | Hhb8
   ·refine wp_yg (v := (.bool true)) rfl (y_bin (k := .i64) (k' := .i64) (m := n) (n := 0) rfl (hr := beql_int64 n 0 true Hhb8.out)) rfl ?_
    try simp only [nA, nB, nC]
    refine qv (.bool true) ?_
    refine qv (.bool true) ?_
    simp only [nA, nB, nC]
    refine wp_yg (v := (.pointer (some ⟨g1, 1, none⟩))) rfl (y_faddr rfl (hf := fa_api_Node_1 g1 0)) rfl ?_
    try simp only [nA, nB, nC]
    refine wp_yg (v := (strV tx)) rfl (y_load rfl (hl := fun w' h => by rw [h]; exact load1 Tryz.isAgg9 (cell_at K2.out 1 rfl))) rfl ?_
    try simp only [nA, nB, nC]
    rcases bt (fre tx) with Hhb9 | Hhb9
    ·refine wp_callg (f := 71) (args := #[(strV tx)]) rfl (by kernel_rfl) (enter_go rfl (by kernel_rfl) (fun w => by go_simp)) ?_
     have HCA := hid (isFree_any tx w6 HT.out)
     refine HCA.out.mono ?_
     rintro e w10 ⟨he, hq⟩
     rw [Hhb9.out] at he
     subst he
     refine ⟨_, rfl, ?_⟩
     have HB11 := hid hq
     clear hq
     replace K2 := ka HB11 K2
     replace HF0 := kf HF0 HB11
     replace HM := ka HB11 HM
     try simp only [nA, nB, nC]
     refine qv (.bool true) ?_
     refine qv (.bool true) ?_
     simp only [nA, nB, nC]
     refine we ?_
     go_wp2_with fail
     go_ret
     refine ⟨congrArg (fun b => Ending.returned (.bool b)) ?_, HF0.out, HM.out⟩
     rw [nmd, Hhb5.out, Hhb7.out, Hhb8.out, Hhb9.out]
     rfl
    ·refine wp_callg (f := 71) (args := #[(strV tx)]) rfl (by kernel_rfl) (enter_go rfl (by kernel_rfl) (fun w => by go_simp)) ?_
     have HCA := hid (isFree_any tx w6 HT.out)
     refine HCA.out.mono ?_
     rintro e w12 ⟨he, hq⟩
     rw [Hhb9.out] at he
     subst he
     refine ⟨_, rfl, ?_⟩
     have HB13 := hid hq
     clear hq
     replace K2 := ka HB13 K2
     replace HF0 := kf HF0 HB13
     replace HM := ka HB13 HM
     try simp only [nA, nB, nC]
     refine qv (.bool false) ?_
     refine qv (.bool false) ?_
     simp only [nA, nB, nC]
     refine we ?_
     go_wp2_with fail
     go_ret
     refine ⟨congrArg (fun b => Ending.returned (.bool b)) ?_, HF0.out, HM.out⟩
     rw [nmd, Hhb5.out, Hhb7.out, Hhb8.out, Hhb9.out]
     rfl
   ·refine wp_yg (v := (.bool false)) rfl (y_bin (k := .i64) (k' := .i64) (m := n) (n := 0) rfl (hr := beql_int64 n 0 false Hhb8.out)) rfl ?_
    try simp only [nA, nB, nC]
    refine qv (.bool false) ?_
    refine qv (.bool false) ?_
    simp only [nA, nB, nC]
    refine qs rfl ?_
    simp only [nA, nB, nC]
    refine qs rfl ?_
    simp only [nA, nB, nC]
    refine qs rfl ?_
    simp only [nA, nB, nC]
    refine qv (.bool false) ?_
    refine qv (.bool false) ?_
    simp only [nA, nB, nC]
    refine we ?_
    go_wp2_with fail
    go_ret
    refine ⟨congrArg (fun b => Ending.returned (.bool b)) ?_, HF0.out, HM.out⟩
    rw [nmd, Hhb5.out, Hhb7.out, Hhb8.out]
    rfl
  ·refine wp_yg (v := (.bool false)) rfl (y_bin (k := .i64) (k' := .i64) (m := k) (n := kd) rfl (hr := beql_int k kd false Hhb7.out)) rfl ?_
   try simp only [nA, nB, nC]
   refine qv (.bool false) ?_
   refine qv (.bool false) ?_
   simp only [nA, nB, nC]
   refine qs rfl ?_
   simp only [nA, nB, nC]
   refine qs rfl ?_
   simp only [nA, nB, nC]
   refine qs rfl ?_
   simp only [nA, nB, nC]
   refine qv (.bool false) ?_
   refine qv (.bool false) ?_
   simp only [nA, nB, nC]
   refine qs rfl ?_
   simp only [nA, nB, nC]
   refine qs rfl ?_
   simp only [nA, nB, nC]
   refine qs rfl ?_
   simp only [nA, nB, nC]
   refine qv (.bool false) ?_
   refine qv (.bool false) ?_
   simp only [nA, nB, nC]
   refine we ?_
   go_wp2_with fail
   go_ret
   refine ⟨congrArg (fun b => Ending.returned (.bool b)) ?_, HF0.out, HM.out⟩
   rw [nmd, Hhb5.out, Hhb7.out]
   rfl
 ·refine wp_call (f := 70) (args := #[(.pointer (some ⟨p, 0, none⟩))]) (by kernel_rfl) (fun w => by go_simp) ?_
  have HCA := hid (counts_any HM.out (by have := HMM.out; omega))
  refine HCA.out.mono ?_
  rintro e w14 ⟨he, hF, hm⟩
  rw [Hhb5.out] at he
  subst he
  refine ⟨_, rfl, ?_⟩
  have HFF := hid hF
  clear hF
  replace K2 := hid (Fr.at HFF.out K2.out (not_mkr K2.out HM.out (by decide)))
  replace HF0 := hid (HF0.out.trans HFF.out (by simp))
  replace HM := hid hm
  clear hm HFF
  try simp only [Act.put, nA, nB, nC]
  refine qv (.bool false) ?_
  simp only [nA, nB, nC]
  refine qs rfl ?_
  simp only [nA, nB, nC]
  refine qs rfl ?_
  simp only [nA, nB, nC]
  refine qs rfl ?_
  simp only [nA, nB, nC]
  refine qs rfl ?_
  simp only [nA, nB, nC]
  refine qv (.bool false) ?_
  refine qv (.bool false) ?_
  simp only [nA, nB, nC]
  refine qs rfl ?_
  simp only [nA, nB, nC]
  refine qs rfl ?_
  simp only [nA, nB, nC]
  refine qs rfl ?_
  simp only [nA, nB, nC]
  refine qv (.bool false) ?_
  refine qv (.bool false) ?_
  simp only [nA, nB, nC]
  refine qs rfl ?_
  simp only [nA, nB, nC]
  refine qs rfl ?_
  simp only [nA, nB, nC]
  refine qs rfl ?_
  simp only [nA, nB, nC]
  refine qv (.bool false) ?_
  refine qv (.bool false) ?_
  simp only [nA, nB, nC]
  refine we ?_
  go_wp2_with fail
  go_ret
  refine ⟨congrArg (fun b => Ending.returned (.bool b)) ?_, HF0.out, HM.out⟩
  rw [nmd, Hhb5.out]
  rfl
seal wpList in
theorem module_no {w : World} {p : Nat} {v : Value} {k : Int} {tx : List UInt8} {n : Int} {kids : List Tr} {at_ : Int} (hm : Mkr w p 8192) (hn : Nd w v (.mk k tx n kids at_)) (ht : tx.length ≤ 9223372036854775807) (hk : (k == 1) = false) : Calls Tryz.prog 27 #[.pointer (some ⟨p, 0, none⟩), v] w fun e w' => e = .returned (.tuple #[.nilIface, .bool false]) ∧ Fr [p] w w' := by
 obtain ⟨a, c, rfl, hl, -⟩ := hn.open
 have HM := hid hm
 have HN0 := hid hn
 have HT := hid ht
 have HK1 := hid hk
 have HBN := hid (Below.refl w.heap.size w)
 have hld := ldg_le 2 kids
 obtain ⟨N, hN⟩ : ∃ N, kids.length = N := ⟨_, rfl⟩
 rw [hN] at HN0 hl hld ⊢
 have HSB : Hid (IntKind.i64.wrap (((N : Nat) : Int) - (ldg 2 kids : Nat)) = (((N - ldg 2 kids : Nat)) : Int)) := hid (by rw [IntWalk.i64_in _ ⟨by omega, by omega⟩]; omega)
 clear hm hn ht hk hl hld hN
 go_enter Tryz.func27, Tryz.ntmps27
 go_upto_region 0 with fail
 refine rl ?_
 obtain ⟨w3, g1, (HX : Hid _), (K2 : Hid _), (HB4 : Hid _)⟩ := box_x 24 w #[(.int .i64 k), (strV tx), (.int .i64 n), (.slice a N c), (.int .i64 at_)]
 refine wp_run (v := (.pointer (some ⟨g1, 0, none⟩))) rfl rfl (run_boxOp rfl (by kernel_rfl) HX.out) rfl ?_
 try simp only [nA, nB, nC]
 replace HM := ka HB4 HM
 replace HBN := kb HBN HB4
 refine qv .nilIface ?_
 refine qv (.bool false) ?_
 simp only [nA, nB, nC]
 refine we ?_
 go_upto_region 1 with fail
 refine rl ?_
 refine qf (fa_api_Node_3 g1 0) ?_
 refine ql (.slice a N c) Tryz.isAgg22 3 K2 ?_
 simp only [nA, nB, nC]
 refine qc #[(.slice a N c), (.int .i64 2)] ?_
 have HCA := hid (leading_any (HN0.out.later HBN.out).kds 2)
 refine HCA.out.mono ?_
 rintro e wz ⟨rfl, hwz⟩
 refine ⟨_, rfl, ?_⟩
 obtain rfl := hwz.symm
 try simp only [Act.put, nA, nB, nC]
 refine qv (.int .i64 ((ldg 2 kids : Nat))) ?_
 simp only [nA, nB, nC]
 refine we ?_
 go_upto_region 2 with fail
 refine rl ?_
 refine qf (fa_api_Node_3 g1 0) ?_
 refine ql (.slice a N c) Tryz.isAgg22 3 K2 ?_
 simp only [nA, nB, nC]
 refine wp_y (v := (.int .i64 (((N : Nat) : Int)))) rfl rfl (y_lenT len_Sapi_Node (p := a) (n := N) (c := c) rfl (by kernel_rfl) (by kernel_rfl)) rfl ?_
 simp only [nA, nB, nC]
 refine qv (.int .i64 ((ldg 2 kids : Nat))) ?_
 refine qb (bsub_int ((N : Nat) : Int) (ldg 2 kids : Nat) (((N - ldg 2 kids : Nat)) : Int) HSB.out) ?_
 refine qv (.int .i64 ((((N - ldg 2 kids : Nat)) : Int))) ?_
 simp only [nA, nB, nC]
 refine we ?_
 go_upto_region 3 with fail
 refine rl ?_
 refine qv (.pointer (some ⟨p, 0, none⟩)) ?_
 refine qk (nv k tx n (.slice a N c) at_) Tryz.isAgg24 K2 ?_
 simp only [nA, nB, nC]
 refine qc #[(.pointer (some ⟨p, 0, none⟩)), (nv k tx n (.slice a N c) at_), (.int .i64 1)] ?_
 have HCA := hid (isNamed_any HM.out (by decide) (by decide) (HN0.out.later HBN.out) HT.out 1)
 refine HCA.out.mono ?_
 rintro e w5 ⟨he, hF, hm⟩
 rw [(show (decide ((0 : Int) ≤ 8192 - 1) && nmd 1 k tx n) = false from by rw [nmd, HK1.out]; rfl)] at he
 subst he
 refine ⟨_, rfl, ?_⟩
 have HFE : Hid (Fr [p] w w5) := hid ((Fr.of_below (X := [p]) HBN.out).trans hF (by simp))
 clear hF hm
 try simp only [Act.put, nA, nB, nC]
 refine wp_y (v := (.bool true)) rfl rfl (y_un (p := .bool false) rfl (by kernel_rfl) (by kernel_rfl) (fun w => qnotB false w)) rfl ?_
 simp only [nA, nB, nC]
 refine qv (.bool true) ?_
 simp only [nA, nB, nC]
 refine qs rfl ?_
 simp only [nA, nB, nC]
 refine qs rfl ?_
 simp only [nA, nB, nC]
 refine qv (.bool true) ?_
 refine qv (.bool true) ?_
 simp only [nA, nB, nC]
 refine qs rfl ?_
 simp only [nA, nB, nC]
 refine qs rfl ?_
 simp only [nA, nB, nC]
 refine qv (.bool true) ?_
 simp only [nA, nB, nC]
 refine we ?_
 go_upto_region 4 with fail
 refine rl ?_
 refine qv .nilIface ?_
 refine qv (.bool false) ?_
 simp only [nA, nB, nC]
 refine we ?_
 go_wp2_with fail
 go_ret2
 exact ⟨rfl, HFE.out⟩
seal wpList in
theorem right_no {w : World} {v : Value} {k : Int} {tx : List UInt8} {n : Int} {kids : List Tr} {at_ : Int} (hn : Nd w v (.mk k tx n kids at_)) (ht : tx.length ≤ 9223372036854775807) (hk : (k == 1) = false) : Calls Tryz.prog 14 #[v] w fun e w' => e = .returned (.bool false) ∧ Below w.heap.size w w' := by
 obtain ⟨a, c, rfl, hl, -⟩ := hn.open
 have HN := hid hn
 have HT := hid ht
 have HK1 := hid hk
 have HB0 := hid (Below.refl w.heap.size w)
 clear hn ht hk hl
 generalize kids.length = N at *
 go_enter Tryz.func14, Tryz.ntmps14
 go_upto_region 0 with fail
 refine rl ?_
 obtain ⟨w3, g1, (HX : Hid _), (K2 : Hid _), (HB4 : Hid _)⟩ := box_x 24 w #[(.int .i64 k), (strV tx), (.int .i64 n), (.slice a N c), (.int .i64 at_)]
 refine wp_run (v := (.pointer (some ⟨g1, 0, none⟩))) rfl rfl (run_boxOp rfl (by kernel_rfl) HX.out) rfl ?_
 try simp only [nA, nB, nC]
 replace HN := hid (HN.out.later HB4.out)
 replace HB0 := kb HB0 HB4
 refine qv (.bool false) ?_
 simp only [nA, nB, nC]
 refine we ?_
 go_upto_region 1 with fail
 obtain ⟨w5, hwd⟩ : ∃ x, x = w3.drew := ⟨_, rfl⟩
 have HB6 : Hid (Below w3.heap.size w3 w5) := hid (by rw [hwd]; exact ⟨rfl, rfl, rfl, Nat.le_refl _, fun _ _ => rfl⟩)
 refine h_openL (S := fun x => Below w5.heap.size w5 x) (by kernel_rfl) (by kernel_rfl) (fun _ _ _ _ _ h => h) (L := #[false, false, false, false, false, false, false, false]) (by kernel_rfl) ?_
 intro Q' hns hP hN
 rw [← hwd]
 clear hwd
 replace K2 := ka HB6 K2
 replace HN := hid (HN.out.later HB6.out)
 replace HB0 := kb HB0 HB6
 have hS : Below w5.heap.size w5 w5 := Below.refl _ _
 refine h_takeL (i := 1) (v := (nv k tx n (.slice a N c) at_)) hns rfl rfl (by kernel_rfl) (by kernel_rfl) hP (y_load rfl (hl := fun w' h => load_blk Tryz.isAgg24 (by kernel_rfl) rfl (below_at h K2.out (heap_lt K2.out)))) hS rfl (L' := #[false, true, false, false, false, false, false, false]) (by kernel_rfl) ?_
 try simp only [nA, nB, nC]
 refine h_callL (i := 0) (f := 26) (args := #[]) (by kernel_rfl) rfl rfl (by kernel_rfl) (enter_go rfl (by kernel_rfl) (fun w => by go_simp)) (L' := #[true, true, false, false, false, false, false, false]) (by kernel_rfl) ?_
 have HCA := hid (newMaker_any w5)
 refine HCA.out.mono ?_
 rintro e w7 ⟨p, he, hm, hb, hge⟩
 ·subst he
  replace hS := hS.trans (hb.mono hS.size)
  refine ⟨_, rfl, hS, ?_⟩
  have HB00 : Hid (w.heap.size ≤ w5.heap.size) := hid HB0.out.size
  have HM := hid hm
  have HBN := hid hb
  have HGS := hid hge
  clear hm hge hb
  replace K2 := ka HBN K2
  replace HN := hid (HN.out.later HBN.out)
  replace HB0 := kb HB0 HBN
  try simp only [nA, nB, nC]
  refine h_callL (i := 2) (f := 27) (args := #[(.pointer (some ⟨p, 0, none⟩)), (nv k tx n (.slice a N c) at_)]) (by kernel_rfl) rfl rfl (by kernel_rfl) (enter_go rfl (by kernel_rfl) (fun w => by go_simp)) (L' := #[true, true, true, false, false, false, false, false]) (by kernel_rfl) ?_
  have HCA := hid (module_no HM.out HN.out HT.out HK1.out)
  refine HCA.out.mono ?_
  rintro e w8 ⟨he, hF⟩
  ·subst he
   replace hS := hS.trans (hF.below hS.size (by have := HGS.out; simpa using this))
   refine ⟨_, rfl, hS, ?_⟩
   have HBF : Hid (Below w.heap.size w w8) := hid (HB0.out.trans (hF.below HB0.out.size (by have := HGS.out; have := HB00.out; simp; omega)))
   clear hF
   try simp only [nA, nB, nC]
   refine h_takeL (i := 3) (v := (.tuple #[.nilIface, (.bool false)])) hns rfl rfl (by kernel_rfl) (by kernel_rfl) hP (y_move rfl) hS rfl (L' := #[true, true, true, true, false, false, false, false]) (by kernel_rfl) ?_
   try simp only [nA, nB, nC]
   refine h_takeL (i := 4) (v := .nilIface) hns rfl rfl (by kernel_rfl) (by kernel_rfl) hP (y_ext rfl (hr := ext2_0 .nilIface (.bool false))) hS rfl (L' := #[true, true, true, true, true, false, false, false]) (by kernel_rfl) ?_
   try simp only [nA, nB, nC]
   refine h_takeL (i := 5) (v := (.bool false)) hns rfl rfl (by kernel_rfl) (by kernel_rfl) hP (y_ext rfl (hr := ext2_1 .nilIface (.bool false))) hS rfl (L' := #[true, true, true, true, true, true, false, false]) (by kernel_rfl) ?_
   try simp only [nA, nB, nC]
   refine h_takeL (i := 6) (v := .nilIface) hns rfl rfl (by kernel_rfl) (by kernel_rfl) hP (y_assign rfl) hS rfl (L' := #[true, true, true, true, true, true, true, false]) (by kernel_rfl) ?_
   try simp only [nA, nB, nC]
   refine h_takeL (i := 7) (v := (.bool false)) hns rfl rfl (by kernel_rfl) (by kernel_rfl) hP (y_assign rfl) hS rfl (L' := #[true, true, true, true, true, true, true, true]) (by kernel_rfl) ?_
   try simp only [nA, nB, nC]
   refine wpAnyH_done (by kernel_rfl) ?_ _
   refine hN _ _ ?_
   clear hP hN hns hS
   go_upto_region 2 with fail
   refine rl ?_
   refine qv (.bool false) ?_
   refine qv (.bool false) ?_
   simp only [nA, nB, nC]
   refine we ?_
   go_wp2_with fail
   go_ret
   exact ⟨rfl, HBF.out⟩
theorem fld_usanceref07_Token_0 {o : Oper} {a : Act} {w : World} {x : Operand} (hop : o.op = .field 75 x 0) (z0 : Int) (s1 : List UInt8) (z2 z3 : Int) (hx : a.eval x = .agg #[.int .i64 z0, strV s1, .int .i64 z2, .int .i64 z3]) : (execOp a.eval o).run Tryz.prog w = .ok (.value (.int .i64 z0)) w := by
 have h1 : (Instr.field 75 (.agg #[.int .i64 z0, strV s1, .int .i64 z2, .int .i64 z3]) 0).run Tryz.prog w = .ok (.int .i64 z0) w := by kernel_rfl
 unfold execOp
 rw [hop]
 simp only [hx, Sem.run_bind, h1, Result.andThen_ok]
 rfl
theorem bu_usanceref07_parser_0 (w : World) (a0 : Option Addr) (n0 c0 : Nat) : (Instr.build 97 #[(0, (.slice a0 n0 c0))]).run Tryz.prog w = .ok (.agg #[(.slice a0 n0 c0), (.int .i64 0), (.int .i64 0), (.int .i64 0), (.int .i64 0)]) w := by
 go_simp
theorem Tks.frx {w w' : World} {g : Nat} {b o n c : Nat} {ts : List Tok} (h : Tks w (.slice (some ⟨b, o, none⟩) n c) ts) (hF : Fr [g] w w') (hg : b ≠ g) : Tks w' (.slice (some ⟨b, o, none⟩) n c) ts := by
 obtain ⟨b', o', c', cur, z, e, hl, hb, r⟩ := h
 cases e
 exact ⟨_, _, _, cur, z, rfl, hl, hF.at hb (by simpa using hg), r⟩
seal wpList in
theorem read_any (w : World) : Calls Tryz.prog 42 #[strV [97, 32, 45, 32, 98, 32, 45, 32, 49, 46, 53], .bool false] w fun e w' => ∃ g1 g2, e = .returned (.tuple #[(.agg #[(.int .i64 13), (strV [45]), (.int .i64 0), (.slice (some ⟨g2, 0, none⟩) 2 2), (.int .i64 6)]), .int .i64 0, .int .i64 0]) ∧ w'.heap[g1]? = some (.cells #[(.int .i64 10), (strV [97]), (.int .i64 0), (.slice none 0 0), (.int .i64 0), (.int .i64 10), (strV [98]), (.int .i64 0), (.slice none 0 0), (.int .i64 4)] 24 (0, 0)) ∧ w'.heap[g2]? = some (.cells #[(.int .i64 13), (strV [45]), (.int .i64 0), (.slice (some ⟨g1, 0, none⟩) 2 2), (.int .i64 2), (.int .i64 5), (strV []), (.int .i64 1500000), (.slice none 0 0), (.int .i64 8)] 24 (0, 0)) ∧ Below w.heap.size w w' ∧ w.heap.size ≤ g1 ∧ w.heap.size ≤ g2 := by
 have HB0 := hid (Below.refl w.heap.size w)
 go_enter Tryz.func42, Tryz.ntmps42
 go_upto_region 0 with fail
 refine rl ?_
 obtain ⟨w3, g1, (HX : Hid _), (K2 : Hid _), (HB4 : Hid _), (GV : Hid _)⟩ := alh_api_Node w
 have GE_g1 := kh HB0 GV
 refine wp_run (v := (.pointer (some ⟨g1, 0, none⟩))) rfl rfl (run_alOp rfl HX.out) rfl ?_
 try simp only [nA, nB, nC]
 replace HB0 := kb HB0 HB4
 refine qv (.int .i64 0) ?_
 refine qv (.int .i64 0) ?_
 simp only [nA, nB, nC]
 refine we ?_
 go_upto_region 1 with fail
 refine rl ?_
 refine qv (strV [97, 32, 45, 32, 98, 32, 45, 32, 49, 46, 53]) ?_
 simp only [nA, nB, nC]
 refine qc #[(strV [97, 32, 45, 32, 98, 32, 45, 32, 49, 46, 53])] ?_
 have HCA := hid (scan_any w3)
 refine HCA.out.mono ?_
 rintro e w5 ⟨v7, he, hto, hb⟩
 ·subst he
  refine ⟨_, rfl, ?_⟩
  have HTK := hid (hto.tks (by decide) (by decide))
  have HBS := hid hb
  clear hto hb
  replace K2 := ka HBS K2
  replace HB0 := kb HB0 HBS
  obtain ⟨bt, ot, ct, cur, zt, rfl, hl9, hr9⟩ := HTK.out
  have HTK2 : Hid (Tks w5 (.slice (some ⟨bt, ot, none⟩) 6 ct) tk6) := hid ⟨bt, ot, ct, cur, zt, rfl, hl9, hr9⟩
  clear hl9 hr9 HTK
  try simp only [Act.put, nA, nB, nC]
  refine qv (.tuple #[(.slice (some ⟨bt, ot, none⟩) 6 ct), (.int .i64 0), (.int .i64 0)]) ?_
  refine qv (.slice (some ⟨bt, ot, none⟩) 6 ct) ?_
  refine qv (.int .i64 0) ?_
  refine qv (.int .i64 0) ?_
  simp only [nA, nB, nC]
  refine qv (.slice (some ⟨bt, ot, none⟩) 6 ct) ?_
  refine qv (.int .i64 0) ?_
  refine qv (.int .i64 0) ?_
  simp only [nA, nB, nC]
  refine we ?_
  go_upto_region 2 with fail
  refine rl ?_
  refine qv (.int .i64 0) ?_
  refine qv (.bool false) ?_
  simp only [nA, nB, nC]
  refine we ?_
  go_upto_region 4 with fail
  refine rl ?_
  refine qv (.slice (some ⟨bt, ot, none⟩) 6 ct) ?_
  simp only [nA, nB, nC]
  refine wp_y (v := (.agg #[(.slice (some ⟨bt, ot, none⟩) 6 ct), (.int .i64 0), (.int .i64 0), (.int .i64 0), (.int .i64 0)])) rfl rfl (y_val2 rfl (h := fun w' h => by rw [h]; exact run_buildOp rfl (by kernel_rfl) (bu_usanceref07_parser_0 w5 (some ⟨bt, ot, none⟩) 6 ct))) rfl ?_
  simp only [nA, nB, nC]
  obtain ⟨w8, g6, (HX : Hid _), (K7 : Hid _), (HB9 : Hid _), (GV : Hid _)⟩ := box_g 97 w5 #[(.slice (some ⟨bt, ot, none⟩) 6 ct), (.int .i64 0), (.int .i64 0), (.int .i64 0), (.int .i64 0)]
  have NE_g1_g6 := kn K2 GV
  have GE_g6 := kh HB0 GV
  have HNT_g6 : Hid (bt ≠ g6) := hid (by obtain ⟨b9, o9, c9, cu9, z9, e9, -, hb9, -⟩ := HTK2.out; cases e9; exact Nat.ne_of_lt (Nat.lt_of_lt_of_le (heap_lt hb9) GV.out))
  refine wp_run (v := (.pointer (some ⟨g6, 0, none⟩))) rfl rfl (run_boxOp rfl (by kernel_rfl) HX.out) rfl ?_
  try simp only [nA, nB, nC]
  replace K2 := ka HB9 K2
  replace HTK2 := hid (HTK2.out.below HB9.out)
  replace HB0 := kb HB0 HB9
  refine qv (.pointer (some ⟨g6, 0, none⟩)) ?_
  simp only [nA, nB, nC]
  refine we ?_
  go_upto_region 5 with fail
  refine rl ?_
  obtain ⟨w12, g10, (HX : Hid _), (K11 : Hid _), (HB13 : Hid _), (GV : Hid _)⟩ := alh_api_Node w8
  have NE_g1_g10 := kn K2 GV
  have NE_g6_g10 := kn K7 GV
  have GE_g10 := kh HB0 GV
  have HNT_g10 : Hid (bt ≠ g10) := hid (by obtain ⟨b9, o9, c9, cu9, z9, e9, -, hb9, -⟩ := HTK2.out; cases e9; exact Nat.ne_of_lt (Nat.lt_of_lt_of_le (heap_lt hb9) GV.out))
  refine wp_run (v := (.pointer (some ⟨g10, 0, none⟩))) rfl rfl (run_alOp rfl HX.out) rfl ?_
  try simp only [nA, nB, nC]
  replace K2 := ka HB13 K2
  replace K7 := ka HB13 K7
  replace HTK2 := hid (HTK2.out.below HB13.out)
  replace HB0 := kb HB0 HB13
  refine we ?_
  go_upto_region 6 with fail
  refine rl ?_
  refine qv (.bool false) ?_
  simp only [nA, nB, nC]
  refine we ?_
  go_upto_region 8 with fail
  refine rl ?_
  refine qv (.pointer (some ⟨g6, 0, none⟩)) ?_
  simp only [nA, nB, nC]
  refine qc #[(.pointer (some ⟨g6, 0, none⟩))] ?_
  have HCA := hid (pexpr_any (show Psr _ _ _ 0 0 from K7.out) HTK2.out)
  refine HCA.out.mono ?_
  rintro e w16 ⟨g14, g15, he, hk1, hk2, hge1, hge2, hF, hp⟩
  ·subst he
   refine ⟨_, rfl, ?_⟩
   have GV := hid hge1
   have GV2 := hid hge2
   have Kg14 := hid hk1
   have Kg15 := hid hk2
   clear hge1 hge2 hk1 hk2
   have NE_g1_g14 := kn K2 GV
   have NE_g6_g14 := kn K7 GV
   have NE_g10_g14 := kn K11 GV
   have GE_g14 := kh HB0 GV
   have HNT_g14 : Hid (bt ≠ g14) := hid (by obtain ⟨b9, o9, c9, cu9, z9, e9, -, hb9, -⟩ := HTK2.out; cases e9; exact Nat.ne_of_lt (Nat.lt_of_lt_of_le (heap_lt hb9) GV.out))
   have NE_g1_g15 := kn K2 GV2
   have NE_g6_g15 := kn K7 GV2
   have NE_g10_g15 := kn K11 GV2
   have GE_g15 := kh HB0 GV2
   have HNT_g15 : Hid (bt ≠ g15) := hid (by obtain ⟨b9, o9, c9, cu9, z9, e9, -, hb9, -⟩ := HTK2.out; cases e9; exact Nat.ne_of_lt (Nat.lt_of_lt_of_le (heap_lt hb9) GV2.out))
   clear GV GV2
   replace K2 := hid (Fr.at hF K2.out (by simpa using NE_g1_g6.out))
   replace K11 := hid (Fr.at hF K11.out (by simpa using (Ne.symm NE_g6_g10.out)))
   replace HTK2 := hid (HTK2.out.fr hF K7.out)
   replace HB0 := hid (HB0.out.trans (hF.below HB0.out.size (by simpa using GE_g6.out)))
   replace K7 := hid hp
   clear hF hp
   try simp only [Act.put, nA, nB, nC]
   obtain ⟨w17, hbx, hbk, hbf⟩ := st_x (T := 24) (c := #[(.int .i64 0), (strV []), (.int .i64 0), (.slice none 0 0), (.int .i64 0)]) (c' := #[(.int .i64 13), (strV [45]), (.int .i64 0), (.slice (some ⟨g15, 0, none⟩) 2 2), (.int .i64 6)]) (by kernel_rfl) rfl rfl K11.out (by intro v hv; simp at hv; rcases hv with rfl | rfl | rfl | rfl | rfl <;> first | rfl | assumption)
   replace K11 := hid hbk
   have HF18 := hid hbf
   have HX := hid hbx
   clear hbx hbk hbf
   refine wp_do rfl rfl (run_storeOp rfl (by kernel_rfl) (by kernel_rfl) HX.out) ?_
   try simp only [nA, nB, nC]
   replace K2 := hid (Fr.at HF18.out K2.out (by simpa using NE_g1_g10.out))
   replace K7 := hid (Fr.at HF18.out K7.out (by simpa using NE_g6_g10.out))
   replace Kg14 := hid (Fr.at HF18.out Kg14.out (by simpa using (Ne.symm NE_g10_g14.out)))
   replace Kg15 := hid (Fr.at HF18.out Kg15.out (by simpa using (Ne.symm NE_g10_g15.out)))
   replace HB0 := hid (HB0.out.trans (HF18.out.below HB0.out.size (by simpa using GE_g10.out)))
   replace HTK2 : Hid (Tks w17 _ tk6) := hid (Tks.frx HTK2.out HF18.out (HNT_g10.out))
   refine we ?_
   go_upto_region 9 with fail
   refine rl ?_
   refine qv (.pointer (some ⟨g6, 0, none⟩)) ?_
   refine qv (.pointer (some ⟨g6, 0, none⟩)) ?_
   refine qf (fa_usanceref07_parser_3 g6 0) ?_
   refine ql (.int .i64 0) Tryz.isAgg26 3 K7 ?_
   simp only [nA, nB, nC]
   refine qv (.bool true) ?_
   refine qv (.bool true) ?_
   simp only [nA, nB, nC]
   refine qg (.pointer (some ⟨g6, 0, none⟩)) rfl ?_
   simp only [nA, nB, nC]
   refine wp_callg (f := 68) (args := #[(.pointer (some ⟨g6, 0, none⟩))]) rfl (by kernel_rfl) (enter_go rfl (by kernel_rfl) (fun w => by go_simp)) ?_
   have HCA := hid (look_any (i := 5) (t := ⟨0, [], 0, 11⟩) (show Psr _ _ _ ((5 : Nat) : Int) 0 from K7.out) HTK2.out rfl)
   refine HCA.out.mono ?_
   rintro e w19 ⟨rfl, (HB20 : Hid _)⟩
   refine ⟨_, rfl, ?_⟩
   replace K2 := ka HB20 K2
   replace K7 := ka HB20 K7
   replace K11 := ka HB20 K11
   replace Kg14 := ka HB20 Kg14
   replace Kg15 := ka HB20 Kg15
   replace HTK2 := hid (HTK2.out.below HB20.out)
   replace HB0 := kb HB0 HB20
   try simp only [nA, nB, nC]
   refine wp_yg (v := (.int .i64 0)) rfl (y_val2 rfl (h := fun w' _ => fld_usanceref07_Token_0 rfl 0 [] 0 11 (by kernel_rfl))) rfl ?_
   try simp only [nA, nB, nC]
   refine qg (.bool false) rfl ?_
   simp only [nA, nB, nC]
   refine qv (.bool false) ?_
   simp only [nA, nB, nC]
   refine we ?_
   go_upto_region 11 with fail
   refine rl ?_
   refine qv (.pointer (some ⟨g6, 0, none⟩)) ?_
   refine qv (.pointer (some ⟨g6, 0, none⟩)) ?_
   refine qf (fa_usanceref07_parser_3 g6 0) ?_
   refine ql (.int .i64 0) Tryz.isAgg26 3 K7 ?_
   simp only [nA, nB, nC]
   refine qv (.bool false) ?_
   simp only [nA, nB, nC]
   refine we ?_
   go_upto_region 13 with fail
   refine rl ?_
   refine qk (.agg #[(.int .i64 13), (strV [45]), (.int .i64 0), (.slice (some ⟨g15, 0, none⟩) 2 2), (.int .i64 6)]) Tryz.isAgg24 K11 ?_
   simp only [nA, nB, nC]
   obtain ⟨w21, hbx, hbk, hbf⟩ := st_x (T := 24) (c := #[(.int .i64 0), (strV []), (.int .i64 0), (.slice none 0 0), (.int .i64 0)]) (c' := #[(.int .i64 13), (strV [45]), (.int .i64 0), (.slice (some ⟨g15, 0, none⟩) 2 2), (.int .i64 6)]) (by kernel_rfl) rfl rfl K2.out (by intro v hv; simp at hv; rcases hv with rfl | rfl | rfl | rfl | rfl <;> first | rfl | assumption)
   replace K2 := hid hbk
   have HF22 := hid hbf
   have HX := hid hbx
   clear hbx hbk hbf
   refine wp_do rfl rfl (run_storeOp rfl (by kernel_rfl) (by kernel_rfl) HX.out) ?_
   try simp only [nA, nB, nC]
   replace K7 := hid (Fr.at HF22.out K7.out (by simpa using (Ne.symm NE_g1_g6.out)))
   replace K11 := hid (Fr.at HF22.out K11.out (by simpa using (Ne.symm NE_g1_g10.out)))
   replace Kg14 := hid (Fr.at HF22.out Kg14.out (by simpa using (Ne.symm NE_g1_g14.out)))
   replace Kg15 := hid (Fr.at HF22.out Kg15.out (by simpa using (Ne.symm NE_g1_g15.out)))
   replace HB0 := hid (HB0.out.trans (HF22.out.below HB0.out.size (by simpa using GE_g1.out)))
   refine qv (.int .i64 0) ?_
   refine qv (.int .i64 0) ?_
   simp only [nA, nB, nC]
   refine we ?_
   go_wp2_with fail
   exact ret_three rfl rfl rfl (load_blk Tryz.isAgg24 (by kernel_rfl) rfl K2.out) ⟨g14, g15, rfl, Kg14.out, Kg15.out, HB0.out, GE_g14.out, GE_g15.out⟩
seal wpList in
theorem rexpr_any (w : World) : Calls Tryz.prog 24 #[strV [97, 32, 45, 32, 98, 32, 45, 32, 49, 46, 53]] w fun e w' => ∃ g1 g2, e = .returned (.tuple #[(.agg #[(.int .i64 13), (strV [45]), (.int .i64 0), (.slice (some ⟨g2, 0, none⟩) 2 2), (.int .i64 6)]), .int .i64 0, .int .i64 0]) ∧ w'.heap[g1]? = some (.cells #[(.int .i64 10), (strV [97]), (.int .i64 0), (.slice none 0 0), (.int .i64 0), (.int .i64 10), (strV [98]), (.int .i64 0), (.slice none 0 0), (.int .i64 4)] 24 (0, 0)) ∧ w'.heap[g2]? = some (.cells #[(.int .i64 13), (strV [45]), (.int .i64 0), (.slice (some ⟨g1, 0, none⟩) 2 2), (.int .i64 2), (.int .i64 5), (strV []), (.int .i64 1500000), (.slice none 0 0), (.int .i64 8)] 24 (0, 0)) ∧ Below w.heap.size w w' := by
 have HB0 := hid (Below.refl w.heap.size w)
 go_enter Tryz.func24, Tryz.ntmps24
 go_upto_region 0 with fail
 refine rl ?_
 obtain ⟨w3, g1, (HX : Hid _), (K2 : Hid _), (HB4 : Hid _), (GV : Hid _)⟩ := alh_api_Node w
 have GE_g1 := kh HB0 GV
 refine wp_run (v := (.pointer (some ⟨g1, 0, none⟩))) rfl rfl (run_alOp rfl HX.out) rfl ?_
 try simp only [nA, nB, nC]
 replace HB0 := kb HB0 HB4
 refine qv (.int .i64 0) ?_
 refine qv (.int .i64 0) ?_
 simp only [nA, nB, nC]
 refine we ?_
 go_upto_region 1 with fail
 refine rl ?_
 refine qv (strV [97, 32, 45, 32, 98, 32, 45, 32, 49, 46, 53]) ?_
 simp only [nA, nB, nC]
 refine qc #[(strV [97, 32, 45, 32, 98, 32, 45, 32, 49, 46, 53]), (.bool false)] ?_
 have HCA := hid (read_any w3)
 refine HCA.out.mono ?_
 rintro e w7 ⟨g5, g6, he, hk1, hk2, hb, hge1, hge2⟩
 ·subst he
  refine ⟨_, rfl, ?_⟩
  have HRA : Hid (¬ g5 = g1) := hid (fun e9 => by have h1 := heap_lt K2.out; have h2 := hge1; omega)
  have HRB : Hid (¬ g6 = g1) := hid (fun e9 => by have h1 := heap_lt K2.out; have h2 := hge2; omega)
  clear hge1 hge2
  have Kg5 := hid hk1
  have Kg6 := hid hk2
  have HBR := hid hb
  clear hk1 hk2 hb
  replace K2 := ka HBR K2
  replace HB0 := kb HB0 HBR
  try simp only [Act.put, nA, nB, nC]
  refine qv (.agg #[(.int .i64 13), (strV [45]), (.int .i64 0), (.slice (some ⟨g6, 0, none⟩) 2 2), (.int .i64 6)]) ?_
  refine qv (.int .i64 0) ?_
  refine qv (.int .i64 0) ?_
  simp only [nA, nB, nC]
  obtain ⟨w8, hbx, hbk, hbf⟩ := st_x (T := 24) (c := #[(.int .i64 0), (strV []), (.int .i64 0), (.slice none 0 0), (.int .i64 0)]) (c' := #[(.int .i64 13), (strV [45]), (.int .i64 0), (.slice (some ⟨g6, 0, none⟩) 2 2), (.int .i64 6)]) (by kernel_rfl) rfl rfl K2.out (by intro v hv; simp at hv; rcases hv with rfl | rfl | rfl | rfl | rfl <;> first | rfl | assumption)
  replace K2 := hid hbk
  have HF9 := hid hbf
  have HX := hid hbx
  clear hbx hbk hbf
  refine wp_do rfl rfl (run_storeOp rfl (by kernel_rfl) (by kernel_rfl) HX.out) ?_
  try simp only [nA, nB, nC]
  have KA := hid (Fr.at HF9.out Kg5.out (by have h9 := HRA.out; simpa using h9))
  have KB := hid (Fr.at HF9.out Kg6.out (by have h9 := HRB.out; simpa using h9))
  replace HB0 := hid (HB0.out.trans (HF9.out.below HB0.out.size (by simpa using GE_g1.out)))
  refine qv (.int .i64 0) ?_
  refine qv (.int .i64 0) ?_
  simp only [nA, nB, nC]
  refine we ?_
  go_wp2_with fail
  exact ret_three rfl rfl rfl (load_blk Tryz.isAgg24 (by kernel_rfl) rfl K2.out) ⟨g5, g6, rfl, KA.out, KB.out, HB0.out⟩
theorem showL_15 : showL 1500000 = [49, 46, 53] := by
 have e : clampI 1500000 = 1500000 := clampI_in (by omega) (by omega)
 have e1 : Lib.itoa 1 = [49] := by rw [itoa_nonneg (by omega)]; unfold Lib.decDigits; simp
 unfold showL
 rw [e, if_neg (by omega)]
 unfold showPos
 rw [show (1500000 : Int) / 1000000 = 1 by rfl, show (1500000 : Int) % 1000000 = 500000 by rfl, e1]
 simp [fracDigits, putN, putF]
def tr2 : Tr := (.mk 13 [45] 0 [(.mk 13 [45] 0 [(.mk 10 [97] 0 [] 0), (.mk 10 [98] 0 [] 4)] 2), (.mk 5 [] 1500000 [] 8)] 6)
theorem tr2_ok : Tr.Ok tr2 := by
 have leaf : ∀ (k : Int) (tx : List UInt8) (n a : Int), (-100000000 ≤ k ∧ k ≤ 100000000) → tx.length ≤ 100 → (-100000000 ≤ n ∧ n ≤ 100000000) → (-100000000 ≤ a ∧ a ≤ 100000000) → Tr.Ok (.mk k tx n [] a) := fun k tx n a hk ht hn ha =>
  .mk k tx n [] a ⟨by omega, by omega⟩ ⟨by omega, by omega⟩ ⟨by omega, by omega⟩ (by omega) (fun i t h => by simp at h)
 refine .mk _ _ _ _ _ (by decide) (by decide) (by decide) (by decide) (fun i t h => ?_)
 match i, h with
 | 0, h =>
  cases h
  refine .mk _ _ _ _ _ (by decide) (by decide) (by decide) (by decide) (fun i t h => ?_)
  match i, h with
  | 0, h => cases h; exact leaf _ _ _ _ (by decide) (by decide) (by decide) (by decide)
  | 1, h => cases h; exact leaf _ _ _ _ (by decide) (by decide) (by decide) (by decide)
 | 1, h => cases h; exact leaf _ _ _ _ (by decide) (by decide) (by decide) (by decide)
theorem tr2_rt : (rt 100 tr2 && decide (0 ≤ lft tr2 8192)) = true := by kernel_rfl
theorem tr2_fw : fw (wrOf tr2) = [40, 97, 32, 45, 32, 98, 41, 32, 45, 32, 49, 46, 53] := by
 have h : wrOf tr2 = .binary [45] (.binary [45] (.word [97]) (.word [98])) (.word (showL 1500000)) := by kernel_rfl
 rw [h, showL_15]
 rfl
theorem fa9 : ([40, 97, 32, 45, 32, 98, 41, 32, 45, 32, 49, 46, 53] : List UInt8).length ≤ 140737488355328 := by decide
theorem sexpr_c {w : World} {v : Value} (htb : Tb w.heap.size w) (hn : Nd w v tr2) : Calls Tryz.prog 12 #[v] w fun e w' => e = .returned (.tuple #[strV [40, 97, 32, 45, 32, 98, 41, 32, 45, 32, 49, 46, 53], .int .i64 0]) ∧ Below w.heap.size w w' := by
 refine (expr12_any tr2_ok htb hn (fun _ => by rw [tr2_fw]; exact fa9)).mono fun e w' h => ?_
 rw [tr2_rt, tr2_fw] at h
 exact h
seal wpList in
theorem shown_any {w : World} (htb : Tb w.heap.size w) : Calls Tryz.prog 9 #[] w fun e w' => e = .returned (.bool true) ∧ Below w.heap.size w w' := by
 have HB0 := hid (Below.refl w.heap.size w)
 have HTB := hid htb
 clear htb
 go_enter Tryz.func9, Tryz.ntmps9
 go_upto_region 0 with fail
 refine rl ?_
 refine qv (.bool false) ?_
 try simp only [List.setIfInBounds_toArray, List.set_cons_zero]
 refine we ?_
 go_upto_region 1 with fail
 refine rl ?_
 refine qc #[(strV [97, 32, 45, 32, 98, 32, 45, 32, 49, 46, 53])] ?_
 have HCA := hid (rexpr_any w)
 refine HCA.out.mono ?_
 rintro e w3 ⟨g1, g2, he, hk1, hk2, hb⟩
 ·subst he
  refine ⟨_, rfl, ?_⟩
  have Kg1 := hid hk1
  have Kg2 := hid hk2
  have HBR := hid hb
  clear hk1 hk2 hb
  replace HTB := hid (HTB.out.below HBR.out)
  replace HB0 := kb HB0 HBR
  try simp only [Act.put, nA, nB, nC]
  refine qv (.tuple #[(.agg #[(.int .i64 13), (strV [45]), (.int .i64 0), (.slice (some ⟨g2, 0, none⟩) 2 2), (.int .i64 6)]), (.int .i64 0), (.int .i64 0)]) ?_
  refine qv (.agg #[(.int .i64 13), (strV [45]), (.int .i64 0), (.slice (some ⟨g2, 0, none⟩) 2 2), (.int .i64 6)]) ?_
  refine qv (.int .i64 0) ?_
  refine qv (.int .i64 0) ?_
  simp only [nA, nB, nC]
  obtain ⟨wv, w6, g4, hx1, hx2, hbk, hbb, hge⟩ := var_api_Node w3 13 [45] 0 (some ⟨g2, 0, none⟩) 2 2 6
  have K5 := hid hbk
  have HBV := hid hbb
  have HX1 := hid hx1
  have HX2 := hid hx2
  have GV := hid hge
  clear hx1 hx2 hbk hbb hge
  refine wp_run (v := (.pointer (some ⟨g4, 0, none⟩))) rfl rfl (run_alOp rfl HX1.out) rfl ?_
  try simp only [nA, nB, nC]
  refine wp_do rfl rfl (run_storeOp rfl (by kernel_rfl) (by kernel_rfl) HX2.out) ?_
  try simp only [nA, nB, nC]
  clear HX1 HX2
  have NE_g1_g4 := kn Kg1 GV
  have NE_g2_g4 := kn Kg2 GV
  have GE_g4 := kh HB0 GV
  replace Kg1 := ka HBV Kg1
  replace Kg2 := ka HBV Kg2
  replace HTB := hid (HTB.out.below HBV.out)
  replace HB0 := kb HB0 HBV
  clear HBV GV
  refine qv (.int .i64 0) ?_
  refine qv (.int .i64 0) ?_
  simp only [nA, nB, nC]
  refine we ?_
  go_upto_region 2 with fail
  refine rl ?_
  refine qk (.agg #[(.int .i64 13), (strV [45]), (.int .i64 0), (.slice (some ⟨g2, 0, none⟩) 2 2), (.int .i64 6)]) Tryz.isAgg24 K5 ?_
  simp only [nA, nB, nC]
  have HND : Hid (Nd w6 _ tr2) := hid (nd_two Kg2.out (nd_two Kg1.out (nd_leaf _ _ _ _ _) (nd_leaf _ _ _ _ _) _ _ _ _) (nd_leaf _ _ _ _ _) _ _ _ _)
  refine qc #[(.agg #[(.int .i64 13), (strV [45]), (.int .i64 0), (.slice (some ⟨g2, 0, none⟩) 2 2), (.int .i64 6)])] ?_
  have HCA := hid (sexpr_c (HTB.out.mono HB0.out.size) HND.out)
  refine HCA.out.mono ?_
  rintro e w7 ⟨rfl, (HB8 : Hid _)⟩
  refine ⟨_, rfl, ?_⟩
  replace Kg1 := ka HB8 Kg1
  replace Kg2 := ka HB8 Kg2
  replace K5 := ka HB8 K5
  replace HTB := hid (HTB.out.below HB8.out)
  replace HB0 := kb HB0 HB8
  try simp only [Act.put, nA, nB, nC]
  refine qv (.tuple #[(strV [40, 97, 32, 45, 32, 98, 41, 32, 45, 32, 49, 46, 53]), (.int .i64 0)]) ?_
  refine qv (strV [40, 97, 32, 45, 32, 98, 41, 32, 45, 32, 49, 46, 53]) ?_
  refine qv (.int .i64 0) ?_
  refine qv (strV [40, 97, 32, 45, 32, 98, 41, 32, 45, 32, 49, 46, 53]) ?_
  simp only [nA, nB, nC]
  refine qv (.int .i64 0) ?_
  simp only [nA, nB, nC]
  refine we ?_
  go_upto_region 3 with fail
  refine rl ?_
  refine qv (strV [40, 97, 32, 45, 32, 98, 41, 32, 45, 32, 49, 46, 53]) ?_
  simp only [nA, nB, nC]
  refine wp_y (v := (.bool true)) rfl rfl (y_eqlS (l := [40, 97, 32, 45, 32, 98, 41, 32, 45, 32, 49, 46, 53]) (m := [40, 97, 32, 45, 32, 98, 41, 32, 45, 32, 49, 46, 53]) rfl (by kernel_rfl) (by kernel_rfl) (by kernel_rfl) (by decide)) rfl ?_
  simp only [nA, nB, nC]
  refine qv (.bool true) ?_
  simp only [nA, nB, nC]
  refine qg (.int .i64 0) rfl ?_
  simp only [nA, nB, nC]
  refine qg (.bool true) rfl ?_
  simp only [nA, nB, nC]
  refine qv (.bool true) ?_
  refine qv (.bool true) ?_
  simp only [nA, nB, nC]
  refine wp_yg (v := (.agg #[(.int .i64 13), (strV [45]), (.int .i64 0), (.slice (some ⟨g2, 0, none⟩) 2 2), (.int .i64 6)])) rfl (y_load rfl (hl := fun w' h => by rw [h]; exact load_blk Tryz.isAgg24 (by kernel_rfl) rfl K5.out)) rfl ?_
  try simp only [nA, nB, nC]
  have HND : Hid (Nd w7 _ tr2) := hid (nd_two Kg2.out (nd_two Kg1.out (nd_leaf _ _ _ _ _) (nd_leaf _ _ _ _ _) _ _ _ _) (nd_leaf _ _ _ _ _) _ _ _ _)
  refine wp_callg (f := 16) (args := #[(.agg #[(.int .i64 13), (strV [45]), (.int .i64 0), (.slice (some ⟨g2, 0, none⟩) 2 2), (.int .i64 6)])]) rfl (by kernel_rfl) (enter_go rfl (by kernel_rfl) (fun w => by go_simp)) ?_
  have HCA := hid (rightExpr_any tr2_ok (HTB.out.mono HB0.out.size) HND.out)
  refine HCA.out.mono ?_
  rintro e w9 ⟨he, hq⟩
  rw [tr2_rt] at he
  subst he
  refine ⟨_, rfl, ?_⟩
  have HB10 := hid hq
  clear hq
  replace Kg1 := ka HB10 Kg1
  replace Kg2 := ka HB10 Kg2
  replace K5 := ka HB10 K5
  replace HTB := hid (HTB.out.below HB10.out)
  replace HB0 := kb HB0 HB10
  try simp only [nA, nB, nC]
  refine qv (.bool true) ?_
  refine qv (.bool true) ?_
  simp only [nA, nB, nC]
  refine wp_yg (v := (.agg #[(.int .i64 13), (strV [45]), (.int .i64 0), (.slice (some ⟨g2, 0, none⟩) 2 2), (.int .i64 6)])) rfl (y_load rfl (hl := fun w' h => by rw [h]; exact load_blk Tryz.isAgg24 (by kernel_rfl) rfl K5.out)) rfl ?_
  try simp only [nA, nB, nC]
  have HND : Hid (Nd w9 _ tr2) := hid (nd_two Kg2.out (nd_two Kg1.out (nd_leaf _ _ _ _ _) (nd_leaf _ _ _ _ _) _ _ _ _) (nd_leaf _ _ _ _ _) _ _ _ _)
  refine wp_callg (f := 14) (args := #[(.agg #[(.int .i64 13), (strV [45]), (.int .i64 0), (.slice (some ⟨g2, 0, none⟩) 2 2), (.int .i64 6)])]) rfl (by kernel_rfl) (enter_go rfl (by kernel_rfl) (fun w => by go_simp)) ?_
  have HCA := hid (right_no HND.out (by decide) rfl)
  refine HCA.out.mono ?_
  rintro e w11 ⟨rfl, (HB12 : Hid _)⟩
  refine ⟨_, rfl, ?_⟩
  replace Kg1 := ka HB12 Kg1
  replace Kg2 := ka HB12 Kg2
  replace K5 := ka HB12 K5
  replace HTB := hid (HTB.out.below HB12.out)
  replace HB0 := kb HB0 HB12
  try simp only [nA, nB, nC]
  refine wp_yg (v := (.bool true)) rfl (y_un (p := .bool false) rfl (by kernel_rfl) (by kernel_rfl) (fun w => qnotB false w)) rfl ?_
  try simp only [nA, nB, nC]
  refine qv (.bool true) ?_
  refine qv (.bool true) ?_
  try simp only [nA, nB, nC]
  refine we ?_
  go_wp2_with fail
  go_ret
  exact ⟨rfl, HB0.out⟩
end Go.Proofs.YtgpkcjpanpbhdaaGreatDoor
