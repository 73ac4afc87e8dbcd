/- texts put together: SRead6 SRead7 -/
import Derived.Test.YtgpkcjpanpbhdaaGreatDoorSGf
set_option maxRecDepth 100000
set_option maxHeartbeats 4000000
namespace Go.Proofs.YtgpkcjpanpbhdaaGreatDoor
open Go Go.RowKit
seal wpList in
theorem chain3_0 {w : World} {q0 : Nat} {tv : Value} (hp : Psr w q0 tv 0 1) (ht : Tks w tv tk6) : Calls Tryz.prog 109 #[.pointer (some ⟨q0, 0, none⟩), .int .i64 3] w fun e w' => e = .returned (.agg #[(.int .i64 10), (strV [97]), (.int .i64 0), (.slice none 0 0), (.int .i64 0)]) ∧ Fr [q0] w w' ∧ Psr w' q0 tv 1 1 := by
 have HP := hid hp
 have HP0 := hid hp
 have HT0 := hid ht
 have HF0 := hid (Fr.refl [q0] w)
 clear hp ht
 go_enter Tryz.func109, Tryz.ntmps109
 go_upto_region 0 with fail
 refine rl ?_
 obtain ⟨w3, g1, (HX : Hid _), (K2 : Hid _), (HB4 : Hid _), (GV : Hid _)⟩ := alh_api_Node w
 have NE_q0_g1 := kn HP GV
 have GE_g1 := kg HF0 GV
 refine wp_run (v := (.pointer (some ⟨g1, 0, none⟩))) rfl rfl (run_alOp rfl HX.out) rfl ?_
 try simp only [nA, nB, nC]
 replace HP := ka HB4 HP
 replace HF0 := kf HF0 HB4
 refine we ?_
 go_upto_region 1 with fail
 refine rl ?_
 refine qv (.pointer (some ⟨q0, 0, none⟩)) ?_
 refine qv (.int .i64 3) ?_
 simp only [nA, nB, nC]
 refine qc #[(.pointer (some ⟨q0, 0, none⟩)), (.int .i64 3)] ?_
 have HCA := hid (lower3_0 HP.out (HT0.out.fr HF0.out HP0.out))
 refine HCA.out.mono ?_
 rintro e w5 ⟨rfl, hq⟩
 refine ⟨_, rfl, ?_⟩
 obtain ⟨hF, hp⟩ := hq
 replace K2 := hid (Fr.at hF K2.out (by simpa using (Ne.symm NE_q0_g1.out)))
 replace HF0 := hid (HF0.out.trans hF (by simp))
 replace HP := hid hp
 clear hF hp
 try simp only [Act.put, nA, nB, nC]
 obtain ⟨wv, w8, g6, hx1, hx2, hbk, hbb, hge⟩ := var_api_Node w5 10 [97] 0 none 0 0 0
 have K7 := hid hbk
 have HBV := hid hbb
 have HX1 := hid hx1
 have HX2 := hid hx2
 have GV := hid hge
 clear hx1 hx2 hbk hbb hge
 refine wp_run (v := (.pointer (some ⟨g6, 0, none⟩))) rfl rfl (run_alOp rfl HX1.out) rfl ?_
 try simp only [nA, nB, nC]
 refine wp_do rfl rfl (run_storeOp rfl (by kernel_rfl) (by kernel_rfl) HX2.out) ?_
 try simp only [nA, nB, nC]
 clear HX1 HX2
 have NE_q0_g6 := kn HP GV
 have NE_g1_g6 := kn K2 GV
 have GE_g6 := kg HF0 GV
 replace HP := ka HBV HP
 replace K2 := ka HBV K2
 replace HF0 := kf HF0 HBV
 clear HBV GV
 refine we ?_
 go_wp2_with fail
 go_loopw [] (fun wr => Fr [q0] w wr ∧ wr.heap[q0]? = some (.cells #[tv, (.int .i64 1), (.int .i64 1), (.int .i64 0), (.int .i64 0)] 97 (0, 0)) ∧ wr.heap[g1]? = some (.cells #[(.int .i64 0), (strV []), (.int .i64 0), (.slice none 0 0), (.int .i64 0)] 24 (0, 0)) ∧ wr.heap[g6]? = some (.cells #[(.int .i64 10), (strV [97]), (.int .i64 0), (.slice none 0 0), (.int .i64 0)] 24 (0, 0))) (fun _ => 0)
 case atStart =>
  exact ⟨HF0.out, HP.out, K2.out, K7.out⟩
 case round =>
  obtain ⟨hF, hk0, hk1, hk2⟩ := hrel
  clear HF0
  have HF0 := hid hF
  clear HP
  have HP := hid hk0
  clear K2
  have K2 := hid hk1
  clear K7
  have K7 := hid hk2
  clear hF hk0 hk1 hk2
  go_upto_region 2 with fail
  refine rl ?_
  refine qv (.pointer (some ⟨q0, 0, none⟩)) ?_
  refine qv (.pointer (some ⟨q0, 0, none⟩)) ?_
  refine qf (fa_usanceref07_parser_3 q0 0) ?_
  refine ql (.int .i64 0) Tryz.isAgg26 3 HP ?_
  simp only [nA, nB, nC]
  refine qb (beql_api_Errno 0 0 true (by decide)) ?_
  simp only [nA, nB, nC]
  refine we ?_
  go_upto_region 3 with fail
  refine rl ?_
  refine qv (.bool false) ?_
  simp only [nA, nB, nC]
  refine we ?_
  go_upto_region 4 with fail
  refine rl ?_
  refine qv (.int .i64 3) ?_
  simp only [nA, nB, nC]
  refine qc #[(.int .i64 3)] ?_
  have HCA := hid (signs_3 wr)
  refine HCA.out.mono ?_
  rintro e w10 ⟨g9, he, hk, hb, hge⟩
  ·subst he
   refine ⟨_, rfl, ?_⟩
   have HSG := hid hk
   have HBS := hid hb
   have GV := hid hge
   clear hk hb hge
   have NE_q0_g9 := kn HP GV
   have NE_g1_g9 := kn K2 GV
   have NE_g6_g9 := kn K7 GV
   have GE_g9 := kg HF0 GV
   replace HP := ka HBS HP
   replace K2 := ka HBS K2
   replace K7 := ka HBS K7
   replace HF0 := kf HF0 HBS
   have Kg9 := hid HSG.out
   clear HSG HBS GV
   try simp only [Act.put, nA, nB, nC]
   refine qv (.slice (some ⟨g9, 0, none⟩) 2 2) ?_
   simp only [nA, nB, nC]
   refine we ?_
   go_upto_region 5 with fail
   refine rl ?_
   refine qv (.int .i64 0) ?_
   simp only [nA, nB, nC]
   refine we ?_
   go_wp2_with fail
   go_loopw [8, 6] (fun v8 v6 wr => ((v8 = (.int .i64 0) ∧ v6 = (.bool false)) ∨ (v8 = (.int .i64 1) ∧ v6 = (.bool false)) ∨ (v8 = (.int .i64 2) ∧ v6 = (.bool false))) ∧ Fr [q0] w wr ∧ wr.heap[q0]? = some (.cells #[tv, (.int .i64 1), (.int .i64 1), (.int .i64 0), (.int .i64 0)] 97 (0, 0)) ∧ wr.heap[g1]? = some (.cells #[(.int .i64 0), (strV []), (.int .i64 0), (.slice none 0 0), (.int .i64 0)] 24 (0, 0)) ∧ wr.heap[g6]? = some (.cells #[(.int .i64 10), (strV [97]), (.int .i64 0), (.slice none 0 0), (.int .i64 0)] 24 (0, 0)) ∧ wr.heap[g9]? = some (.cells #[(strV [42]), (strV [47])] 9 (0, 0))) (fun v8 _ _ => 9 - (intOf v8).toNat)
   case atStart =>
    exact ⟨.inl ⟨rfl, rfl⟩, HF0.out, HP.out, K2.out, K7.out, Kg9.out⟩
   case round =>
    obtain ⟨hst, hF, hk0, hk1, hk2, hk3⟩ := hrel
    clear HF0
    have HF0 := hid hF
    clear HP
    have HP := hid hk0
    clear K2
    have K2 := hid hk1
    clear K7
    have K7 := hid hk2
    clear Kg9
    have Kg9 := hid hk3
    clear hF hk0 hk1 hk2 hk3
    rcases hst with ⟨rfl, rfl⟩ | ⟨rfl, rfl⟩ | ⟨rfl, rfl⟩
    ·skip
     go_upto_region 6 with fail
     refine rl ?_
     refine qv (.int .i64 0) ?_
     refine qv (.slice (some ⟨g9, 0, none⟩) 2 2) ?_
     simp only [nA, nB, nC]
     refine wp_y (v := (.int .i64 2)) rfl rfl (y_lenT len_Sstring (p := (some ⟨g9, 0, none⟩)) (n := 2) (c := 2) rfl (by kernel_rfl) (by kernel_rfl)) rfl ?_
     simp only [nA, nB, nC]
     refine qb (blss_int 0 2 true (by decide)) ?_
     simp only [nA, nB, nC]
     refine we ?_
     go_upto_region 8 with fail
     refine rl ?_
     refine qv (.pointer (some ⟨q0, 0, none⟩)) ?_
     refine qv (.slice (some ⟨g9, 0, none⟩) 2 2) ?_
     refine qv (.int .i64 0) ?_
     simp only [nA, nB, nC]
     refine wp_y (v := (.pointer (some ⟨g9, 0, none⟩))) rfl rfl (y_index (p := (.slice (some ⟨g9, 0, none⟩) 2 2)) (k := (.int .i64 0)) rfl (by kernel_rfl) (by kernel_rfl) (by kernel_rfl) (fun w => by kernel_rfl)) rfl ?_
     simp only [nA, nB, nC]
     refine ql (strV [42]) Tryz.isAgg9 0 Kg9 ?_
     simp only [nA, nB, nC]
     refine qc #[(.pointer (some ⟨q0, 0, none⟩)), (strV [42])] ?_
     have HCA := hid (is_any (i := 1) (t := ⟨8, [45], 0, 2⟩) HP.out (HT0.out.fr HF0.out HP0.out) rfl [42])
     refine HCA.out.mono ?_
     rintro e w11 ⟨he, hq⟩
     rw [(show Tok.is ⟨8, [45], 0, 2⟩ [42] = false from rfl)] at he
     subst he
     refine ⟨_, rfl, ?_⟩
     have HB12 := hid hq
     clear hq
     replace HP := ka HB12 HP
     replace K2 := ka HB12 K2
     replace K7 := ka HB12 K7
     replace Kg9 := ka HB12 Kg9
     replace HF0 := kf HF0 HB12
     try simp only [Act.put, nA, nB, nC]
     refine qv (.bool false) ?_
     simp only [nA, nB, nC]
     refine we ?_
     go_upto_region 9 with fail
     refine rl ?_
     refine qv (.bool false) ?_
     refine qv (.bool false) ?_
     simp only [nA, nB, nC]
     refine qg (.bool false) rfl ?_
     simp only [nA, nB, nC]
     refine qv (.bool false) ?_
     refine qv (.bool false) ?_
     simp only [nA, nB, nC]
     refine we ?_
     go_upto_region 7 with fail
     refine rl ?_
     refine qv (.int .i64 0) ?_
     refine qb (badd_int 0 1 1 (by decide)) ?_
     refine qv (.int .i64 1) ?_
     simp only [nA, nB, nC]
     refine we ?_
     go_wp2_with fail
     exact ⟨⟨.inr (.inl ⟨rfl, rfl⟩), HF0.out, HP.out, K2.out, K7.out, Kg9.out⟩, by simp [intOf]⟩
    ·skip
     go_upto_region 6 with fail
     refine rl ?_
     refine qv (.int .i64 1) ?_
     refine qv (.slice (some ⟨g9, 0, none⟩) 2 2) ?_
     simp only [nA, nB, nC]
     refine wp_y (v := (.int .i64 2)) rfl rfl (y_lenT len_Sstring (p := (some ⟨g9, 0, none⟩)) (n := 2) (c := 2) rfl (by kernel_rfl) (by kernel_rfl)) rfl ?_
     simp only [nA, nB, nC]
     refine qb (blss_int 1 2 true (by decide)) ?_
     simp only [nA, nB, nC]
     refine we ?_
     go_upto_region 8 with fail
     refine rl ?_
     refine qv (.pointer (some ⟨q0, 0, none⟩)) ?_
     refine qv (.slice (some ⟨g9, 0, none⟩) 2 2) ?_
     refine qv (.int .i64 1) ?_
     simp only [nA, nB, nC]
     refine wp_y (v := (.pointer (some ⟨g9, 1, none⟩))) rfl rfl (y_index (p := (.slice (some ⟨g9, 0, none⟩) 2 2)) (k := (.int .i64 1)) rfl (by kernel_rfl) (by kernel_rfl) (by kernel_rfl) (fun w => by kernel_rfl)) rfl ?_
     simp only [nA, nB, nC]
     refine ql (strV [47]) Tryz.isAgg9 1 Kg9 ?_
     simp only [nA, nB, nC]
     refine qc #[(.pointer (some ⟨q0, 0, none⟩)), (strV [47])] ?_
     have HCA := hid (is_any (i := 1) (t := ⟨8, [45], 0, 2⟩) HP.out (HT0.out.fr HF0.out HP0.out) rfl [47])
     refine HCA.out.mono ?_
     rintro e w13 ⟨he, hq⟩
     rw [(show Tok.is ⟨8, [45], 0, 2⟩ [47] = false from rfl)] at he
     subst he
     refine ⟨_, rfl, ?_⟩
     have HB14 := hid hq
     clear hq
     replace HP := ka HB14 HP
     replace K2 := ka HB14 K2
     replace K7 := ka HB14 K7
     replace Kg9 := ka HB14 Kg9
     replace HF0 := kf HF0 HB14
     try simp only [Act.put, nA, nB, nC]
     refine qv (.bool false) ?_
     simp only [nA, nB, nC]
     refine we ?_
     go_upto_region 9 with fail
     refine rl ?_
     refine qv (.bool false) ?_
     refine qv (.bool false) ?_
     simp only [nA, nB, nC]
     refine qg (.bool false) rfl ?_
     simp only [nA, nB, nC]
     refine qv (.bool false) ?_
     refine qv (.bool false) ?_
     simp only [nA, nB, nC]
     refine we ?_
     go_upto_region 7 with fail
     refine rl ?_
     refine qv (.int .i64 1) ?_
     refine qb (badd_int 1 1 2 (by decide)) ?_
     refine qv (.int .i64 2) ?_
     simp only [nA, nB, nC]
     refine we ?_
     go_wp2_with fail
     exact ⟨⟨.inr (.inr (⟨rfl, rfl⟩)), HF0.out, HP.out, K2.out, K7.out, Kg9.out⟩, by simp [intOf]⟩
    ·skip
     go_upto_region 6 with fail
     refine rl ?_
     refine qv (.int .i64 2) ?_
     refine qv (.slice (some ⟨g9, 0, none⟩) 2 2) ?_
     simp only [nA, nB, nC]
     refine wp_y (v := (.int .i64 2)) rfl rfl (y_lenT len_Sstring (p := (some ⟨g9, 0, none⟩)) (n := 2) (c := 2) rfl (by kernel_rfl) (by kernel_rfl)) rfl ?_
     simp only [nA, nB, nC]
     refine qb (blss_int 2 2 false (by decide)) ?_
     simp only [nA, nB, nC]
     refine we ?_
     go_upto_region 10 with fail
     refine rl ?_
     refine qv (.bool false) ?_
     simp only [nA, nB, nC]
     refine wp_y (v := (.bool true)) rfl rfl (y_un (p := .bool false) rfl (by kernel_rfl) (by kernel_rfl) (fun w => qnotB false w)) rfl ?_
     simp only [nA, nB, nC]
     refine we ?_
     go_upto_region 14 with fail
     refine rl ?_
     refine qk (.agg #[(.int .i64 10), (strV [97]), (.int .i64 0), (.slice none 0 0), (.int .i64 0)]) Tryz.isAgg24 K7 ?_
     simp only [nA, nB, nC]
     obtain ⟨w15, hbx, hbk, hbf⟩ := st_x (T := 24) (c := #[(.int .i64 0), (strV []), (.int .i64 0), (.slice none 0 0), (.int .i64 0)]) (c' := #[(.int .i64 10), (strV [97]), (.int .i64 0), (.slice none 0 0), (.int .i64 0)]) (by kernel_rfl) rfl rfl K2.out (by intro v hv; simp at hv; rcases hv with rfl | rfl | rfl | rfl | rfl <;> first | rfl | assumption)
     replace K2 := hid hbk
     have HF16 := hid hbf
     have HX := hid hbx
     clear hbx hbk hbf
     refine wp_do rfl rfl (run_storeOp rfl (by kernel_rfl) (by kernel_rfl) HX.out) ?_
     try simp only [nA, nB, nC]
     replace HP := hid (Fr.at HF16.out HP.out (by simpa using NE_q0_g1.out))
     replace K7 := hid (Fr.at HF16.out K7.out (by simpa using (Ne.symm NE_g1_g6.out)))
     replace Kg9 := hid (Fr.at HF16.out Kg9.out (by simpa using (Ne.symm NE_g1_g9.out)))
     replace HF0 := hid (HF0.out.trans HF16.out (fun x hx => .inr (by rw [List.mem_singleton] at hx; rw [hx]; exact GE_g1.out)))
     refine we ?_
     go_wp2_with fail
     exact ret_cell rfl rfl rfl (load_blk Tryz.isAgg24 (by kernel_rfl) rfl K2.out) ⟨rfl, HF0.out, HP.out⟩
seal wpList in
theorem lower2_0 {w : World} {q0 : Nat} {tv : Value} (hp : Psr w q0 tv 0 1) (ht : Tks w tv tk6) : Calls Tryz.prog 143 #[.pointer (some ⟨q0, 0, none⟩), .int .i64 2] w fun e w' => e = .returned (.agg #[(.int .i64 10), (strV [97]), (.int .i64 0), (.slice none 0 0), (.int .i64 0)]) ∧ Fr [q0] w w' ∧ Psr w' q0 tv 1 1 := by
 have HP := hid hp
 have HP0 := hid hp
 have HT0 := hid ht
 have HF0 := hid (Fr.refl [q0] w)
 clear hp ht
 go_enter Tryz.func143, Tryz.ntmps143
 go_upto_region 0 with fail
 refine rl ?_
 obtain ⟨w3, g1, (HX : Hid _), (K2 : Hid _), (HB4 : Hid _), (GV : Hid _)⟩ := alh_api_Node w
 have NE_q0_g1 := kn HP GV
 have GE_g1 := kg HF0 GV
 refine wp_run (v := (.pointer (some ⟨g1, 0, none⟩))) rfl rfl (run_alOp rfl HX.out) rfl ?_
 try simp only [nA, nB, nC]
 replace HP := ka HB4 HP
 replace HF0 := kf HF0 HB4
 refine we ?_
 go_upto_region 1 with fail
 refine rl ?_
 refine qv (.int .i64 2) ?_
 simp only [nA, nB, nC]
 refine we ?_
 go_upto_region 2 with fail
 refine rl ?_
 refine qb (beql_int 2 0 false (by decide)) ?_
 refine qv (.bool false) ?_
 simp only [nA, nB, nC]
 refine we ?_
 go_upto_region 4 with fail
 refine rl ?_
 refine qb (beql_int 2 1 false (by decide)) ?_
 refine qv (.bool false) ?_
 simp only [nA, nB, nC]
 refine we ?_
 go_upto_region 6 with fail
 refine rl ?_
 refine qb (beql_int 2 2 true (by decide)) ?_
 refine qv (.bool true) ?_
 simp only [nA, nB, nC]
 refine we ?_
 go_upto_region 7 with fail
 refine rl ?_
 refine qv (.pointer (some ⟨q0, 0, none⟩)) ?_
 simp only [nA, nB, nC]
 refine qc #[(.pointer (some ⟨q0, 0, none⟩)), (.int .i64 3)] ?_
 have HCA := hid (chain3_0 HP.out (HT0.out.fr HF0.out HP0.out))
 refine HCA.out.mono ?_
 rintro e w5 ⟨rfl, hq⟩
 refine ⟨_, rfl, ?_⟩
 obtain ⟨hF, hp⟩ := hq
 replace K2 := hid (Fr.at hF K2.out (by simpa using (Ne.symm NE_q0_g1.out)))
 replace HF0 := hid (HF0.out.trans hF (by simp))
 replace HP := hid hp
 clear hF hp
 try simp only [Act.put, nA, nB, nC]
 obtain ⟨w6, hbx, hbk, hbf⟩ := st_x (T := 24) (c := #[(.int .i64 0), (strV []), (.int .i64 0), (.slice none 0 0), (.int .i64 0)]) (c' := #[(.int .i64 10), (strV [97]), (.int .i64 0), (.slice none 0 0), (.int .i64 0)]) (by kernel_rfl) rfl rfl K2.out (by intro v hv; simp at hv; rcases hv with rfl | rfl | rfl | rfl | rfl <;> first | rfl | assumption)
 replace K2 := hid hbk
 have HF7 := hid hbf
 have HX := hid hbx
 clear hbx hbk hbf
 refine wp_do rfl rfl (run_storeOp rfl (by kernel_rfl) (by kernel_rfl) HX.out) ?_
 try simp only [nA, nB, nC]
 replace HP := hid (Fr.at HF7.out HP.out (by simpa using NE_q0_g1.out))
 replace HF0 := hid (HF0.out.trans HF7.out (fun x hx => .inr (by rw [List.mem_singleton] at hx; rw [hx]; exact GE_g1.out)))
 refine we ?_
 go_wp2_with fail
 exact ret_cell rfl rfl rfl (load_blk Tryz.isAgg24 (by kernel_rfl) rfl K2.out) ⟨rfl, HF0.out, HP.out⟩
seal wpList in
theorem chain3_2 {w : World} {q0 : Nat} {tv : Value} (hp : Psr w q0 tv 2 1) (ht : Tks w tv tk6) : Calls Tryz.prog 109 #[.pointer (some ⟨q0, 0, none⟩), .int .i64 3] w fun e w' => e = .returned (.agg #[(.int .i64 10), (strV [98]), (.int .i64 0), (.slice none 0 0), (.int .i64 4)]) ∧ Fr [q0] w w' ∧ Psr w' q0 tv 3 1 := by
 have HP := hid hp
 have HP0 := hid hp
 have HT0 := hid ht
 have HF0 := hid (Fr.refl [q0] w)
 clear hp ht
 go_enter Tryz.func109, Tryz.ntmps109
 go_upto_region 0 with fail
 refine rl ?_
 obtain ⟨w3, g1, (HX : Hid _), (K2 : Hid _), (HB4 : Hid _), (GV : Hid _)⟩ := alh_api_Node w
 have NE_q0_g1 := kn HP GV
 have GE_g1 := kg HF0 GV
 refine wp_run (v := (.pointer (some ⟨g1, 0, none⟩))) rfl rfl (run_alOp rfl HX.out) rfl ?_
 try simp only [nA, nB, nC]
 replace HP := ka HB4 HP
 replace HF0 := kf HF0 HB4
 refine we ?_
 go_upto_region 1 with fail
 refine rl ?_
 refine qv (.pointer (some ⟨q0, 0, none⟩)) ?_
 refine qv (.int .i64 3) ?_
 simp only [nA, nB, nC]
 refine qc #[(.pointer (some ⟨q0, 0, none⟩)), (.int .i64 3)] ?_
 have HCA := hid (lower3_2 HP.out (HT0.out.fr HF0.out HP0.out))
 refine HCA.out.mono ?_
 rintro e w5 ⟨rfl, hq⟩
 refine ⟨_, rfl, ?_⟩
 obtain ⟨hF, hp⟩ := hq
 replace K2 := hid (Fr.at hF K2.out (by simpa using (Ne.symm NE_q0_g1.out)))
 replace HF0 := hid (HF0.out.trans hF (by simp))
 replace HP := hid hp
 clear hF hp
 try simp only [Act.put, nA, nB, nC]
 obtain ⟨wv, w8, g6, hx1, hx2, hbk, hbb, hge⟩ := var_api_Node w5 10 [98] 0 none 0 0 4
 have K7 := hid hbk
 have HBV := hid hbb
 have HX1 := hid hx1
 have HX2 := hid hx2
 have GV := hid hge
 clear hx1 hx2 hbk hbb hge
 refine wp_run (v := (.pointer (some ⟨g6, 0, none⟩))) rfl rfl (run_alOp rfl HX1.out) rfl ?_
 try simp only [nA, nB, nC]
 refine wp_do rfl rfl (run_storeOp rfl (by kernel_rfl) (by kernel_rfl) HX2.out) ?_
 try simp only [nA, nB, nC]
 clear HX1 HX2
 have NE_q0_g6 := kn HP GV
 have NE_g1_g6 := kn K2 GV
 have GE_g6 := kg HF0 GV
 replace HP := ka HBV HP
 replace K2 := ka HBV K2
 replace HF0 := kf HF0 HBV
 clear HBV GV
 refine we ?_
 go_wp2_with fail
 go_loopw [] (fun wr => Fr [q0] w wr ∧ wr.heap[q0]? = some (.cells #[tv, (.int .i64 3), (.int .i64 1), (.int .i64 0), (.int .i64 0)] 97 (0, 0)) ∧ wr.heap[g1]? = some (.cells #[(.int .i64 0), (strV []), (.int .i64 0), (.slice none 0 0), (.int .i64 0)] 24 (0, 0)) ∧ wr.heap[g6]? = some (.cells #[(.int .i64 10), (strV [98]), (.int .i64 0), (.slice none 0 0), (.int .i64 4)] 24 (0, 0))) (fun _ => 0)
 case atStart =>
  exact ⟨HF0.out, HP.out, K2.out, K7.out⟩
 case round =>
  obtain ⟨hF, hk0, hk1, hk2⟩ := hrel
  clear HF0
  have HF0 := hid hF
  clear HP
  have HP := hid hk0
  clear K2
  have K2 := hid hk1
  clear K7
  have K7 := hid hk2
  clear hF hk0 hk1 hk2
  go_upto_region 2 with fail
  refine rl ?_
  refine qv (.pointer (some ⟨q0, 0, none⟩)) ?_
  refine qv (.pointer (some ⟨q0, 0, none⟩)) ?_
  refine qf (fa_usanceref07_parser_3 q0 0) ?_
  refine ql (.int .i64 0) Tryz.isAgg26 3 HP ?_
  simp only [nA, nB, nC]
  refine qb (beql_api_Errno 0 0 true (by decide)) ?_
  simp only [nA, nB, nC]
  refine we ?_
  go_upto_region 3 with fail
  refine rl ?_
  refine qv (.bool false) ?_
  simp only [nA, nB, nC]
  refine we ?_
  go_upto_region 4 with fail
  refine rl ?_
  refine qv (.int .i64 3) ?_
  simp only [nA, nB, nC]
  refine qc #[(.int .i64 3)] ?_
  have HCA := hid (signs_3 wr)
  refine HCA.out.mono ?_
  rintro e w10 ⟨g9, he, hk, hb, hge⟩
  ·subst he
   refine ⟨_, rfl, ?_⟩
   have HSG := hid hk
   have HBS := hid hb
   have GV := hid hge
   clear hk hb hge
   have NE_q0_g9 := kn HP GV
   have NE_g1_g9 := kn K2 GV
   have NE_g6_g9 := kn K7 GV
   have GE_g9 := kg HF0 GV
   replace HP := ka HBS HP
   replace K2 := ka HBS K2
   replace K7 := ka HBS K7
   replace HF0 := kf HF0 HBS
   have Kg9 := hid HSG.out
   clear HSG HBS GV
   try simp only [Act.put, nA, nB, nC]
   refine qv (.slice (some ⟨g9, 0, none⟩) 2 2) ?_
   simp only [nA, nB, nC]
   refine we ?_
   go_upto_region 5 with fail
   refine rl ?_
   refine qv (.int .i64 0) ?_
   simp only [nA, nB, nC]
   refine we ?_
   go_wp2_with fail
   go_loopw [8, 6] (fun v8 v6 wr => ((v8 = (.int .i64 0) ∧ v6 = (.bool false)) ∨ (v8 = (.int .i64 1) ∧ v6 = (.bool false)) ∨ (v8 = (.int .i64 2) ∧ v6 = (.bool false))) ∧ Fr [q0] w wr ∧ wr.heap[q0]? = some (.cells #[tv, (.int .i64 3), (.int .i64 1), (.int .i64 0), (.int .i64 0)] 97 (0, 0)) ∧ wr.heap[g1]? = some (.cells #[(.int .i64 0), (strV []), (.int .i64 0), (.slice none 0 0), (.int .i64 0)] 24 (0, 0)) ∧ wr.heap[g6]? = some (.cells #[(.int .i64 10), (strV [98]), (.int .i64 0), (.slice none 0 0), (.int .i64 4)] 24 (0, 0)) ∧ wr.heap[g9]? = some (.cells #[(strV [42]), (strV [47])] 9 (0, 0))) (fun v8 _ _ => 9 - (intOf v8).toNat)
   case atStart =>
    exact ⟨.inl ⟨rfl, rfl⟩, HF0.out, HP.out, K2.out, K7.out, Kg9.out⟩
   case round =>
    obtain ⟨hst, hF, hk0, hk1, hk2, hk3⟩ := hrel
    clear HF0
    have HF0 := hid hF
    clear HP
    have HP := hid hk0
    clear K2
    have K2 := hid hk1
    clear K7
    have K7 := hid hk2
    clear Kg9
    have Kg9 := hid hk3
    clear hF hk0 hk1 hk2 hk3
    rcases hst with ⟨rfl, rfl⟩ | ⟨rfl, rfl⟩ | ⟨rfl, rfl⟩
    ·skip
     go_upto_region 6 with fail
     refine rl ?_
     refine qv (.int .i64 0) ?_
     refine qv (.slice (some ⟨g9, 0, none⟩) 2 2) ?_
     simp only [nA, nB, nC]
     refine wp_y (v := (.int .i64 2)) rfl rfl (y_lenT len_Sstring (p := (some ⟨g9, 0, none⟩)) (n := 2) (c := 2) rfl (by kernel_rfl) (by kernel_rfl)) rfl ?_
     simp only [nA, nB, nC]
     refine qb (blss_int 0 2 true (by decide)) ?_
     simp only [nA, nB, nC]
     refine we ?_
     go_upto_region 8 with fail
     refine rl ?_
     refine qv (.pointer (some ⟨q0, 0, none⟩)) ?_
     refine qv (.slice (some ⟨g9, 0, none⟩) 2 2) ?_
     refine qv (.int .i64 0) ?_
     simp only [nA, nB, nC]
     refine wp_y (v := (.pointer (some ⟨g9, 0, none⟩))) rfl rfl (y_index (p := (.slice (some ⟨g9, 0, none⟩) 2 2)) (k := (.int .i64 0)) rfl (by kernel_rfl) (by kernel_rfl) (by kernel_rfl) (fun w => by kernel_rfl)) rfl ?_
     simp only [nA, nB, nC]
     refine ql (strV [42]) Tryz.isAgg9 0 Kg9 ?_
     simp only [nA, nB, nC]
     refine qc #[(.pointer (some ⟨q0, 0, none⟩)), (strV [42])] ?_
     have HCA := hid (is_any (i := 3) (t := ⟨8, [45], 0, 6⟩) HP.out (HT0.out.fr HF0.out HP0.out) rfl [42])
     refine HCA.out.mono ?_
     rintro e w11 ⟨he, hq⟩
     rw [(show Tok.is ⟨8, [45], 0, 6⟩ [42] = false from rfl)] at he
     subst he
     refine ⟨_, rfl, ?_⟩
     have HB12 := hid hq
     clear hq
     replace HP := ka HB12 HP
     replace K2 := ka HB12 K2
     replace K7 := ka HB12 K7
     replace Kg9 := ka HB12 Kg9
     replace HF0 := kf HF0 HB12
     try simp only [Act.put, nA, nB, nC]
     refine qv (.bool false) ?_
     simp only [nA, nB, nC]
     refine we ?_
     go_upto_region 9 with fail
     refine rl ?_
     refine qv (.bool false) ?_
     refine qv (.bool false) ?_
     simp only [nA, nB, nC]
     refine qg (.bool false) rfl ?_
     simp only [nA, nB, nC]
     refine qv (.bool false) ?_
     refine qv (.bool false) ?_
     simp only [nA, nB, nC]
     refine we ?_
     go_upto_region 7 with fail
     refine rl ?_
     refine qv (.int .i64 0) ?_
     refine qb (badd_int 0 1 1 (by decide)) ?_
     refine qv (.int .i64 1) ?_
     simp only [nA, nB, nC]
     refine we ?_
     go_wp2_with fail
     exact ⟨⟨.inr (.inl ⟨rfl, rfl⟩), HF0.out, HP.out, K2.out, K7.out, Kg9.out⟩, by simp [intOf]⟩
    ·skip
     go_upto_region 6 with fail
     refine rl ?_
     refine qv (.int .i64 1) ?_
     refine qv (.slice (some ⟨g9, 0, none⟩) 2 2) ?_
     simp only [nA, nB, nC]
     refine wp_y (v := (.int .i64 2)) rfl rfl (y_lenT len_Sstring (p := (some ⟨g9, 0, none⟩)) (n := 2) (c := 2) rfl (by kernel_rfl) (by kernel_rfl)) rfl ?_
     simp only [nA, nB, nC]
     refine qb (blss_int 1 2 true (by decide)) ?_
     simp only [nA, nB, nC]
     refine we ?_
     go_upto_region 8 with fail
     refine rl ?_
     refine qv (.pointer (some ⟨q0, 0, none⟩)) ?_
     refine qv (.slice (some ⟨g9, 0, none⟩) 2 2) ?_
     refine qv (.int .i64 1) ?_
     simp only [nA, nB, nC]
     refine wp_y (v := (.pointer (some ⟨g9, 1, none⟩))) rfl rfl (y_index (p := (.slice (some ⟨g9, 0, none⟩) 2 2)) (k := (.int .i64 1)) rfl (by kernel_rfl) (by kernel_rfl) (by kernel_rfl) (fun w => by kernel_rfl)) rfl ?_
     simp only [nA, nB, nC]
     refine ql (strV [47]) Tryz.isAgg9 1 Kg9 ?_
     simp only [nA, nB, nC]
     refine qc #[(.pointer (some ⟨q0, 0, none⟩)), (strV [47])] ?_
     have HCA := hid (is_any (i := 3) (t := ⟨8, [45], 0, 6⟩) HP.out (HT0.out.fr HF0.out HP0.out) rfl [47])
     refine HCA.out.mono ?_
     rintro e w13 ⟨he, hq⟩
     rw [(show Tok.is ⟨8, [45], 0, 6⟩ [47] = false from rfl)] at he
     subst he
     refine ⟨_, rfl, ?_⟩
     have HB14 := hid hq
     clear hq
     replace HP := ka HB14 HP
     replace K2 := ka HB14 K2
     replace K7 := ka HB14 K7
     replace Kg9 := ka HB14 Kg9
     replace HF0 := kf HF0 HB14
     try simp only [Act.put, nA, nB, nC]
     refine qv (.bool false) ?_
     simp only [nA, nB, nC]
     refine we ?_
     go_upto_region 9 with fail
     refine rl ?_
     refine qv (.bool false) ?_
     refine qv (.bool false) ?_
     simp only [nA, nB, nC]
     refine qg (.bool false) rfl ?_
     simp only [nA, nB, nC]
     refine qv (.bool false) ?_
     refine qv (.bool false) ?_
     simp only [nA, nB, nC]
     refine we ?_
     go_upto_region 7 with fail
     refine rl ?_
     refine qv (.int .i64 1) ?_
     refine qb (badd_int 1 1 2 (by decide)) ?_
     refine qv (.int .i64 2) ?_
     simp only [nA, nB, nC]
     refine we ?_
     go_wp2_with fail
     exact ⟨⟨.inr (.inr (⟨rfl, rfl⟩)), HF0.out, HP.out, K2.out, K7.out, Kg9.out⟩, by simp [intOf]⟩
    ·skip
     go_upto_region 6 with fail
     refine rl ?_
     refine qv (.int .i64 2) ?_
     refine qv (.slice (some ⟨g9, 0, none⟩) 2 2) ?_
     simp only [nA, nB, nC]
     refine wp_y (v := (.int .i64 2)) rfl rfl (y_lenT len_Sstring (p := (some ⟨g9, 0, none⟩)) (n := 2) (c := 2) rfl (by kernel_rfl) (by kernel_rfl)) rfl ?_
     simp only [nA, nB, nC]
     refine qb (blss_int 2 2 false (by decide)) ?_
     simp only [nA, nB, nC]
     refine we ?_
     go_upto_region 10 with fail
     refine rl ?_
     refine qv (.bool false) ?_
     simp only [nA, nB, nC]
     refine wp_y (v := (.bool true)) rfl rfl (y_un (p := .bool false) rfl (by kernel_rfl) (by kernel_rfl) (fun w => qnotB false w)) rfl ?_
     simp only [nA, nB, nC]
     refine we ?_
     go_upto_region 14 with fail
     refine rl ?_
     refine qk (.agg #[(.int .i64 10), (strV [98]), (.int .i64 0), (.slice none 0 0), (.int .i64 4)]) Tryz.isAgg24 K7 ?_
     simp only [nA, nB, nC]
     obtain ⟨w15, hbx, hbk, hbf⟩ := st_x (T := 24) (c := #[(.int .i64 0), (strV []), (.int .i64 0), (.slice none 0 0), (.int .i64 0)]) (c' := #[(.int .i64 10), (strV [98]), (.int .i64 0), (.slice none 0 0), (.int .i64 4)]) (by kernel_rfl) rfl rfl K2.out (by intro v hv; simp at hv; rcases hv with rfl | rfl | rfl | rfl | rfl <;> first | rfl | assumption)
     replace K2 := hid hbk
     have HF16 := hid hbf
     have HX := hid hbx
     clear hbx hbk hbf
     refine wp_do rfl rfl (run_storeOp rfl (by kernel_rfl) (by kernel_rfl) HX.out) ?_
     try simp only [nA, nB, nC]
     replace HP := hid (Fr.at HF16.out HP.out (by simpa using NE_q0_g1.out))
     replace K7 := hid (Fr.at HF16.out K7.out (by simpa using (Ne.symm NE_g1_g6.out)))
     replace Kg9 := hid (Fr.at HF16.out Kg9.out (by simpa using (Ne.symm NE_g1_g9.out)))
     replace HF0 := hid (HF0.out.trans HF16.out (fun x hx => .inr (by rw [List.mem_singleton] at hx; rw [hx]; exact GE_g1.out)))
     refine we ?_
     go_wp2_with fail
     exact ret_cell rfl rfl rfl (load_blk Tryz.isAgg24 (by kernel_rfl) rfl K2.out) ⟨rfl, HF0.out, HP.out⟩
seal wpList in
theorem lower2_2 {w : World} {q0 : Nat} {tv : Value} (hp : Psr w q0 tv 2 1) (ht : Tks w tv tk6) : Calls Tryz.prog 143 #[.pointer (some ⟨q0, 0, none⟩), .int .i64 2] w fun e w' => e = .returned (.agg #[(.int .i64 10), (strV [98]), (.int .i64 0), (.slice none 0 0), (.int .i64 4)]) ∧ Fr [q0] w w' ∧ Psr w' q0 tv 3 1 := by
 have HP := hid hp
 have HP0 := hid hp
 have HT0 := hid ht
 have HF0 := hid (Fr.refl [q0] w)
 clear hp ht
 go_enter Tryz.func143, Tryz.ntmps143
 go_upto_region 0 with fail
 refine rl ?_
 obtain ⟨w3, g1, (HX : Hid _), (K2 : Hid _), (HB4 : Hid _), (GV : Hid _)⟩ := alh_api_Node w
 have NE_q0_g1 := kn HP GV
 have GE_g1 := kg HF0 GV
 refine wp_run (v := (.pointer (some ⟨g1, 0, none⟩))) rfl rfl (run_alOp rfl HX.out) rfl ?_
 try simp only [nA, nB, nC]
 replace HP := ka HB4 HP
 replace HF0 := kf HF0 HB4
 refine we ?_
 go_upto_region 1 with fail
 refine rl ?_
 refine qv (.int .i64 2) ?_
 simp only [nA, nB, nC]
 refine we ?_
 go_upto_region 2 with fail
 refine rl ?_
 refine qb (beql_int 2 0 false (by decide)) ?_
 refine qv (.bool false) ?_
 simp only [nA, nB, nC]
 refine we ?_
 go_upto_region 4 with fail
 refine rl ?_
 refine qb (beql_int 2 1 false (by decide)) ?_
 refine qv (.bool false) ?_
 simp only [nA, nB, nC]
 refine we ?_
 go_upto_region 6 with fail
 refine rl ?_
 refine qb (beql_int 2 2 true (by decide)) ?_
 refine qv (.bool true) ?_
 simp only [nA, nB, nC]
 refine we ?_
 go_upto_region 7 with fail
 refine rl ?_
 refine qv (.pointer (some ⟨q0, 0, none⟩)) ?_
 simp only [nA, nB, nC]
 refine qc #[(.pointer (some ⟨q0, 0, none⟩)), (.int .i64 3)] ?_
 have HCA := hid (chain3_2 HP.out (HT0.out.fr HF0.out HP0.out))
 refine HCA.out.mono ?_
 rintro e w5 ⟨rfl, hq⟩
 refine ⟨_, rfl, ?_⟩
 obtain ⟨hF, hp⟩ := hq
 replace K2 := hid (Fr.at hF K2.out (by simpa using (Ne.symm NE_q0_g1.out)))
 replace HF0 := hid (HF0.out.trans hF (by simp))
 replace HP := hid hp
 clear hF hp
 try simp only [Act.put, nA, nB, nC]
 obtain ⟨w6, hbx, hbk, hbf⟩ := st_x (T := 24) (c := #[(.int .i64 0), (strV []), (.int .i64 0), (.slice none 0 0), (.int .i64 0)]) (c' := #[(.int .i64 10), (strV [98]), (.int .i64 0), (.slice none 0 0), (.int .i64 4)]) (by kernel_rfl) rfl rfl K2.out (by intro v hv; simp at hv; rcases hv with rfl | rfl | rfl | rfl | rfl <;> first | rfl | assumption)
 replace K2 := hid hbk
 have HF7 := hid hbf
 have HX := hid hbx
 clear hbx hbk hbf
 refine wp_do rfl rfl (run_storeOp rfl (by kernel_rfl) (by kernel_rfl) HX.out) ?_
 try simp only [nA, nB, nC]
 replace HP := hid (Fr.at HF7.out HP.out (by simpa using NE_q0_g1.out))
 replace HF0 := hid (HF0.out.trans HF7.out (fun x hx => .inr (by rw [List.mem_singleton] at hx; rw [hx]; exact GE_g1.out)))
 refine we ?_
 go_wp2_with fail
 exact ret_cell rfl rfl rfl (load_blk Tryz.isAgg24 (by kernel_rfl) rfl K2.out) ⟨rfl, HF0.out, HP.out⟩
seal wpList in
theorem chain3_4 {w : World} {q0 : Nat} {tv : Value} (hp : Psr w q0 tv 4 1) (ht : Tks w tv tk6) : Calls Tryz.prog 109 #[.pointer (some ⟨q0, 0, none⟩), .int .i64 3] w fun e w' => e = .returned (.agg #[(.int .i64 5), (strV []), (.int .i64 1500000), (.slice none 0 0), (.int .i64 8)]) ∧ Fr [q0] w w' ∧ Psr w' q0 tv 5 1 := by
 have HP := hid hp
 have HP0 := hid hp
 have HT0 := hid ht
 have HF0 := hid (Fr.refl [q0] w)
 clear hp ht
 go_enter Tryz.func109, Tryz.ntmps109
 go_upto_region 0 with fail
 refine rl ?_
 obtain ⟨w3, g1, (HX : Hid _), (K2 : Hid _), (HB4 : Hid _), (GV : Hid _)⟩ := alh_api_Node w
 have NE_q0_g1 := kn HP GV
 have GE_g1 := kg HF0 GV
 refine wp_run (v := (.pointer (some ⟨g1, 0, none⟩))) rfl rfl (run_alOp rfl HX.out) rfl ?_
 try simp only [nA, nB, nC]
 replace HP := ka HB4 HP
 replace HF0 := kf HF0 HB4
 refine we ?_
 go_upto_region 1 with fail
 refine rl ?_
 refine qv (.pointer (some ⟨q0, 0, none⟩)) ?_
 refine qv (.int .i64 3) ?_
 simp only [nA, nB, nC]
 refine qc #[(.pointer (some ⟨q0, 0, none⟩)), (.int .i64 3)] ?_
 have HCA := hid (lower3_4 HP.out (HT0.out.fr HF0.out HP0.out))
 refine HCA.out.mono ?_
 rintro e w5 ⟨rfl, hq⟩
 refine ⟨_, rfl, ?_⟩
 obtain ⟨hF, hp⟩ := hq
 replace K2 := hid (Fr.at hF K2.out (by simpa using (Ne.symm NE_q0_g1.out)))
 replace HF0 := hid (HF0.out.trans hF (by simp))
 replace HP := hid hp
 clear hF hp
 try simp only [Act.put, nA, nB, nC]
 obtain ⟨wv, w8, g6, hx1, hx2, hbk, hbb, hge⟩ := var_api_Node w5 5 [] 1500000 none 0 0 8
 have K7 := hid hbk
 have HBV := hid hbb
 have HX1 := hid hx1
 have HX2 := hid hx2
 have GV := hid hge
 clear hx1 hx2 hbk hbb hge
 refine wp_run (v := (.pointer (some ⟨g6, 0, none⟩))) rfl rfl (run_alOp rfl HX1.out) rfl ?_
 try simp only [nA, nB, nC]
 refine wp_do rfl rfl (run_storeOp rfl (by kernel_rfl) (by kernel_rfl) HX2.out) ?_
 try simp only [nA, nB, nC]
 clear HX1 HX2
 have NE_q0_g6 := kn HP GV
 have NE_g1_g6 := kn K2 GV
 have GE_g6 := kg HF0 GV
 replace HP := ka HBV HP
 replace K2 := ka HBV K2
 replace HF0 := kf HF0 HBV
 clear HBV GV
 refine we ?_
 go_wp2_with fail
 go_loopw [] (fun wr => Fr [q0] w wr ∧ wr.heap[q0]? = some (.cells #[tv, (.int .i64 5), (.int .i64 1), (.int .i64 0), (.int .i64 0)] 97 (0, 0)) ∧ wr.heap[g1]? = some (.cells #[(.int .i64 0), (strV []), (.int .i64 0), (.slice none 0 0), (.int .i64 0)] 24 (0, 0)) ∧ wr.heap[g6]? = some (.cells #[(.int .i64 5), (strV []), (.int .i64 1500000), (.slice none 0 0), (.int .i64 8)] 24 (0, 0))) (fun _ => 0)
 case atStart =>
  exact ⟨HF0.out, HP.out, K2.out, K7.out⟩
 case round =>
  obtain ⟨hF, hk0, hk1, hk2⟩ := hrel
  clear HF0
  have HF0 := hid hF
  clear HP
  have HP := hid hk0
  clear K2
  have K2 := hid hk1
  clear K7
  have K7 := hid hk2
  clear hF hk0 hk1 hk2
  go_upto_region 2 with fail
  refine rl ?_
  refine qv (.pointer (some ⟨q0, 0, none⟩)) ?_
  refine qv (.pointer (some ⟨q0, 0, none⟩)) ?_
  refine qf (fa_usanceref07_parser_3 q0 0) ?_
  refine ql (.int .i64 0) Tryz.isAgg26 3 HP ?_
  simp only [nA, nB, nC]
  refine qb (beql_api_Errno 0 0 true (by decide)) ?_
  simp only [nA, nB, nC]
  refine we ?_
  go_upto_region 3 with fail
  refine rl ?_
  refine qv (.bool false) ?_
  simp only [nA, nB, nC]
  refine we ?_
  go_upto_region 4 with fail
  refine rl ?_
  refine qv (.int .i64 3) ?_
  simp only [nA, nB, nC]
  refine qc #[(.int .i64 3)] ?_
  have HCA := hid (signs_3 wr)
  refine HCA.out.mono ?_
  rintro e w10 ⟨g9, he, hk, hb, hge⟩
  ·subst he
   refine ⟨_, rfl, ?_⟩
   have HSG := hid hk
   have HBS := hid hb
   have GV := hid hge
   clear hk hb hge
   have NE_q0_g9 := kn HP GV
   have NE_g1_g9 := kn K2 GV
   have NE_g6_g9 := kn K7 GV
   have GE_g9 := kg HF0 GV
   replace HP := ka HBS HP
   replace K2 := ka HBS K2
   replace K7 := ka HBS K7
   replace HF0 := kf HF0 HBS
   have Kg9 := hid HSG.out
   clear HSG HBS GV
   try simp only [Act.put, nA, nB, nC]
   refine qv (.slice (some ⟨g9, 0, none⟩) 2 2) ?_
   simp only [nA, nB, nC]
   refine we ?_
   go_upto_region 5 with fail
   refine rl ?_
   refine qv (.int .i64 0) ?_
   simp only [nA, nB, nC]
   refine we ?_
   go_wp2_with fail
   go_loopw [8, 6] (fun v8 v6 wr => ((v8 = (.int .i64 0) ∧ v6 = (.bool false)) ∨ (v8 = (.int .i64 1) ∧ v6 = (.bool false)) ∨ (v8 = (.int .i64 2) ∧ v6 = (.bool false))) ∧ Fr [q0] w wr ∧ wr.heap[q0]? = some (.cells #[tv, (.int .i64 5), (.int .i64 1), (.int .i64 0), (.int .i64 0)] 97 (0, 0)) ∧ wr.heap[g1]? = some (.cells #[(.int .i64 0), (strV []), (.int .i64 0), (.slice none 0 0), (.int .i64 0)] 24 (0, 0)) ∧ wr.heap[g6]? = some (.cells #[(.int .i64 5), (strV []), (.int .i64 1500000), (.slice none 0 0), (.int .i64 8)] 24 (0, 0)) ∧ wr.heap[g9]? = some (.cells #[(strV [42]), (strV [47])] 9 (0, 0))) (fun v8 _ _ => 9 - (intOf v8).toNat)
   case atStart =>
    exact ⟨.inl ⟨rfl, rfl⟩, HF0.out, HP.out, K2.out, K7.out, Kg9.out⟩
   case round =>
    obtain ⟨hst, hF, hk0, hk1, hk2, hk3⟩ := hrel
    clear HF0
    have HF0 := hid hF
    clear HP
    have HP := hid hk0
    clear K2
    have K2 := hid hk1
    clear K7
    have K7 := hid hk2
    clear Kg9
    have Kg9 := hid hk3
    clear hF hk0 hk1 hk2 hk3
    rcases hst with ⟨rfl, rfl⟩ | ⟨rfl, rfl⟩ | ⟨rfl, rfl⟩
    ·skip
     go_upto_region 6 with fail
     refine rl ?_
     refine qv (.int .i64 0) ?_
     refine qv (.slice (some ⟨g9, 0, none⟩) 2 2) ?_
     simp only [nA, nB, nC]
     refine wp_y (v := (.int .i64 2)) rfl rfl (y_lenT len_Sstring (p := (some ⟨g9, 0, none⟩)) (n := 2) (c := 2) rfl (by kernel_rfl) (by kernel_rfl)) rfl ?_
     simp only [nA, nB, nC]
     refine qb (blss_int 0 2 true (by decide)) ?_
     simp only [nA, nB, nC]
     refine we ?_
     go_upto_region 8 with fail
     refine rl ?_
     refine qv (.pointer (some ⟨q0, 0, none⟩)) ?_
     refine qv (.slice (some ⟨g9, 0, none⟩) 2 2) ?_
     refine qv (.int .i64 0) ?_
     simp only [nA, nB, nC]
     refine wp_y (v := (.pointer (some ⟨g9, 0, none⟩))) rfl rfl (y_index (p := (.slice (some ⟨g9, 0, none⟩) 2 2)) (k := (.int .i64 0)) rfl (by kernel_rfl) (by kernel_rfl) (by kernel_rfl) (fun w => by kernel_rfl)) rfl ?_
     simp only [nA, nB, nC]
     refine ql (strV [42]) Tryz.isAgg9 0 Kg9 ?_
     simp only [nA, nB, nC]
     refine qc #[(.pointer (some ⟨q0, 0, none⟩)), (strV [42])] ?_
     have HCA := hid (is_any (i := 5) (t := ⟨0, [], 0, 11⟩) HP.out (HT0.out.fr HF0.out HP0.out) rfl [42])
     refine HCA.out.mono ?_
     rintro e w11 ⟨he, hq⟩
     rw [(show Tok.is ⟨0, [], 0, 11⟩ [42] = false from rfl)] at he
     subst he
     refine ⟨_, rfl, ?_⟩
     have HB12 := hid hq
     clear hq
     replace HP := ka HB12 HP
     replace K2 := ka HB12 K2
     replace K7 := ka HB12 K7
     replace Kg9 := ka HB12 Kg9
     replace HF0 := kf HF0 HB12
     try simp only [Act.put, nA, nB, nC]
     refine qv (.bool false) ?_
     simp only [nA, nB, nC]
     refine we ?_
     go_upto_region 9 with fail
     refine rl ?_
     refine qv (.bool false) ?_
     refine qv (.bool false) ?_
     simp only [nA, nB, nC]
     refine qg (.bool false) rfl ?_
     simp only [nA, nB, nC]
     refine qv (.bool false) ?_
     refine qv (.bool false) ?_
     simp only [nA, nB, nC]
     refine we ?_
     go_upto_region 7 with fail
     refine rl ?_
     refine qv (.int .i64 0) ?_
     refine qb (badd_int 0 1 1 (by decide)) ?_
     refine qv (.int .i64 1) ?_
     simp only [nA, nB, nC]
     refine we ?_
     go_wp2_with fail
     exact ⟨⟨.inr (.inl ⟨rfl, rfl⟩), HF0.out, HP.out, K2.out, K7.out, Kg9.out⟩, by simp [intOf]⟩
    ·skip
     go_upto_region 6 with fail
     refine rl ?_
     refine qv (.int .i64 1) ?_
     refine qv (.slice (some ⟨g9, 0, none⟩) 2 2) ?_
     simp only [nA, nB, nC]
     refine wp_y (v := (.int .i64 2)) rfl rfl (y_lenT len_Sstring (p := (some ⟨g9, 0, none⟩)) (n := 2) (c := 2) rfl (by kernel_rfl) (by kernel_rfl)) rfl ?_
     simp only [nA, nB, nC]
     refine qb (blss_int 1 2 true (by decide)) ?_
     simp only [nA, nB, nC]
     refine we ?_
     go_upto_region 8 with fail
     refine rl ?_
     refine qv (.pointer (some ⟨q0, 0, none⟩)) ?_
     refine qv (.slice (some ⟨g9, 0, none⟩) 2 2) ?_
     refine qv (.int .i64 1) ?_
     simp only [nA, nB, nC]
     refine wp_y (v := (.pointer (some ⟨g9, 1, none⟩))) rfl rfl (y_index (p := (.slice (some ⟨g9, 0, none⟩) 2 2)) (k := (.int .i64 1)) rfl (by kernel_rfl) (by kernel_rfl) (by kernel_rfl) (fun w => by kernel_rfl)) rfl ?_
     simp only [nA, nB, nC]
     refine ql (strV [47]) Tryz.isAgg9 1 Kg9 ?_
     simp only [nA, nB, nC]
     refine qc #[(.pointer (some ⟨q0, 0, none⟩)), (strV [47])] ?_
     have HCA := hid (is_any (i := 5) (t := ⟨0, [], 0, 11⟩) HP.out (HT0.out.fr HF0.out HP0.out) rfl [47])
     refine HCA.out.mono ?_
     rintro e w13 ⟨he, hq⟩
     rw [(show Tok.is ⟨0, [], 0, 11⟩ [47] = false from rfl)] at he
     subst he
     refine ⟨_, rfl, ?_⟩
     have HB14 := hid hq
     clear hq
     replace HP := ka HB14 HP
     replace K2 := ka HB14 K2
     replace K7 := ka HB14 K7
     replace Kg9 := ka HB14 Kg9
     replace HF0 := kf HF0 HB14
     try simp only [Act.put, nA, nB, nC]
     refine qv (.bool false) ?_
     simp only [nA, nB, nC]
     refine we ?_
     go_upto_region 9 with fail
     refine rl ?_
     refine qv (.bool false) ?_
     refine qv (.bool false) ?_
     simp only [nA, nB, nC]
     refine qg (.bool false) rfl ?_
     simp only [nA, nB, nC]
     refine qv (.bool false) ?_
     refine qv (.bool false) ?_
     simp only [nA, nB, nC]
     refine we ?_
     go_upto_region 7 with fail
     refine rl ?_
     refine qv (.int .i64 1) ?_
     refine qb (badd_int 1 1 2 (by decide)) ?_
     refine qv (.int .i64 2) ?_
     simp only [nA, nB, nC]
     refine we ?_
     go_wp2_with fail
     exact ⟨⟨.inr (.inr (⟨rfl, rfl⟩)), HF0.out, HP.out, K2.out, K7.out, Kg9.out⟩, by simp [intOf]⟩
    ·skip
     go_upto_region 6 with fail
     refine rl ?_
     refine qv (.int .i64 2) ?_
     refine qv (.slice (some ⟨g9, 0, none⟩) 2 2) ?_
     simp only [nA, nB, nC]
     refine wp_y (v := (.int .i64 2)) rfl rfl (y_lenT len_Sstring (p := (some ⟨g9, 0, none⟩)) (n := 2) (c := 2) rfl (by kernel_rfl) (by kernel_rfl)) rfl ?_
     simp only [nA, nB, nC]
     refine qb (blss_int 2 2 false (by decide)) ?_
     simp only [nA, nB, nC]
     refine we ?_
     go_upto_region 10 with fail
     refine rl ?_
     refine qv (.bool false) ?_
     simp only [nA, nB, nC]
     refine wp_y (v := (.bool true)) rfl rfl (y_un (p := .bool false) rfl (by kernel_rfl) (by kernel_rfl) (fun w => qnotB false w)) rfl ?_
     simp only [nA, nB, nC]
     refine we ?_
     go_upto_region 14 with fail
     refine rl ?_
     refine qk (.agg #[(.int .i64 5), (strV []), (.int .i64 1500000), (.slice none 0 0), (.int .i64 8)]) Tryz.isAgg24 K7 ?_
     simp only [nA, nB, nC]
     obtain ⟨w15, hbx, hbk, hbf⟩ := st_x (T := 24) (c := #[(.int .i64 0), (strV []), (.int .i64 0), (.slice none 0 0), (.int .i64 0)]) (c' := #[(.int .i64 5), (strV []), (.int .i64 1500000), (.slice none 0 0), (.int .i64 8)]) (by kernel_rfl) rfl rfl K2.out (by intro v hv; simp at hv; rcases hv with rfl | rfl | rfl | rfl | rfl <;> first | rfl | assumption)
     replace K2 := hid hbk
     have HF16 := hid hbf
     have HX := hid hbx
     clear hbx hbk hbf
     refine wp_do rfl rfl (run_storeOp rfl (by kernel_rfl) (by kernel_rfl) HX.out) ?_
     try simp only [nA, nB, nC]
     replace HP := hid (Fr.at HF16.out HP.out (by simpa using NE_q0_g1.out))
     replace K7 := hid (Fr.at HF16.out K7.out (by simpa using (Ne.symm NE_g1_g6.out)))
     replace Kg9 := hid (Fr.at HF16.out Kg9.out (by simpa using (Ne.symm NE_g1_g9.out)))
     replace HF0 := hid (HF0.out.trans HF16.out (fun x hx => .inr (by rw [List.mem_singleton] at hx; rw [hx]; exact GE_g1.out)))
     refine we ?_
     go_wp2_with fail
     exact ret_cell rfl rfl rfl (load_blk Tryz.isAgg24 (by kernel_rfl) rfl K2.out) ⟨rfl, HF0.out, HP.out⟩
seal wpList in
theorem lower2_4 {w : World} {q0 : Nat} {tv : Value} (hp : Psr w q0 tv 4 1) (ht : Tks w tv tk6) : Calls Tryz.prog 143 #[.pointer (some ⟨q0, 0, none⟩), .int .i64 2] w fun e w' => e = .returned (.agg #[(.int .i64 5), (strV []), (.int .i64 1500000), (.slice none 0 0), (.int .i64 8)]) ∧ Fr [q0] w w' ∧ Psr w' q0 tv 5 1 := by
 have HP := hid hp
 have HP0 := hid hp
 have HT0 := hid ht
 have HF0 := hid (Fr.refl [q0] w)
 clear hp ht
 go_enter Tryz.func143, Tryz.ntmps143
 go_upto_region 0 with fail
 refine rl ?_
 obtain ⟨w3, g1, (HX : Hid _), (K2 : Hid _), (HB4 : Hid _), (GV : Hid _)⟩ := alh_api_Node w
 have NE_q0_g1 := kn HP GV
 have GE_g1 := kg HF0 GV
 refine wp_run (v := (.pointer (some ⟨g1, 0, none⟩))) rfl rfl (run_alOp rfl HX.out) rfl ?_
 try simp only [nA, nB, nC]
 replace HP := ka HB4 HP
 replace HF0 := kf HF0 HB4
 refine we ?_
 go_upto_region 1 with fail
 refine rl ?_
 refine qv (.int .i64 2) ?_
 simp only [nA, nB, nC]
 refine we ?_
 go_upto_region 2 with fail
 refine rl ?_
 refine qb (beql_int 2 0 false (by decide)) ?_
 refine qv (.bool false) ?_
 simp only [nA, nB, nC]
 refine we ?_
 go_upto_region 4 with fail
 refine rl ?_
 refine qb (beql_int 2 1 false (by decide)) ?_
 refine qv (.bool false) ?_
 simp only [nA, nB, nC]
 refine we ?_
 go_upto_region 6 with fail
 refine rl ?_
 refine qb (beql_int 2 2 true (by decide)) ?_
 refine qv (.bool true) ?_
 simp only [nA, nB, nC]
 refine we ?_
 go_upto_region 7 with fail
 refine rl ?_
 refine qv (.pointer (some ⟨q0, 0, none⟩)) ?_
 simp only [nA, nB, nC]
 refine qc #[(.pointer (some ⟨q0, 0, none⟩)), (.int .i64 3)] ?_
 have HCA := hid (chain3_4 HP.out (HT0.out.fr HF0.out HP0.out))
 refine HCA.out.mono ?_
 rintro e w5 ⟨rfl, hq⟩
 refine ⟨_, rfl, ?_⟩
 obtain ⟨hF, hp⟩ := hq
 replace K2 := hid (Fr.at hF K2.out (by simpa using (Ne.symm NE_q0_g1.out)))
 replace HF0 := hid (HF0.out.trans hF (by simp))
 replace HP := hid hp
 clear hF hp
 try simp only [Act.put, nA, nB, nC]
 obtain ⟨w6, hbx, hbk, hbf⟩ := st_x (T := 24) (c := #[(.int .i64 0), (strV []), (.int .i64 0), (.slice none 0 0), (.int .i64 0)]) (c' := #[(.int .i64 5), (strV []), (.int .i64 1500000), (.slice none 0 0), (.int .i64 8)]) (by kernel_rfl) rfl rfl K2.out (by intro v hv; simp at hv; rcases hv with rfl | rfl | rfl | rfl | rfl <;> first | rfl | assumption)
 replace K2 := hid hbk
 have HF7 := hid hbf
 have HX := hid hbx
 clear hbx hbk hbf
 refine wp_do rfl rfl (run_storeOp rfl (by kernel_rfl) (by kernel_rfl) HX.out) ?_
 try simp only [nA, nB, nC]
 replace HP := hid (Fr.at HF7.out HP.out (by simpa using NE_q0_g1.out))
 replace HF0 := hid (HF0.out.trans HF7.out (fun x hx => .inr (by rw [List.mem_singleton] at hx; rw [hx]; exact GE_g1.out)))
 refine we ?_
 go_wp2_with fail
 exact ret_cell rfl rfl rfl (load_blk Tryz.isAgg24 (by kernel_rfl) rfl K2.out) ⟨rfl, HF0.out, HP.out⟩
theorem nd_two {w : World} {g : Nat} {z : Nat × Nat} {k1 : Int} {x1 : List UInt8} {n1 : Int} {s1 : Value} {a1 k2 : Int} {x2 : List UInt8} {n2 : Int} {s2 : Value} {a2 : Int} {t1 t2 : Tr} (hg : w.heap[g]? = some (.cells #[.int .i64 k1, strV x1, .int .i64 n1, s1, .int .i64 a1, .int .i64 k2, strV x2, .int .i64 n2, s2, .int .i64 a2] 24 z)) (h1 : Nd w (nv k1 x1 n1 s1 a1) t1) (h2 : Nd w (nv k2 x2 n2 s2 a2) t2) (k : Int) (tx : List UInt8) (n at_ : Int) : Nd w (nv k tx n (.slice (some ⟨g, 0, none⟩) 2 2) at_) (.mk k tx n [t1, t2] at_) := by
 refine .mk k tx n [t1, t2] at_ (some ⟨g, 0, none⟩) 2 (fun i => if i = 0 then nv k1 x1 n1 s1 a1 else nv k2 x2 n2 s2 a2) ⟨by simp, by decide⟩ (fun i hi => ?_) (fun i t ht => ?_)
 ·match i, hi with
  | 0, _ => exact ⟨g, 0, rfl, k1, x1, n1, s1, a1, rfl, cell_at hg 0 rfl, cell_at hg 1 rfl, cell_at hg 2 rfl, cell_at hg 3 rfl, cell_at hg 4 rfl⟩
  | 1, _ => exact ⟨g, 0, rfl, k2, x2, n2, s2, a2, rfl, cell_at hg 5 rfl, cell_at hg 6 rfl, cell_at hg 7 rfl, cell_at hg 8 rfl, cell_at hg 9 rfl⟩
 ·match i, ht with
  | 0, ht => cases ht; exact h1
  | 1, ht => cases ht; exact h2
theorem nd_leaf (w : World) (k : Int) (tx : List UInt8) (n at_ : Int) : Nd w (nv k tx n (.slice none 0 0) at_) (.mk k tx n [] at_) := .mk k tx n [] at_ none 0 (fun _ => undef) (by decide) (fun i hi => by simp at hi) (fun i t ht => by simp at ht)
theorem bsg_Sapi_Node_2 (w : World) (z0 : Int) (s1 : List UInt8) (z2 : Int) (a3 : Option Addr) (n3 c3 : Nat) (z4 : Int) (z5 : Int) (s6 : List UInt8) (z7 : Int) (a8 : Option Addr) (n8 c8 : Nat) (z9 : Int) : ∃ w1 g, (Instr.buildSlice 22 2 #[(0, (.agg #[.int .i64 z0, strV s1, .int .i64 z2, .slice a3 n3 c3, .int .i64 z4])), (1, (.agg #[.int .i64 z5, strV s6, .int .i64 z7, .slice a8 n8 c8, .int .i64 z9]))]).run Tryz.prog w = .ok (.slice (some ⟨g, 0, none⟩) 2 2) w1 ∧ w1.heap[g]? = some (.cells #[.int .i64 z0, strV s1, .int .i64 z2, .slice a3 n3 c3, .int .i64 z4, .int .i64 z5, strV s6, .int .i64 z7, .slice a8 n8 c8, .int .i64 z9] 24 (0, 0)) ∧ Below w.heap.size w w1 ∧ w.heap.size ≤ g :=
 ⟨w.alloc (.cells #[.int .i64 z0, strV s1, .int .i64 z2, .slice a3 n3 c3, .int .i64 z4, .int .i64 z5, strV s6, .int .i64 z7, .slice a8 n8 c8, .int .i64 z9] 24), w.heap.size, by unfold strV; go_simp, heap_alloc_last w _, (Below.refl _ _).alloc (Nat.le_refl _) _, Nat.le_refl _⟩
theorem bu_api_Node_0_1_3_4 (w : World) (z0 : Int) (s1 : List UInt8) (a2 : Option Addr) (n2 c2 : Nat) (z3 : Int) : (Instr.build 24 #[(0, (.int .i64 z0)), (1, (strV s1)), (3, (.slice a2 n2 c2)), (4, (.int .i64 z3))]).run Tryz.prog w = .ok (.agg #[(.int .i64 z0), (strV s1), (.int .i64 0), (.slice a2 n2 c2), (.int .i64 z3)]) w := by
 unfold strV
 go_simp
seal wpList in
theorem chain2_any {w : World} {q0 : Nat} {tv : Value} (hp : Psr w q0 tv 0 1) (ht : Tks w tv tk6) : Calls Tryz.prog 109 #[.pointer (some ⟨q0, 0, none⟩), .int .i64 2] w fun e w' => ∃ g1 g2, e = .returned (.agg #[(.int .i64 13), (strV [45]), (.int .i64 0), (.slice (some ⟨g2, 0, none⟩) 2 2), (.int .i64 6)]) ∧ w'.heap[g1]? = some (.cells #[(.int .i64 10), (strV [97]), (.int .i64 0), (.slice none 0 0), (.int .i64 0), (.int .i64 10), (strV [98]), (.int .i64 0), (.slice none 0 0), (.int .i64 4)] 24 (0, 0)) ∧ w'.heap[g2]? = some (.cells #[(.int .i64 13), (strV [45]), (.int .i64 0), (.slice (some ⟨g1, 0, none⟩) 2 2), (.int .i64 2), (.int .i64 5), (strV []), (.int .i64 1500000), (.slice none 0 0), (.int .i64 8)] 24 (0, 0)) ∧ w.heap.size ≤ g1 ∧ w.heap.size ≤ g2 ∧ Fr [q0] w w' ∧ Psr w' q0 tv 5 1 := by
 have HP := hid hp
 have HP0 := hid hp
 have HT0 := hid ht
 have HF0 := hid (Fr.refl [q0] w)
 clear hp ht
 go_enter Tryz.func109, Tryz.ntmps109
 go_upto_region 0 with fail
 refine rl ?_
 obtain ⟨w3, g1, (HX : Hid _), (K2 : Hid _), (HB4 : Hid _), (GV : Hid _)⟩ := alh_api_Node w
 have NE_q0_g1 := kn HP GV
 have GE_g1 := kg HF0 GV
 refine wp_run (v := (.pointer (some ⟨g1, 0, none⟩))) rfl rfl (run_alOp rfl HX.out) rfl ?_
 try simp only [nA, nB, nC]
 replace HP := ka HB4 HP
 replace HF0 := kf HF0 HB4
 refine we ?_
 go_upto_region 1 with fail
 refine rl ?_
 refine qv (.pointer (some ⟨q0, 0, none⟩)) ?_
 refine qv (.int .i64 2) ?_
 simp only [nA, nB, nC]
 refine qc #[(.pointer (some ⟨q0, 0, none⟩)), (.int .i64 2)] ?_
 have HCA := hid (lower2_0 HP.out (HT0.out.fr HF0.out HP0.out))
 refine HCA.out.mono ?_
 rintro e w5 ⟨rfl, hq⟩
 refine ⟨_, rfl, ?_⟩
 obtain ⟨hF, hp⟩ := hq
 replace K2 := hid (Fr.at hF K2.out (by simpa using (Ne.symm NE_q0_g1.out)))
 replace HF0 := hid (HF0.out.trans hF (by simp))
 replace HP := hid hp
 clear hF hp
 try simp only [Act.put, nA, nB, nC]
 obtain ⟨wv, w8, g6, hx1, hx2, hbk, hbb, hge⟩ := var_api_Node w5 10 [97] 0 none 0 0 0
 have K7 := hid hbk
 have HBV := hid hbb
 have HX1 := hid hx1
 have HX2 := hid hx2
 have GV := hid hge
 clear hx1 hx2 hbk hbb hge
 refine wp_run (v := (.pointer (some ⟨g6, 0, none⟩))) rfl rfl (run_alOp rfl HX1.out) rfl ?_
 try simp only [nA, nB, nC]
 refine wp_do rfl rfl (run_storeOp rfl (by kernel_rfl) (by kernel_rfl) HX2.out) ?_
 try simp only [nA, nB, nC]
 clear HX1 HX2
 have NE_q0_g6 := kn HP GV
 have NE_g1_g6 := kn K2 GV
 have GE_g6 := kg HF0 GV
 replace HP := ka HBV HP
 replace K2 := ka HBV K2
 replace HF0 := kf HF0 HBV
 clear HBV GV
 refine we ?_
 go_wp2_with fail
 go_loopw [] (fun wr => Fr [q0] w wr ∧ ((wr.heap[g6]? = some (.cells #[(.int .i64 10), (strV [97]), (.int .i64 0), (.slice none 0 0), (.int .i64 0)] 24 (0, 0)) ∧ wr.heap[q0]? = some (.cells #[tv, (.int .i64 1), (.int .i64 1), (.int .i64 0), (.int .i64 0)] 97 (0, 0)) ∧ wr.heap[g1]? = some (.cells #[(.int .i64 0), (strV []), (.int .i64 0), (.slice none 0 0), (.int .i64 0)] 24 (0, 0))) ∨ (∃ gx, (q0 ≠ gx ∧ g1 ≠ gx ∧ g6 ≠ gx ∧ w.heap.size ≤ gx) ∧ wr.heap[g6]? = some (.cells #[(.int .i64 13), (strV [45]), (.int .i64 0), (.slice (some ⟨gx, 0, none⟩) 2 2), (.int .i64 2)] 24 (0, 0)) ∧ wr.heap[q0]? = some (.cells #[tv, (.int .i64 3), (.int .i64 1), (.int .i64 0), (.int .i64 0)] 97 (0, 0)) ∧ wr.heap[g1]? = some (.cells #[(.int .i64 0), (strV []), (.int .i64 0), (.slice none 0 0), (.int .i64 0)] 24 (0, 0)) ∧ wr.heap[gx]? = some (.cells #[(.int .i64 10), (strV [97]), (.int .i64 0), (.slice none 0 0), (.int .i64 0), (.int .i64 10), (strV [98]), (.int .i64 0), (.slice none 0 0), (.int .i64 4)] 24 (0, 0))) ∨ (∃ gx gy, (q0 ≠ gx ∧ g1 ≠ gx ∧ g6 ≠ gx ∧ w.heap.size ≤ gx) ∧ (q0 ≠ gy ∧ g1 ≠ gy ∧ g6 ≠ gy ∧ w.heap.size ≤ gy) ∧ wr.heap[g6]? = some (.cells #[(.int .i64 13), (strV [45]), (.int .i64 0), (.slice (some ⟨gy, 0, none⟩) 2 2), (.int .i64 6)] 24 (0, 0)) ∧ wr.heap[q0]? = some (.cells #[tv, (.int .i64 5), (.int .i64 1), (.int .i64 0), (.int .i64 0)] 97 (0, 0)) ∧ wr.heap[g1]? = some (.cells #[(.int .i64 0), (strV []), (.int .i64 0), (.slice none 0 0), (.int .i64 0)] 24 (0, 0)) ∧ wr.heap[gx]? = some (.cells #[(.int .i64 10), (strV [97]), (.int .i64 0), (.slice none 0 0), (.int .i64 0), (.int .i64 10), (strV [98]), (.int .i64 0), (.slice none 0 0), (.int .i64 4)] 24 (0, 0)) ∧ wr.heap[gy]? = some (.cells #[(.int .i64 13), (strV [45]), (.int .i64 0), (.slice (some ⟨gx, 0, none⟩) 2 2), (.int .i64 2), (.int .i64 5), (strV []), (.int .i64 1500000), (.slice none 0 0), (.int .i64 8)] 24 (0, 0))))) (fun wr => 9 - (intOf ((wr.cell? ⟨q0, 1, none⟩).getD undef)).toNat)
 case atStart =>
  exact ⟨HF0.out, .inl ⟨K7.out, HP.out, K2.out⟩⟩
 case round =>
  obtain ⟨hF, hst⟩ := hrel
  clear HF0 HP K7 K2
  have HF0 := hid hF
  clear hF
  rcases hst with ⟨hn, hp, hr⟩ | ⟨gA1, ⟨ha0, ha1, ha2, ha3⟩, hn, hp, hr, hk1⟩ | ⟨gA1, gB2, ⟨ha0, ha1, ha2, ha3⟩, ⟨hb0, hb1, hb2, hb3⟩, hn, hp, hr, hk1, hk2⟩
  ·skip
   have HP := hid hp
   have K7 := hid hn
   have K2 := hid hr
   have HM1 : Hid ((wr.cell? ⟨q0, 1, none⟩).getD undef = .int .i64 1) := hid (by rw [cell_at HP.out 1 rfl]; rfl)
   clear hp hn hr 
   go_upto_region 2 with fail
   refine rl ?_
   refine qv (.pointer (some ⟨q0, 0, none⟩)) ?_
   refine qv (.pointer (some ⟨q0, 0, none⟩)) ?_
   refine qf (fa_usanceref07_parser_3 q0 0) ?_
   refine ql (.int .i64 0) Tryz.isAgg26 3 HP ?_
   simp only [nA, nB, nC]
   refine qb (beql_api_Errno 0 0 true (by decide)) ?_
   simp only [nA, nB, nC]
   refine we ?_
   go_upto_region 3 with fail
   refine rl ?_
   refine qv (.bool false) ?_
   simp only [nA, nB, nC]
   refine we ?_
   go_upto_region 4 with fail
   refine rl ?_
   refine qv (.int .i64 2) ?_
   simp only [nA, nB, nC]
   refine qc #[(.int .i64 2)] ?_
   have HCA := hid (signs_2 wr)
   refine HCA.out.mono ?_
   rintro e w10 ⟨g9, he, hk, hb, hge⟩
   ·subst he
    refine ⟨_, rfl, ?_⟩
    have HSG := hid hk
    have HBS := hid hb
    have GV := hid hge
    clear hk hb hge
    have NE_q0_g9 := kn HP GV
    have NE_g1_g9 := kn K2 GV
    have NE_g6_g9 := kn K7 GV
    have GE_g9 := kg HF0 GV
    replace HP := ka HBS HP
    replace K2 := ka HBS K2
    replace K7 := ka HBS K7
    replace HF0 := kf HF0 HBS
    have Kg9 := hid HSG.out
    clear HSG HBS GV
    try simp only [Act.put, nA, nB, nC]
    refine qv (.slice (some ⟨g9, 0, none⟩) 2 2) ?_
    simp only [nA, nB, nC]
    refine we ?_
    go_upto_region 5 with fail
    refine rl ?_
    refine qv (.int .i64 0) ?_
    simp only [nA, nB, nC]
    refine we ?_
    go_wp2_with fail
    go_loopw [8, 6] (fun v8 v6 wr => ((v8 = (.int .i64 0) ∧ v6 = (.bool false)) ∨ (v8 = (.int .i64 1) ∧ v6 = (.bool false)) ∨ (v8 = (.int .i64 2) ∧ v6 = (.bool true))) ∧ Fr [q0] w wr ∧ wr.heap[q0]? = some (.cells #[tv, (.int .i64 1), (.int .i64 1), (.int .i64 0), (.int .i64 0)] 97 (0, 0)) ∧ wr.heap[g1]? = some (.cells #[(.int .i64 0), (strV []), (.int .i64 0), (.slice none 0 0), (.int .i64 0)] 24 (0, 0)) ∧ wr.heap[g6]? = some (.cells #[(.int .i64 10), (strV [97]), (.int .i64 0), (.slice none 0 0), (.int .i64 0)] 24 (0, 0)) ∧ wr.heap[g9]? = some (.cells #[(strV [43]), (strV [45])] 9 (0, 0))) (fun v8 _ _ => 9 - (intOf v8).toNat)
    case atStart =>
     exact ⟨.inl ⟨rfl, rfl⟩, HF0.out, HP.out, K2.out, K7.out, Kg9.out⟩
    case round =>
     obtain ⟨hst, hF, hk0, hk1, hk2, hk3⟩ := hrel
     clear HF0
     have HF0 := hid hF
     clear HP
     have HP := hid hk0
     clear K2
     have K2 := hid hk1
     clear K7
     have K7 := hid hk2
     clear Kg9
     have Kg9 := hid hk3
     clear hF hk0 hk1 hk2 hk3
     rcases hst with ⟨rfl, rfl⟩ | ⟨rfl, rfl⟩ | ⟨rfl, rfl⟩
     ·skip
      go_upto_region 6 with fail
      refine rl ?_
      refine qv (.int .i64 0) ?_
      refine qv (.slice (some ⟨g9, 0, none⟩) 2 2) ?_
      simp only [nA, nB, nC]
      refine wp_y (v := (.int .i64 2)) rfl rfl (y_lenT len_Sstring (p := (some ⟨g9, 0, none⟩)) (n := 2) (c := 2) rfl (by kernel_rfl) (by kernel_rfl)) rfl ?_
      simp only [nA, nB, nC]
      refine qb (blss_int 0 2 true (by decide)) ?_
      simp only [nA, nB, nC]
      refine we ?_
      go_upto_region 8 with fail
      refine rl ?_
      refine qv (.pointer (some ⟨q0, 0, none⟩)) ?_
      refine qv (.slice (some ⟨g9, 0, none⟩) 2 2) ?_
      refine qv (.int .i64 0) ?_
      simp only [nA, nB, nC]
      refine wp_y (v := (.pointer (some ⟨g9, 0, none⟩))) rfl rfl (y_index (p := (.slice (some ⟨g9, 0, none⟩) 2 2)) (k := (.int .i64 0)) rfl (by kernel_rfl) (by kernel_rfl) (by kernel_rfl) (fun w => by kernel_rfl)) rfl ?_
      simp only [nA, nB, nC]
      refine ql (strV [43]) Tryz.isAgg9 0 Kg9 ?_
      simp only [nA, nB, nC]
      refine qc #[(.pointer (some ⟨q0, 0, none⟩)), (strV [43])] ?_
      have HCA := hid (is_any (i := 1) (t := ⟨8, [45], 0, 2⟩) HP.out (HT0.out.fr HF0.out HP0.out) rfl [43])
      refine HCA.out.mono ?_
      rintro e w11 ⟨he, hq⟩
      rw [(show Tok.is ⟨8, [45], 0, 2⟩ [43] = false from rfl)] at he
      subst he
      refine ⟨_, rfl, ?_⟩
      have HB12 := hid hq
      clear hq
      replace HP := ka HB12 HP
      replace K2 := ka HB12 K2
      replace K7 := ka HB12 K7
      replace Kg9 := ka HB12 Kg9
      replace HF0 := kf HF0 HB12
      try simp only [Act.put, nA, nB, nC]
      refine qv (.bool false) ?_
      simp only [nA, nB, nC]
      refine we ?_
      go_upto_region 9 with fail
      refine rl ?_
      refine qv (.bool false) ?_
      refine qv (.bool false) ?_
      simp only [nA, nB, nC]
      refine qg (.bool false) rfl ?_
      simp only [nA, nB, nC]
      refine qv (.bool false) ?_
      refine qv (.bool false) ?_
      simp only [nA, nB, nC]
      refine we ?_
      go_upto_region 7 with fail
      refine rl ?_
      refine qv (.int .i64 0) ?_
      refine qb (badd_int 0 1 1 (by decide)) ?_
      refine qv (.int .i64 1) ?_
      simp only [nA, nB, nC]
      refine we ?_
      go_wp2_with fail
      exact ⟨⟨.inr (.inl ⟨rfl, rfl⟩), HF0.out, HP.out, K2.out, K7.out, Kg9.out⟩, by simp [intOf]⟩
     ·skip
      go_upto_region 6 with fail
      refine rl ?_
      refine qv (.int .i64 1) ?_
      refine qv (.slice (some ⟨g9, 0, none⟩) 2 2) ?_
      simp only [nA, nB, nC]
      refine wp_y (v := (.int .i64 2)) rfl rfl (y_lenT len_Sstring (p := (some ⟨g9, 0, none⟩)) (n := 2) (c := 2) rfl (by kernel_rfl) (by kernel_rfl)) rfl ?_
      simp only [nA, nB, nC]
      refine qb (blss_int 1 2 true (by decide)) ?_
      simp only [nA, nB, nC]
      refine we ?_
      go_upto_region 8 with fail
      refine rl ?_
      refine qv (.pointer (some ⟨q0, 0, none⟩)) ?_
      refine qv (.slice (some ⟨g9, 0, none⟩) 2 2) ?_
      refine qv (.int .i64 1) ?_
      simp only [nA, nB, nC]
      refine wp_y (v := (.pointer (some ⟨g9, 1, none⟩))) rfl rfl (y_index (p := (.slice (some ⟨g9, 0, none⟩) 2 2)) (k := (.int .i64 1)) rfl (by kernel_rfl) (by kernel_rfl) (by kernel_rfl) (fun w => by kernel_rfl)) rfl ?_
      simp only [nA, nB, nC]
      refine ql (strV [45]) Tryz.isAgg9 1 Kg9 ?_
      simp only [nA, nB, nC]
      refine qc #[(.pointer (some ⟨q0, 0, none⟩)), (strV [45])] ?_
      have HCA := hid (is_any (i := 1) (t := ⟨8, [45], 0, 2⟩) HP.out (HT0.out.fr HF0.out HP0.out) rfl [45])
      refine HCA.out.mono ?_
      rintro e w13 ⟨he, hq⟩
      rw [(show Tok.is ⟨8, [45], 0, 2⟩ [45] = true from rfl)] at he
      subst he
      refine ⟨_, rfl, ?_⟩
      have HB14 := hid hq
      clear hq
      replace HP := ka HB14 HP
      replace K2 := ka HB14 K2
      replace K7 := ka HB14 K7
      replace Kg9 := ka HB14 Kg9
      replace HF0 := kf HF0 HB14
      try simp only [Act.put, nA, nB, nC]
      refine qv (.bool true) ?_
      simp only [nA, nB, nC]
      refine we ?_
      go_upto_region 9 with fail
      refine rl ?_
      refine qv (.bool false) ?_
      refine qv (.bool false) ?_
      simp only [nA, nB, nC]
      refine qg (.bool true) rfl ?_
      simp only [nA, nB, nC]
      refine qv (.bool true) ?_
      refine qv (.bool true) ?_
      simp only [nA, nB, nC]
      refine we ?_
      go_upto_region 7 with fail
      refine rl ?_
      refine qv (.int .i64 1) ?_
      refine qb (badd_int 1 1 2 (by decide)) ?_
      refine qv (.int .i64 2) ?_
      simp only [nA, nB, nC]
      refine we ?_
      go_wp2_with fail
      exact ⟨⟨.inr (.inr (⟨rfl, rfl⟩)), HF0.out, HP.out, K2.out, K7.out, Kg9.out⟩, by simp [intOf]⟩
     ·skip
      go_upto_region 6 with fail
      refine rl ?_
      refine qv (.int .i64 2) ?_
      refine qv (.slice (some ⟨g9, 0, none⟩) 2 2) ?_
      simp only [nA, nB, nC]
      refine wp_y (v := (.int .i64 2)) rfl rfl (y_lenT len_Sstring (p := (some ⟨g9, 0, none⟩)) (n := 2) (c := 2) rfl (by kernel_rfl) (by kernel_rfl)) rfl ?_
      simp only [nA, nB, nC]
      refine qb (blss_int 2 2 false (by decide)) ?_
      simp only [nA, nB, nC]
      refine we ?_
      go_upto_region 10 with fail
      refine rl ?_
      refine qv (.bool true) ?_
      simp only [nA, nB, nC]
      refine wp_y (v := (.bool false)) rfl rfl (y_un (p := .bool true) rfl (by kernel_rfl) (by kernel_rfl) (fun w => qnotB true w)) rfl ?_
      simp only [nA, nB, nC]
      refine we ?_
      go_upto_region 11 with fail
      refine rl ?_
      refine qv (.pointer (some ⟨q0, 0, none⟩)) ?_
      simp only [nA, nB, nC]
      refine qc #[(.pointer (some ⟨q0, 0, none⟩))] ?_
      have HCA := hid (step_any (i := 1) (t := ⟨8, [45], 0, 2⟩) HP.out (HT0.out.fr HF0.out HP0.out) rfl rfl)
      refine HCA.out.mono ?_
      rintro e w15 ⟨rfl, hq⟩
      refine ⟨_, rfl, ?_⟩
      obtain ⟨hF, hp⟩ := hq
      replace K2 := hid (Fr.at hF K2.out (by simpa using (Ne.symm NE_q0_g1.out)))
      replace K7 := hid (Fr.at hF K7.out (by simpa using (Ne.symm NE_q0_g6.out)))
      replace Kg9 := hid (Fr.at hF Kg9.out (by simpa using (Ne.symm NE_q0_g9.out)))
      replace HF0 := hid (HF0.out.trans hF (by simp))
      replace HP := hid hp
      clear hF hp
      try simp only [Act.put, nA, nB, nC]
      obtain ⟨wv, w18, g16, hx1, hx2, hbk, hbb, hge⟩ := var_usanceref07_Token w15 8 [45] 0 2
      have K17 := hid hbk
      have HBV := hid hbb
      have HX1 := hid hx1
      have HX2 := hid hx2
      have GV := hid hge
      clear hx1 hx2 hbk hbb hge
      refine wp_run (v := (.pointer (some ⟨g16, 0, none⟩))) rfl rfl (run_alOp rfl HX1.out) rfl ?_
      try simp only [nA, nB, nC]
      refine wp_do rfl rfl (run_storeOp rfl (by kernel_rfl) (by kernel_rfl) HX2.out) ?_
      try simp only [nA, nB, nC]
      clear HX1 HX2
      have NE_q0_g16 := kn HP GV
      have NE_g1_g16 := kn K2 GV
      have NE_g6_g16 := kn K7 GV
      have NE_g9_g16 := kn Kg9 GV
      have GE_g16 := kg HF0 GV
      replace HP := ka HBV HP
      replace K2 := ka HBV K2
      replace K7 := ka HBV K7
      replace Kg9 := ka HBV Kg9
      replace HF0 := kf HF0 HBV
      clear HBV GV
      refine we ?_
      go_upto_region 12 with fail
      refine rl ?_
      refine qv (.pointer (some ⟨q0, 0, none⟩)) ?_
      refine qv (.int .i64 2) ?_
      simp only [nA, nB, nC]
      refine qc #[(.pointer (some ⟨q0, 0, none⟩)), (.int .i64 2)] ?_
      have HCA := hid (lower2_2 HP.out (HT0.out.fr HF0.out HP0.out))
      refine HCA.out.mono ?_
      rintro e w19 ⟨rfl, hq⟩
      refine ⟨_, rfl, ?_⟩
      obtain ⟨hF, hp⟩ := hq
      replace K2 := hid (Fr.at hF K2.out (by simpa using (Ne.symm NE_q0_g1.out)))
      replace K7 := hid (Fr.at hF K7.out (by simpa using (Ne.symm NE_q0_g6.out)))
      replace Kg9 := hid (Fr.at hF Kg9.out (by simpa using (Ne.symm NE_q0_g9.out)))
      replace K17 := hid (Fr.at hF K17.out (by simpa using (Ne.symm NE_q0_g16.out)))
      replace HF0 := hid (HF0.out.trans hF (by simp))
      replace HP := hid hp
      clear hF hp
      try simp only [Act.put, nA, nB, nC]
      obtain ⟨wv, w22, g20, hx1, hx2, hbk, hbb, hge⟩ := var_api_Node w19 10 [98] 0 none 0 0 4
      have K21 := hid hbk
      have HBV := hid hbb
      have HX1 := hid hx1
      have HX2 := hid hx2
      have GV := hid hge
      clear hx1 hx2 hbk hbb hge
      refine wp_run (v := (.pointer (some ⟨g20, 0, none⟩))) rfl rfl (run_alOp rfl HX1.out) rfl ?_
      try simp only [nA, nB, nC]
      refine wp_do rfl rfl (run_storeOp rfl (by kernel_rfl) (by kernel_rfl) HX2.out) ?_
      try simp only [nA, nB, nC]
      clear HX1 HX2
      have NE_q0_g20 := kn HP GV
      have NE_g1_g20 := kn K2 GV
      have NE_g6_g20 := kn K7 GV
      have NE_g9_g20 := kn Kg9 GV
      have NE_g16_g20 := kn K17 GV
      have GE_g20 := kg HF0 GV
      replace HP := ka HBV HP
      replace K2 := ka HBV K2
      replace K7 := ka HBV K7
      replace Kg9 := ka HBV Kg9
      replace K17 := ka HBV K17
      replace HF0 := kf HF0 HBV
      clear HBV GV
      refine we ?_
      go_upto_region 13 with fail
      refine rl ?_
      refine qv (.pointer (some ⟨q0, 0, none⟩)) ?_
      refine qf (fa_usanceref07_Token_1 g16 0) ?_
      refine ql (strV [45]) Tryz.isAgg9 1 K17 ?_
      refine qk (.agg #[(.int .i64 10), (strV [97]), (.int .i64 0), (.slice none 0 0), (.int .i64 0)]) Tryz.isAgg24 K7 ?_
      simp only [nA, nB, nC]
      refine qk (.agg #[(.int .i64 10), (strV [98]), (.int .i64 0), (.slice none 0 0), (.int .i64 4)]) Tryz.isAgg24 K21 ?_
      simp only [nA, nB, nC]
      obtain ⟨w25, g23, (HX : Hid _), (K24 : Hid _), (HB26 : Hid _), (GV : Hid _)⟩ := bsg_Sapi_Node_2 w22 10 [97] 0 none 0 0 0 10 [98] 0 none 0 0 4
      have NE_q0_g23 := kn HP GV
      have NE_g1_g23 := kn K2 GV
      have NE_g6_g23 := kn K7 GV
      have NE_g9_g23 := kn Kg9 GV
      have NE_g16_g23 := kn K17 GV
      have NE_g20_g23 := kn K21 GV
      have GE_g23 := kg HF0 GV
      refine wp_run (v := (.slice (some ⟨g23, 0, none⟩) 2 2)) rfl rfl (run_bsOp rfl (by kernel_rfl) HX.out) rfl ?_
      try simp only [nA, nB, nC]
      replace HP := ka HB26 HP
      replace K2 := ka HB26 K2
      replace K7 := ka HB26 K7
      replace Kg9 := ka HB26 Kg9
      replace K17 := ka HB26 K17
      replace K21 := ka HB26 K21
      replace HF0 := kf HF0 HB26
      refine qf (fa_usanceref07_Token_3 g16 0) ?_
      refine ql (.int .i64 2) Tryz.isAgg3 3 K17 ?_
      simp only [nA, nB, nC]
      refine wp_y (v := (.agg #[(.int .i64 13), (strV [45]), (.int .i64 0), (.slice (some ⟨g23, 0, none⟩) 2 2), (.int .i64 2)])) rfl rfl (y_val2 rfl (h := fun w' h => by rw [h]; exact run_buildOp rfl (by kernel_rfl) (bu_api_Node_0_1_3_4 w25 13 [45] (some ⟨g23, 0, none⟩) 2 2 2))) rfl ?_
      simp only [nA, nB, nC]
      refine qc #[(.pointer (some ⟨q0, 0, none⟩)), (.agg #[(.int .i64 13), (strV [45]), (.int .i64 0), (.slice (some ⟨g23, 0, none⟩) 2 2), (.int .i64 2)])] ?_
      have HCA := hid (pmade_any (t := (.mk 13 [45] 0 [(.mk 10 [97] 0 [] 0), (.mk 10 [98] 0 [] 4)] 2)) HP.out (nd_two K24.out (nd_leaf _ _ _ _ _) (nd_leaf _ _ _ _ _) _ _ _ _) (by decide))
      refine HCA.out.mono ?_
      rintro e w27 ⟨rfl, (HB28 : Hid _)⟩
      refine ⟨_, rfl, ?_⟩
      replace HP := ka HB28 HP
      replace K2 := ka HB28 K2
      replace K7 := ka HB28 K7
      replace Kg9 := ka HB28 Kg9
      replace K17 := ka HB28 K17
      replace K21 := ka HB28 K21
      replace K24 := ka HB28 K24
      replace HF0 := kf HF0 HB28
      try simp only [Act.put, nA, nB, nC]
      obtain ⟨w29, hbx, hbk, hbf⟩ := st_x (T := 24) (c := #[(.int .i64 10), (strV [97]), (.int .i64 0), (.slice none 0 0), (.int .i64 0)]) (c' := #[(.int .i64 13), (strV [45]), (.int .i64 0), (.slice (some ⟨g23, 0, none⟩) 2 2), (.int .i64 2)]) (by kernel_rfl) rfl rfl K7.out (by intro v hv; simp at hv; rcases hv with rfl | rfl | rfl | rfl | rfl <;> first | rfl | assumption)
      replace K7 := hid hbk
      have HF30 := hid hbf
      have HX := hid hbx
      clear hbx hbk hbf
      refine wp_do rfl rfl (run_storeOp rfl (by kernel_rfl) (by kernel_rfl) HX.out) ?_
      try simp only [nA, nB, nC]
      replace HP := hid (Fr.at HF30.out HP.out (by simpa using NE_q0_g6.out))
      replace K2 := hid (Fr.at HF30.out K2.out (by simpa using NE_g1_g6.out))
      replace Kg9 := hid (Fr.at HF30.out Kg9.out (by simpa using (Ne.symm NE_g6_g9.out)))
      replace K17 := hid (Fr.at HF30.out K17.out (by simpa using (Ne.symm NE_g6_g16.out)))
      replace K21 := hid (Fr.at HF30.out K21.out (by simpa using (Ne.symm NE_g6_g20.out)))
      replace K24 := hid (Fr.at HF30.out K24.out (by simpa using (Ne.symm NE_g6_g23.out)))
      replace HF0 := hid (HF0.out.trans HF30.out (fun x hx => .inr (by rw [List.mem_singleton] at hx; rw [hx]; exact GE_g6.out)))
      refine we ?_
      go_wp2_with fail
      exact ⟨⟨HF0.out, .inr (.inl ⟨g23, ⟨NE_q0_g23.out, NE_g1_g23.out, NE_g6_g23.out, GE_g23.out⟩, K7.out, HP.out, K2.out, K24.out⟩)⟩, by rw [HM1.out, show (w29.cell? ⟨q0, 1, none⟩).getD undef = .int .i64 3 from by rw [cell_at HP.out 1 rfl]; rfl]; decide⟩
  ·skip
   have HP := hid hp
   have K7 := hid hn
   have K2 := hid hr
   have NE_q0_gA1 := hid ha0
   have NE_g1_gA1 := hid ha1
   have NE_g6_gA1 := hid ha2
   have GE_gA1 := hid ha3
   have KA := hid hk1
   have HM1 : Hid ((wr.cell? ⟨q0, 1, none⟩).getD undef = .int .i64 3) := hid (by rw [cell_at HP.out 1 rfl]; rfl)
   clear hp hn hr hk1 ha0 ha1 ha2 ha3
   go_upto_region 2 with fail
   refine rl ?_
   refine qv (.pointer (some ⟨q0, 0, none⟩)) ?_
   refine qv (.pointer (some ⟨q0, 0, none⟩)) ?_
   refine qf (fa_usanceref07_parser_3 q0 0) ?_
   refine ql (.int .i64 0) Tryz.isAgg26 3 HP ?_
   simp only [nA, nB, nC]
   refine qb (beql_api_Errno 0 0 true (by decide)) ?_
   simp only [nA, nB, nC]
   refine we ?_
   go_upto_region 3 with fail
   refine rl ?_
   refine qv (.bool false) ?_
   simp only [nA, nB, nC]
   refine we ?_
   go_upto_region 4 with fail
   refine rl ?_
   refine qv (.int .i64 2) ?_
   simp only [nA, nB, nC]
   refine qc #[(.int .i64 2)] ?_
   have HCA := hid (signs_2 wr)
   refine HCA.out.mono ?_
   rintro e w32 ⟨g31, he, hk, hb, hge⟩
   ·subst he
    refine ⟨_, rfl, ?_⟩
    have HSG := hid hk
    have HBS := hid hb
    have GV := hid hge
    clear hk hb hge
    have NE_q0_g31 := kn HP GV
    have NE_g1_g31 := kn K2 GV
    have NE_g6_g31 := kn K7 GV
    have NE_gA1_g31 := kn KA GV
    have GE_g31 := kg HF0 GV
    replace HP := ka HBS HP
    replace K2 := ka HBS K2
    replace K7 := ka HBS K7
    replace KA := ka HBS KA
    replace HF0 := kf HF0 HBS
    have Kg31 := hid HSG.out
    clear HSG HBS GV
    try simp only [Act.put, nA, nB, nC]
    refine qv (.slice (some ⟨g31, 0, none⟩) 2 2) ?_
    simp only [nA, nB, nC]
    refine we ?_
    go_upto_region 5 with fail
    refine rl ?_
    refine qv (.int .i64 0) ?_
    simp only [nA, nB, nC]
    refine we ?_
    go_wp2_with fail
    go_loopw [8, 6] (fun v8 v6 wr => ((v8 = (.int .i64 0) ∧ v6 = (.bool false)) ∨ (v8 = (.int .i64 1) ∧ v6 = (.bool false)) ∨ (v8 = (.int .i64 2) ∧ v6 = (.bool true))) ∧ Fr [q0] w wr ∧ wr.heap[q0]? = some (.cells #[tv, (.int .i64 3), (.int .i64 1), (.int .i64 0), (.int .i64 0)] 97 (0, 0)) ∧ wr.heap[g1]? = some (.cells #[(.int .i64 0), (strV []), (.int .i64 0), (.slice none 0 0), (.int .i64 0)] 24 (0, 0)) ∧ wr.heap[gA1]? = some (.cells #[(.int .i64 10), (strV [97]), (.int .i64 0), (.slice none 0 0), (.int .i64 0), (.int .i64 10), (strV [98]), (.int .i64 0), (.slice none 0 0), (.int .i64 4)] 24 (0, 0)) ∧ wr.heap[g6]? = some (.cells #[(.int .i64 13), (strV [45]), (.int .i64 0), (.slice (some ⟨gA1, 0, none⟩) 2 2), (.int .i64 2)] 24 (0, 0)) ∧ wr.heap[g31]? = some (.cells #[(strV [43]), (strV [45])] 9 (0, 0))) (fun v8 _ _ => 9 - (intOf v8).toNat)
    case atStart =>
     exact ⟨.inl ⟨rfl, rfl⟩, HF0.out, HP.out, K2.out, KA.out, K7.out, Kg31.out⟩
    case round =>
     obtain ⟨hst, hF, hk0, hk1, hk2, hk3, hk4⟩ := hrel
     clear HF0
     have HF0 := hid hF
     clear HP
     have HP := hid hk0
     clear K2
     have K2 := hid hk1
     clear KA
     have KA := hid hk2
     clear K7
     have K7 := hid hk3
     clear Kg31
     have Kg31 := hid hk4
     clear hF hk0 hk1 hk2 hk3 hk4
     rcases hst with ⟨rfl, rfl⟩ | ⟨rfl, rfl⟩ | ⟨rfl, rfl⟩
     ·skip
      go_upto_region 6 with fail
      refine rl ?_
      refine qv (.int .i64 0) ?_
      refine qv (.slice (some ⟨g31, 0, none⟩) 2 2) ?_
      simp only [nA, nB, nC]
      refine wp_y (v := (.int .i64 2)) rfl rfl (y_lenT len_Sstring (p := (some ⟨g31, 0, none⟩)) (n := 2) (c := 2) rfl (by kernel_rfl) (by kernel_rfl)) rfl ?_
      simp only [nA, nB, nC]
      refine qb (blss_int 0 2 true (by decide)) ?_
      simp only [nA, nB, nC]
      refine we ?_
      go_upto_region 8 with fail
      refine rl ?_
      refine qv (.pointer (some ⟨q0, 0, none⟩)) ?_
      refine qv (.slice (some ⟨g31, 0, none⟩) 2 2) ?_
      refine qv (.int .i64 0) ?_
      simp only [nA, nB, nC]
      refine wp_y (v := (.pointer (some ⟨g31, 0, none⟩))) rfl rfl (y_index (p := (.slice (some ⟨g31, 0, none⟩) 2 2)) (k := (.int .i64 0)) rfl (by kernel_rfl) (by kernel_rfl) (by kernel_rfl) (fun w => by kernel_rfl)) rfl ?_
      simp only [nA, nB, nC]
      refine ql (strV [43]) Tryz.isAgg9 0 Kg31 ?_
      simp only [nA, nB, nC]
      refine qc #[(.pointer (some ⟨q0, 0, none⟩)), (strV [43])] ?_
      have HCA := hid (is_any (i := 3) (t := ⟨8, [45], 0, 6⟩) HP.out (HT0.out.fr HF0.out HP0.out) rfl [43])
      refine HCA.out.mono ?_
      rintro e w33 ⟨he, hq⟩
      rw [(show Tok.is ⟨8, [45], 0, 6⟩ [43] = false from rfl)] at he
      subst he
      refine ⟨_, rfl, ?_⟩
      have HB34 := hid hq
      clear hq
      replace HP := ka HB34 HP
      replace K2 := ka HB34 K2
      replace K7 := ka HB34 K7
      replace KA := ka HB34 KA
      replace Kg31 := ka HB34 Kg31
      replace HF0 := kf HF0 HB34
      try simp only [Act.put, nA, nB, nC]
      refine qv (.bool false) ?_
      simp only [nA, nB, nC]
      refine we ?_
      go_upto_region 9 with fail
      refine rl ?_
      refine qv (.bool false) ?_
      refine qv (.bool false) ?_
      simp only [nA, nB, nC]
      refine qg (.bool false) rfl ?_
      simp only [nA, nB, nC]
      refine qv (.bool false) ?_
      refine qv (.bool false) ?_
      simp only [nA, nB, nC]
      refine we ?_
      go_upto_region 7 with fail
      refine rl ?_
      refine qv (.int .i64 0) ?_
      refine qb (badd_int 0 1 1 (by decide)) ?_
      refine qv (.int .i64 1) ?_
      simp only [nA, nB, nC]
      refine we ?_
      go_wp2_with fail
      exact ⟨⟨.inr (.inl ⟨rfl, rfl⟩), HF0.out, HP.out, K2.out, KA.out, K7.out, Kg31.out⟩, by simp [intOf]⟩
     ·skip
      go_upto_region 6 with fail
      refine rl ?_
      refine qv (.int .i64 1) ?_
      refine qv (.slice (some ⟨g31, 0, none⟩) 2 2) ?_
      simp only [nA, nB, nC]
      refine wp_y (v := (.int .i64 2)) rfl rfl (y_lenT len_Sstring (p := (some ⟨g31, 0, none⟩)) (n := 2) (c := 2) rfl (by kernel_rfl) (by kernel_rfl)) rfl ?_
      simp only [nA, nB, nC]
      refine qb (blss_int 1 2 true (by decide)) ?_
      simp only [nA, nB, nC]
      refine we ?_
      go_upto_region 8 with fail
      refine rl ?_
      refine qv (.pointer (some ⟨q0, 0, none⟩)) ?_
      refine qv (.slice (some ⟨g31, 0, none⟩) 2 2) ?_
      refine qv (.int .i64 1) ?_
      simp only [nA, nB, nC]
      refine wp_y (v := (.pointer (some ⟨g31, 1, none⟩))) rfl rfl (y_index (p := (.slice (some ⟨g31, 0, none⟩) 2 2)) (k := (.int .i64 1)) rfl (by kernel_rfl) (by kernel_rfl) (by kernel_rfl) (fun w => by kernel_rfl)) rfl ?_
      simp only [nA, nB, nC]
      refine ql (strV [45]) Tryz.isAgg9 1 Kg31 ?_
      simp only [nA, nB, nC]
      refine qc #[(.pointer (some ⟨q0, 0, none⟩)), (strV [45])] ?_
      have HCA := hid (is_any (i := 3) (t := ⟨8, [45], 0, 6⟩) HP.out (HT0.out.fr HF0.out HP0.out) rfl [45])
      refine HCA.out.mono ?_
      rintro e w35 ⟨he, hq⟩
      rw [(show Tok.is ⟨8, [45], 0, 6⟩ [45] = true from rfl)] at he
      subst he
      refine ⟨_, rfl, ?_⟩
      have HB36 := hid hq
      clear hq
      replace HP := ka HB36 HP
      replace K2 := ka HB36 K2
      replace K7 := ka HB36 K7
      replace KA := ka HB36 KA
      replace Kg31 := ka HB36 Kg31
      replace HF0 := kf HF0 HB36
      try simp only [Act.put, nA, nB, nC]
      refine qv (.bool true) ?_
      simp only [nA, nB, nC]
      refine we ?_
      go_upto_region 9 with fail
      refine rl ?_
      refine qv (.bool false) ?_
      refine qv (.bool false) ?_
      simp only [nA, nB, nC]
      refine qg (.bool true) rfl ?_
      simp only [nA, nB, nC]
      refine qv (.bool true) ?_
      refine qv (.bool true) ?_
      simp only [nA, nB, nC]
      refine we ?_
      go_upto_region 7 with fail
      refine rl ?_
      refine qv (.int .i64 1) ?_
      refine qb (badd_int 1 1 2 (by decide)) ?_
      refine qv (.int .i64 2) ?_
      simp only [nA, nB, nC]
      refine we ?_
      go_wp2_with fail
      exact ⟨⟨.inr (.inr (⟨rfl, rfl⟩)), HF0.out, HP.out, K2.out, KA.out, K7.out, Kg31.out⟩, by simp [intOf]⟩
     ·skip
      go_upto_region 6 with fail
      refine rl ?_
      refine qv (.int .i64 2) ?_
      refine qv (.slice (some ⟨g31, 0, none⟩) 2 2) ?_
      simp only [nA, nB, nC]
      refine wp_y (v := (.int .i64 2)) rfl rfl (y_lenT len_Sstring (p := (some ⟨g31, 0, none⟩)) (n := 2) (c := 2) rfl (by kernel_rfl) (by kernel_rfl)) rfl ?_
      simp only [nA, nB, nC]
      refine qb (blss_int 2 2 false (by decide)) ?_
      simp only [nA, nB, nC]
      refine we ?_
      go_upto_region 10 with fail
      refine rl ?_
      refine qv (.bool true) ?_
      simp only [nA, nB, nC]
      refine wp_y (v := (.bool false)) rfl rfl (y_un (p := .bool true) rfl (by kernel_rfl) (by kernel_rfl) (fun w => qnotB true w)) rfl ?_
      simp only [nA, nB, nC]
      refine we ?_
      go_upto_region 11 with fail
      refine rl ?_
      refine qv (.pointer (some ⟨q0, 0, none⟩)) ?_
      simp only [nA, nB, nC]
      refine qc #[(.pointer (some ⟨q0, 0, none⟩))] ?_
      have HCA := hid (step_any (i := 3) (t := ⟨8, [45], 0, 6⟩) HP.out (HT0.out.fr HF0.out HP0.out) rfl rfl)
      refine HCA.out.mono ?_
      rintro e w37 ⟨rfl, hq⟩
      refine ⟨_, rfl, ?_⟩
      obtain ⟨hF, hp⟩ := hq
      replace K2 := hid (Fr.at hF K2.out (by simpa using (Ne.symm NE_q0_g1.out)))
      replace K7 := hid (Fr.at hF K7.out (by simpa using (Ne.symm NE_q0_g6.out)))
      replace KA := hid (Fr.at hF KA.out (by simpa using (Ne.symm NE_q0_gA1.out)))
      replace Kg31 := hid (Fr.at hF Kg31.out (by simpa using (Ne.symm NE_q0_g31.out)))
      replace HF0 := hid (HF0.out.trans hF (by simp))
      replace HP := hid hp
      clear hF hp
      try simp only [Act.put, nA, nB, nC]
      obtain ⟨wv, w40, g38, hx1, hx2, hbk, hbb, hge⟩ := var_usanceref07_Token w37 8 [45] 0 6
      have K39 := hid hbk
      have HBV := hid hbb
      have HX1 := hid hx1
      have HX2 := hid hx2
      have GV := hid hge
      clear hx1 hx2 hbk hbb hge
      refine wp_run (v := (.pointer (some ⟨g38, 0, none⟩))) rfl rfl (run_alOp rfl HX1.out) rfl ?_
      try simp only [nA, nB, nC]
      refine wp_do rfl rfl (run_storeOp rfl (by kernel_rfl) (by kernel_rfl) HX2.out) ?_
      try simp only [nA, nB, nC]
      clear HX1 HX2
      have NE_q0_g38 := kn HP GV
      have NE_g1_g38 := kn K2 GV
      have NE_g6_g38 := kn K7 GV
      have NE_gA1_g38 := kn KA GV
      have NE_g31_g38 := kn Kg31 GV
      have GE_g38 := kg HF0 GV
      replace HP := ka HBV HP
      replace K2 := ka HBV K2
      replace K7 := ka HBV K7
      replace KA := ka HBV KA
      replace Kg31 := ka HBV Kg31
      replace HF0 := kf HF0 HBV
      clear HBV GV
      refine we ?_
      go_upto_region 12 with fail
      refine rl ?_
      refine qv (.pointer (some ⟨q0, 0, none⟩)) ?_
      refine qv (.int .i64 2) ?_
      simp only [nA, nB, nC]
      refine qc #[(.pointer (some ⟨q0, 0, none⟩)), (.int .i64 2)] ?_
      have HCA := hid (lower2_4 HP.out (HT0.out.fr HF0.out HP0.out))
      refine HCA.out.mono ?_
      rintro e w41 ⟨rfl, hq⟩
      refine ⟨_, rfl, ?_⟩
      obtain ⟨hF, hp⟩ := hq
      replace K2 := hid (Fr.at hF K2.out (by simpa using (Ne.symm NE_q0_g1.out)))
      replace K7 := hid (Fr.at hF K7.out (by simpa using (Ne.symm NE_q0_g6.out)))
      replace KA := hid (Fr.at hF KA.out (by simpa using (Ne.symm NE_q0_gA1.out)))
      replace Kg31 := hid (Fr.at hF Kg31.out (by simpa using (Ne.symm NE_q0_g31.out)))
      replace K39 := hid (Fr.at hF K39.out (by simpa using (Ne.symm NE_q0_g38.out)))
      replace HF0 := hid (HF0.out.trans hF (by simp))
      replace HP := hid hp
      clear hF hp
      try simp only [Act.put, nA, nB, nC]
      obtain ⟨wv, w44, g42, hx1, hx2, hbk, hbb, hge⟩ := var_api_Node w41 5 [] 1500000 none 0 0 8
      have K43 := hid hbk
      have HBV := hid hbb
      have HX1 := hid hx1
      have HX2 := hid hx2
      have GV := hid hge
      clear hx1 hx2 hbk hbb hge
      refine wp_run (v := (.pointer (some ⟨g42, 0, none⟩))) rfl rfl (run_alOp rfl HX1.out) rfl ?_
      try simp only [nA, nB, nC]
      refine wp_do rfl rfl (run_storeOp rfl (by kernel_rfl) (by kernel_rfl) HX2.out) ?_
      try simp only [nA, nB, nC]
      clear HX1 HX2
      have NE_q0_g42 := kn HP GV
      have NE_g1_g42 := kn K2 GV
      have NE_g6_g42 := kn K7 GV
      have NE_gA1_g42 := kn KA GV
      have NE_g31_g42 := kn Kg31 GV
      have NE_g38_g42 := kn K39 GV
      have GE_g42 := kg HF0 GV
      replace HP := ka HBV HP
      replace K2 := ka HBV K2
      replace K7 := ka HBV K7
      replace KA := ka HBV KA
      replace Kg31 := ka HBV Kg31
      replace K39 := ka HBV K39
      replace HF0 := kf HF0 HBV
      clear HBV GV
      refine we ?_
      go_upto_region 13 with fail
      refine rl ?_
      refine qv (.pointer (some ⟨q0, 0, none⟩)) ?_
      refine qf (fa_usanceref07_Token_1 g38 0) ?_
      refine ql (strV [45]) Tryz.isAgg9 1 K39 ?_
      refine qk (.agg #[(.int .i64 13), (strV [45]), (.int .i64 0), (.slice (some ⟨gA1, 0, none⟩) 2 2), (.int .i64 2)]) Tryz.isAgg24 K7 ?_
      simp only [nA, nB, nC]
      refine qk (.agg #[(.int .i64 5), (strV []), (.int .i64 1500000), (.slice none 0 0), (.int .i64 8)]) Tryz.isAgg24 K43 ?_
      simp only [nA, nB, nC]
      obtain ⟨w47, g45, (HX : Hid _), (K46 : Hid _), (HB48 : Hid _), (GV : Hid _)⟩ := bsg_Sapi_Node_2 w44 13 [45] 0 (some ⟨gA1, 0, none⟩) 2 2 2 5 [] 1500000 none 0 0 8
      have NE_q0_g45 := kn HP GV
      have NE_g1_g45 := kn K2 GV
      have NE_g6_g45 := kn K7 GV
      have NE_gA1_g45 := kn KA GV
      have NE_g31_g45 := kn Kg31 GV
      have NE_g38_g45 := kn K39 GV
      have NE_g42_g45 := kn K43 GV
      have GE_g45 := kg HF0 GV
      refine wp_run (v := (.slice (some ⟨g45, 0, none⟩) 2 2)) rfl rfl (run_bsOp rfl (by kernel_rfl) HX.out) rfl ?_
      try simp only [nA, nB, nC]
      replace HP := ka HB48 HP
      replace K2 := ka HB48 K2
      replace K7 := ka HB48 K7
      replace KA := ka HB48 KA
      replace Kg31 := ka HB48 Kg31
      replace K39 := ka HB48 K39
      replace K43 := ka HB48 K43
      replace HF0 := kf HF0 HB48
      refine qf (fa_usanceref07_Token_3 g38 0) ?_
      refine ql (.int .i64 6) Tryz.isAgg3 3 K39 ?_
      simp only [nA, nB, nC]
      refine wp_y (v := (.agg #[(.int .i64 13), (strV [45]), (.int .i64 0), (.slice (some ⟨g45, 0, none⟩) 2 2), (.int .i64 6)])) rfl rfl (y_val2 rfl (h := fun w' h => by rw [h]; exact run_buildOp rfl (by kernel_rfl) (bu_api_Node_0_1_3_4 w47 13 [45] (some ⟨g45, 0, none⟩) 2 2 6))) rfl ?_
      simp only [nA, nB, nC]
      refine qc #[(.pointer (some ⟨q0, 0, none⟩)), (.agg #[(.int .i64 13), (strV [45]), (.int .i64 0), (.slice (some ⟨g45, 0, none⟩) 2 2), (.int .i64 6)])] ?_
      have HCA := hid (pmade_any (t := (.mk 13 [45] 0 [(.mk 13 [45] 0 [(.mk 10 [97] 0 [] 0), (.mk 10 [98] 0 [] 4)] 2), (.mk 5 [] 1500000 [] 8)] 6)) HP.out (nd_two K46.out (nd_two KA.out (nd_leaf _ _ _ _ _) (nd_leaf _ _ _ _ _) _ _ _ _) (nd_leaf _ _ _ _ _) _ _ _ _) (by decide))
      refine HCA.out.mono ?_
      rintro e w49 ⟨rfl, (HB50 : Hid _)⟩
      refine ⟨_, rfl, ?_⟩
      replace HP := ka HB50 HP
      replace K2 := ka HB50 K2
      replace K7 := ka HB50 K7
      replace KA := ka HB50 KA
      replace Kg31 := ka HB50 Kg31
      replace K39 := ka HB50 K39
      replace K43 := ka HB50 K43
      replace K46 := ka HB50 K46
      replace HF0 := kf HF0 HB50
      try simp only [Act.put, nA, nB, nC]
      obtain ⟨w51, hbx, hbk, hbf⟩ := st_x (T := 24) (c := #[(.int .i64 13), (strV [45]), (.int .i64 0), (.slice (some ⟨gA1, 0, none⟩) 2 2), (.int .i64 2)]) (c' := #[(.int .i64 13), (strV [45]), (.int .i64 0), (.slice (some ⟨g45, 0, none⟩) 2 2), (.int .i64 6)]) (by kernel_rfl) rfl rfl K7.out (by intro v hv; simp at hv; rcases hv with rfl | rfl | rfl | rfl | rfl <;> first | rfl | assumption)
      replace K7 := hid hbk
      have HF52 := hid hbf
      have HX := hid hbx
      clear hbx hbk hbf
      refine wp_do rfl rfl (run_storeOp rfl (by kernel_rfl) (by kernel_rfl) HX.out) ?_
      try simp only [nA, nB, nC]
      replace HP := hid (Fr.at HF52.out HP.out (by simpa using NE_q0_g6.out))
      replace K2 := hid (Fr.at HF52.out K2.out (by simpa using NE_g1_g6.out))
      replace KA := hid (Fr.at HF52.out KA.out (by simpa using (Ne.symm NE_g6_gA1.out)))
      replace Kg31 := hid (Fr.at HF52.out Kg31.out (by simpa using (Ne.symm NE_g6_g31.out)))
      replace K39 := hid (Fr.at HF52.out K39.out (by simpa using (Ne.symm NE_g6_g38.out)))
      replace K43 := hid (Fr.at HF52.out K43.out (by simpa using (Ne.symm NE_g6_g42.out)))
      replace K46 := hid (Fr.at HF52.out K46.out (by simpa using (Ne.symm NE_g6_g45.out)))
      replace HF0 := hid (HF0.out.trans HF52.out (fun x hx => .inr (by rw [List.mem_singleton] at hx; rw [hx]; exact GE_g6.out)))
      refine we ?_
      go_wp2_with fail
      exact ⟨⟨HF0.out, .inr (.inr ⟨gA1, g45, ⟨NE_q0_gA1.out, NE_g1_gA1.out, NE_g6_gA1.out, GE_gA1.out⟩, ⟨NE_q0_g45.out, NE_g1_g45.out, NE_g6_g45.out, GE_g45.out⟩, K7.out, HP.out, K2.out, KA.out, K46.out⟩)⟩, by rw [HM1.out, show (w51.cell? ⟨q0, 1, none⟩).getD undef = .int .i64 5 from by rw [cell_at HP.out 1 rfl]; rfl]; decide⟩
  ·skip
   have HP := hid hp
   have K7 := hid hn
   have K2 := hid hr
   have NE_q0_gA1 := hid ha0
   have NE_g1_gA1 := hid ha1
   have NE_g6_gA1 := hid ha2
   have GE_gA1 := hid ha3
   have KA := hid hk1
   have NE_q0_gB2 := hid hb0
   have NE_g1_gB2 := hid hb1
   have NE_g6_gB2 := hid hb2
   have GE_gB2 := hid hb3
   have KB := hid hk2
   have HM1 : Hid ((wr.cell? ⟨q0, 1, none⟩).getD undef = .int .i64 5) := hid (by rw [cell_at HP.out 1 rfl]; rfl)
   clear hp hn hr hk1 hk2 ha0 ha1 ha2 ha3 hb0 hb1 hb2 hb3
   go_upto_region 2 with fail
   refine rl ?_
   refine qv (.pointer (some ⟨q0, 0, none⟩)) ?_
   refine qv (.pointer (some ⟨q0, 0, none⟩)) ?_
   refine qf (fa_usanceref07_parser_3 q0 0) ?_
   refine ql (.int .i64 0) Tryz.isAgg26 3 HP ?_
   simp only [nA, nB, nC]
   refine qb (beql_api_Errno 0 0 true (by decide)) ?_
   simp only [nA, nB, nC]
   refine we ?_
   go_upto_region 3 with fail
   refine rl ?_
   refine qv (.bool false) ?_
   simp only [nA, nB, nC]
   refine we ?_
   go_upto_region 4 with fail
   refine rl ?_
   refine qv (.int .i64 2) ?_
   simp only [nA, nB, nC]
   refine qc #[(.int .i64 2)] ?_
   have HCA := hid (signs_2 wr)
   refine HCA.out.mono ?_
   rintro e w54 ⟨g53, he, hk, hb, hge⟩
   ·subst he
    refine ⟨_, rfl, ?_⟩
    have HSG := hid hk
    have HBS := hid hb
    have GV := hid hge
    clear hk hb hge
    have NE_q0_g53 := kn HP GV
    have NE_g1_g53 := kn K2 GV
    have NE_g6_g53 := kn K7 GV
    have NE_gA1_g53 := kn KA GV
    have NE_gB2_g53 := kn KB GV
    have GE_g53 := kg HF0 GV
    replace HP := ka HBS HP
    replace K2 := ka HBS K2
    replace K7 := ka HBS K7
    replace KA := ka HBS KA
    replace KB := ka HBS KB
    replace HF0 := kf HF0 HBS
    have Kg53 := hid HSG.out
    clear HSG HBS GV
    try simp only [Act.put, nA, nB, nC]
    refine qv (.slice (some ⟨g53, 0, none⟩) 2 2) ?_
    simp only [nA, nB, nC]
    refine we ?_
    go_upto_region 5 with fail
    refine rl ?_
    refine qv (.int .i64 0) ?_
    simp only [nA, nB, nC]
    refine we ?_
    go_wp2_with fail
    go_loopw [8, 6] (fun v8 v6 wr => ((v8 = (.int .i64 0) ∧ v6 = (.bool false)) ∨ (v8 = (.int .i64 1) ∧ v6 = (.bool false)) ∨ (v8 = (.int .i64 2) ∧ v6 = (.bool false))) ∧ Fr [q0] w wr ∧ wr.heap[q0]? = some (.cells #[tv, (.int .i64 5), (.int .i64 1), (.int .i64 0), (.int .i64 0)] 97 (0, 0)) ∧ wr.heap[g1]? = some (.cells #[(.int .i64 0), (strV []), (.int .i64 0), (.slice none 0 0), (.int .i64 0)] 24 (0, 0)) ∧ wr.heap[gA1]? = some (.cells #[(.int .i64 10), (strV [97]), (.int .i64 0), (.slice none 0 0), (.int .i64 0), (.int .i64 10), (strV [98]), (.int .i64 0), (.slice none 0 0), (.int .i64 4)] 24 (0, 0)) ∧ wr.heap[gB2]? = some (.cells #[(.int .i64 13), (strV [45]), (.int .i64 0), (.slice (some ⟨gA1, 0, none⟩) 2 2), (.int .i64 2), (.int .i64 5), (strV []), (.int .i64 1500000), (.slice none 0 0), (.int .i64 8)] 24 (0, 0)) ∧ wr.heap[g6]? = some (.cells #[(.int .i64 13), (strV [45]), (.int .i64 0), (.slice (some ⟨gB2, 0, none⟩) 2 2), (.int .i64 6)] 24 (0, 0)) ∧ wr.heap[g53]? = some (.cells #[(strV [43]), (strV [45])] 9 (0, 0))) (fun v8 _ _ => 9 - (intOf v8).toNat)
    case atStart =>
     exact ⟨.inl ⟨rfl, rfl⟩, HF0.out, HP.out, K2.out, KA.out, KB.out, K7.out, Kg53.out⟩
    case round =>
     obtain ⟨hst, hF, hk0, hk1, hk2, hk3, hk4, hk5⟩ := hrel
     clear HF0
     have HF0 := hid hF
     clear HP
     have HP := hid hk0
     clear K2
     have K2 := hid hk1
     clear KA
     have KA := hid hk2
     clear KB
     have KB := hid hk3
     clear K7
     have K7 := hid hk4
     clear Kg53
     have Kg53 := hid hk5
     clear hF hk0 hk1 hk2 hk3 hk4 hk5
     rcases hst with ⟨rfl, rfl⟩ | ⟨rfl, rfl⟩ | ⟨rfl, rfl⟩
     ·skip
      go_upto_region 6 with fail
      refine rl ?_
      refine qv (.int .i64 0) ?_
      refine qv (.slice (some ⟨g53, 0, none⟩) 2 2) ?_
      simp only [nA, nB, nC]
      refine wp_y (v := (.int .i64 2)) rfl rfl (y_lenT len_Sstring (p := (some ⟨g53, 0, none⟩)) (n := 2) (c := 2) rfl (by kernel_rfl) (by kernel_rfl)) rfl ?_
      simp only [nA, nB, nC]
      refine qb (blss_int 0 2 true (by decide)) ?_
      simp only [nA, nB, nC]
      refine we ?_
      go_upto_region 8 with fail
      refine rl ?_
      refine qv (.pointer (some ⟨q0, 0, none⟩)) ?_
      refine qv (.slice (some ⟨g53, 0, none⟩) 2 2) ?_
      refine qv (.int .i64 0) ?_
      simp only [nA, nB, nC]
      refine wp_y (v := (.pointer (some ⟨g53, 0, none⟩))) rfl rfl (y_index (p := (.slice (some ⟨g53, 0, none⟩) 2 2)) (k := (.int .i64 0)) rfl (by kernel_rfl) (by kernel_rfl) (by kernel_rfl) (fun w => by kernel_rfl)) rfl ?_
      simp only [nA, nB, nC]
      refine ql (strV [43]) Tryz.isAgg9 0 Kg53 ?_
      simp only [nA, nB, nC]
      refine qc #[(.pointer (some ⟨q0, 0, none⟩)), (strV [43])] ?_
      have HCA := hid (is_any (i := 5) (t := ⟨0, [], 0, 11⟩) HP.out (HT0.out.fr HF0.out HP0.out) rfl [43])
      refine HCA.out.mono ?_
      rintro e w55 ⟨he, hq⟩
      rw [(show Tok.is ⟨0, [], 0, 11⟩ [43] = false from rfl)] at he
      subst he
      refine ⟨_, rfl, ?_⟩
      have HB56 := hid hq
      clear hq
      replace HP := ka HB56 HP
      replace K2 := ka HB56 K2
      replace K7 := ka HB56 K7
      replace KA := ka HB56 KA
      replace KB := ka HB56 KB
      replace Kg53 := ka HB56 Kg53
      replace HF0 := kf HF0 HB56
      try simp only [Act.put, nA, nB, nC]
      refine qv (.bool false) ?_
      simp only [nA, nB, nC]
      refine we ?_
      go_upto_region 9 with fail
      refine rl ?_
      refine qv (.bool false) ?_
      refine qv (.bool false) ?_
      simp only [nA, nB, nC]
      refine qg (.bool false) rfl ?_
      simp only [nA, nB, nC]
      refine qv (.bool false) ?_
      refine qv (.bool false) ?_
      simp only [nA, nB, nC]
      refine we ?_
      go_upto_region 7 with fail
      refine rl ?_
      refine qv (.int .i64 0) ?_
      refine qb (badd_int 0 1 1 (by decide)) ?_
      refine qv (.int .i64 1) ?_
      simp only [nA, nB, nC]
      refine we ?_
      go_wp2_with fail
      exact ⟨⟨.inr (.inl ⟨rfl, rfl⟩), HF0.out, HP.out, K2.out, KA.out, KB.out, K7.out, Kg53.out⟩, by simp [intOf]⟩
     ·skip
      go_upto_region 6 with fail
      refine rl ?_
      refine qv (.int .i64 1) ?_
      refine qv (.slice (some ⟨g53, 0, none⟩) 2 2) ?_
      simp only [nA, nB, nC]
      refine wp_y (v := (.int .i64 2)) rfl rfl (y_lenT len_Sstring (p := (some ⟨g53, 0, none⟩)) (n := 2) (c := 2) rfl (by kernel_rfl) (by kernel_rfl)) rfl ?_
      simp only [nA, nB, nC]
      refine qb (blss_int 1 2 true (by decide)) ?_
      simp only [nA, nB, nC]
      refine we ?_
      go_upto_region 8 with fail
      refine rl ?_
      refine qv (.pointer (some ⟨q0, 0, none⟩)) ?_
      refine qv (.slice (some ⟨g53, 0, none⟩) 2 2) ?_
      refine qv (.int .i64 1) ?_
      simp only [nA, nB, nC]
      refine wp_y (v := (.pointer (some ⟨g53, 1, none⟩))) rfl rfl (y_index (p := (.slice (some ⟨g53, 0, none⟩) 2 2)) (k := (.int .i64 1)) rfl (by kernel_rfl) (by kernel_rfl) (by kernel_rfl) (fun w => by kernel_rfl)) rfl ?_
      simp only [nA, nB, nC]
      refine ql (strV [45]) Tryz.isAgg9 1 Kg53 ?_
      simp only [nA, nB, nC]
      refine qc #[(.pointer (some ⟨q0, 0, none⟩)), (strV [45])] ?_
      have HCA := hid (is_any (i := 5) (t := ⟨0, [], 0, 11⟩) HP.out (HT0.out.fr HF0.out HP0.out) rfl [45])
      refine HCA.out.mono ?_
      rintro e w57 ⟨he, hq⟩
      rw [(show Tok.is ⟨0, [], 0, 11⟩ [45] = false from rfl)] at he
      subst he
      refine ⟨_, rfl, ?_⟩
      have HB58 := hid hq
      clear hq
      replace HP := ka HB58 HP
      replace K2 := ka HB58 K2
      replace K7 := ka HB58 K7
      replace KA := ka HB58 KA
      replace KB := ka HB58 KB
      replace Kg53 := ka HB58 Kg53
      replace HF0 := kf HF0 HB58
      try simp only [Act.put, nA, nB, nC]
      refine qv (.bool false) ?_
      simp only [nA, nB, nC]
      refine we ?_
      go_upto_region 9 with fail
      refine rl ?_
      refine qv (.bool false) ?_
      refine qv (.bool false) ?_
      simp only [nA, nB, nC]
      refine qg (.bool false) rfl ?_
      simp only [nA, nB, nC]
      refine qv (.bool false) ?_
      refine qv (.bool false) ?_
      simp only [nA, nB, nC]
      refine we ?_
      go_upto_region 7 with fail
      refine rl ?_
      refine qv (.int .i64 1) ?_
      refine qb (badd_int 1 1 2 (by decide)) ?_
      refine qv (.int .i64 2) ?_
      simp only [nA, nB, nC]
      refine we ?_
      go_wp2_with fail
      exact ⟨⟨.inr (.inr (⟨rfl, rfl⟩)), HF0.out, HP.out, K2.out, KA.out, KB.out, K7.out, Kg53.out⟩, by simp [intOf]⟩
     ·skip
      go_upto_region 6 with fail
      refine rl ?_
      refine qv (.int .i64 2) ?_
      refine qv (.slice (some ⟨g53, 0, none⟩) 2 2) ?_
      simp only [nA, nB, nC]
      refine wp_y (v := (.int .i64 2)) rfl rfl (y_lenT len_Sstring (p := (some ⟨g53, 0, none⟩)) (n := 2) (c := 2) rfl (by kernel_rfl) (by kernel_rfl)) rfl ?_
      simp only [nA, nB, nC]
      refine qb (blss_int 2 2 false (by decide)) ?_
      simp only [nA, nB, nC]
      refine we ?_
      go_upto_region 10 with fail
      refine rl ?_
      refine qv (.bool false) ?_
      simp only [nA, nB, nC]
      refine wp_y (v := (.bool true)) rfl rfl (y_un (p := .bool false) rfl (by kernel_rfl) (by kernel_rfl) (fun w => qnotB false w)) rfl ?_
      simp only [nA, nB, nC]
      refine we ?_
      go_upto_region 14 with fail
      refine rl ?_
      refine qk (.agg #[(.int .i64 13), (strV [45]), (.int .i64 0), (.slice (some ⟨gB2, 0, none⟩) 2 2), (.int .i64 6)]) Tryz.isAgg24 K7 ?_
      simp only [nA, nB, nC]
      obtain ⟨w59, hbx, hbk, hbf⟩ := st_x (T := 24) (c := #[(.int .i64 0), (strV []), (.int .i64 0), (.slice none 0 0), (.int .i64 0)]) (c' := #[(.int .i64 13), (strV [45]), (.int .i64 0), (.slice (some ⟨gB2, 0, none⟩) 2 2), (.int .i64 6)]) (by kernel_rfl) rfl rfl K2.out (by intro v hv; simp at hv; rcases hv with rfl | rfl | rfl | rfl | rfl <;> first | rfl | assumption)
      replace K2 := hid hbk
      have HF60 := hid hbf
      have HX := hid hbx
      clear hbx hbk hbf
      refine wp_do rfl rfl (run_storeOp rfl (by kernel_rfl) (by kernel_rfl) HX.out) ?_
      try simp only [nA, nB, nC]
      replace HP := hid (Fr.at HF60.out HP.out (by simpa using NE_q0_g1.out))
      replace K7 := hid (Fr.at HF60.out K7.out (by simpa using (Ne.symm NE_g1_g6.out)))
      replace KA := hid (Fr.at HF60.out KA.out (by simpa using (Ne.symm NE_g1_gA1.out)))
      replace KB := hid (Fr.at HF60.out KB.out (by simpa using (Ne.symm NE_g1_gB2.out)))
      replace Kg53 := hid (Fr.at HF60.out Kg53.out (by simpa using (Ne.symm NE_g1_g53.out)))
      replace HF0 := hid (HF0.out.trans HF60.out (fun x hx => .inr (by rw [List.mem_singleton] at hx; rw [hx]; exact GE_g1.out)))
      refine we ?_
      go_wp2_with fail
      exact ret_cell rfl rfl rfl (load_blk Tryz.isAgg24 (by kernel_rfl) rfl K2.out) ⟨gA1, gB2, rfl, KA.out, KB.out, GE_gA1.out, GE_gB2.out, HF0.out, HP.out⟩
end Go.Proofs.YtgpkcjpanpbhdaaGreatDoor
