/- texts put together: SRead8 -/
import Derived.Test.YtgpkcjpanpbhdaaGreatDoorSGg
set_option maxRecDepth 100000
set_option maxHeartbeats 4000000
namespace Go.Proofs.YtgpkcjpanpbhdaaGreatDoor
open Go Go.RowKit
seal wpList in
theorem not_any {w : World} {q0 : Nat} {tv : Value} (hp : Psr w q0 tv 0 1) (ht : Tks w tv tk6) : Calls Tryz.prog 181 #[.pointer (some ⟨q0, 0, none⟩)] w fun e w' => ∃ g1 g2, e = .returned (.agg #[(.int .i64 13), (strV [45]), (.int .i64 0), (.slice (some ⟨g2, 0, none⟩) 2 2), (.int .i64 6)]) ∧ w'.heap[g1]? = some (.cells #[(.int .i64 10), (strV [97]), (.int .i64 0), (.slice none 0 0), (.int .i64 0), (.int .i64 10), (strV [98]), (.int .i64 0), (.slice none 0 0), (.int .i64 4)] 24 (0, 0)) ∧ w'.heap[g2]? = some (.cells #[(.int .i64 13), (strV [45]), (.int .i64 0), (.slice (some ⟨g1, 0, none⟩) 2 2), (.int .i64 2), (.int .i64 5), (strV []), (.int .i64 1500000), (.slice none 0 0), (.int .i64 8)] 24 (0, 0)) ∧ w.heap.size ≤ g1 ∧ w.heap.size ≤ g2 ∧ Fr [q0] w w' ∧ Psr w' q0 tv 5 1 := by
 have HP := hid hp
 have HP0 := hid hp
 have HT0 := hid ht
 have HF0 := hid (Fr.refl [q0] w)
 clear hp ht
 go_enter Tryz.func181, Tryz.ntmps181
 go_upto_region 0 with fail
 refine rl ?_
 obtain ⟨w3, g1, (HX : Hid _), (K2 : Hid _), (HB4 : Hid _), (GV : Hid _)⟩ := alh_api_Node w
 have NE_q0_g1 := kn HP GV
 have GE_g1 := kg HF0 GV
 refine wp_run (v := (.pointer (some ⟨g1, 0, none⟩))) rfl rfl (run_alOp rfl HX.out) rfl ?_
 try simp only [nA, nB, nC]
 replace HP := ka HB4 HP
 replace HF0 := kf HF0 HB4
 refine we ?_
 go_upto_region 1 with fail
 refine rl ?_
 refine qv (.pointer (some ⟨q0, 0, none⟩)) ?_
 simp only [nA, nB, nC]
 refine qc #[(.pointer (some ⟨q0, 0, none⟩)), (strV [110, 111, 116])] ?_
 have HCA := hid (is_any (i := 0) (t := ⟨1, [97], 0, 0⟩) HP.out (HT0.out.fr HF0.out HP0.out) rfl [110, 111, 116])
 refine HCA.out.mono ?_
 rintro e w5 ⟨he, hq⟩
 rw [(show Tok.is ⟨1, [97], 0, 0⟩ [110, 111, 116] = false from rfl)] at he
 subst he
 refine ⟨_, rfl, ?_⟩
 have HB6 := hid hq
 clear hq
 replace HP := ka HB6 HP
 replace K2 := ka HB6 K2
 replace HF0 := kf HF0 HB6
 try simp only [Act.put, nA, nB, nC]
 refine qv (.bool false) ?_
 simp only [nA, nB, nC]
 refine we ?_
 go_upto_region 2 with fail
 refine rl ?_
 refine qv (.bool false) ?_
 simp only [nA, nB, nC]
 refine we ?_
 go_upto_region 4 with fail
 refine rl ?_
 refine qv (.pointer (some ⟨q0, 0, none⟩)) ?_
 simp only [nA, nB, nC]
 refine qc #[(.pointer (some ⟨q0, 0, none⟩)), (.int .i64 2)] ?_
 have HCA := hid (chain2_any HP.out (HT0.out.fr HF0.out HP0.out))
 refine HCA.out.mono ?_
 rintro e w9 ⟨g7, g8, he, hk1, hk2, hge1, hge2, hF, hp⟩
 ·subst he
  refine ⟨_, rfl, ?_⟩
  have GV := hid hge1
  have GV2 := hid hge2
  have KX := hid hk1
  have KY := hid hk2
  have hq := And.intro hF hp
  clear hge1 hge2 hk1 hk2 hF hp
  have NE_q0_g7 := kn HP GV
  have NE_g1_g7 := kn K2 GV
  have GE_g7 := kg HF0 GV
  have NE_q0_g8 := kn HP GV2
  have NE_g1_g8 := kn K2 GV2
  have GE_g8 := kg HF0 GV2
  clear GV GV2
  obtain ⟨hF, hp⟩ := hq
  replace K2 := hid (Fr.at hF K2.out (by simpa using (Ne.symm NE_q0_g1.out)))
  replace HF0 := hid (HF0.out.trans hF (by simp))
  replace HP := hid hp
  clear hF hp
  have Kg7 := hid KX.out
  have Kg8 := hid KY.out
  clear KX KY
  try simp only [Act.put, nA, nB, nC]
  obtain ⟨wv, w12, g10, hx1, hx2, hbk, hbb, hge⟩ := var_api_Node w9 13 [45] 0 (some ⟨g8, 0, none⟩) 2 2 6
  have K11 := hid hbk
  have HBV := hid hbb
  have HX1 := hid hx1
  have HX2 := hid hx2
  have GV := hid hge
  clear hx1 hx2 hbk hbb hge
  refine wp_run (v := (.pointer (some ⟨g10, 0, none⟩))) rfl rfl (run_alOp rfl HX1.out) rfl ?_
  try simp only [nA, nB, nC]
  refine wp_do rfl rfl (run_storeOp rfl (by kernel_rfl) (by kernel_rfl) HX2.out) ?_
  try simp only [nA, nB, nC]
  clear HX1 HX2
  have NE_q0_g10 := kn HP GV
  have NE_g1_g10 := kn K2 GV
  have NE_g7_g10 := kn Kg7 GV
  have NE_g8_g10 := kn Kg8 GV
  have GE_g10 := kg HF0 GV
  replace HP := ka HBV HP
  replace K2 := ka HBV K2
  replace Kg7 := ka HBV Kg7
  replace Kg8 := ka HBV Kg8
  replace HF0 := kf HF0 HBV
  clear HBV GV
  refine we ?_
  go_upto_region 5 with fail
  refine rl ?_
  refine qv (.pointer (some ⟨q0, 0, none⟩)) ?_
  simp only [nA, nB, nC]
  refine qc #[(.pointer (some ⟨q0, 0, none⟩)), (strV [60])] ?_
  have HCA := hid (is_any (i := 5) (t := ⟨0, [], 0, 11⟩) HP.out (HT0.out.fr HF0.out HP0.out) rfl [60])
  refine HCA.out.mono ?_
  rintro e w13 ⟨he, hq⟩
  rw [(show Tok.is ⟨0, [], 0, 11⟩ [60] = false from rfl)] at he
  subst he
  refine ⟨_, rfl, ?_⟩
  have HB14 := hid hq
  clear hq
  replace HP := ka HB14 HP
  replace K2 := ka HB14 K2
  replace Kg7 := ka HB14 Kg7
  replace Kg8 := ka HB14 Kg8
  replace K11 := ka HB14 K11
  replace HF0 := kf HF0 HB14
  try simp only [Act.put, nA, nB, nC]
  refine qv (.bool false) ?_
  simp only [nA, nB, nC]
  refine we ?_
  go_upto_region 6 with fail
  refine rl ?_
  refine qv (.pointer (some ⟨q0, 0, none⟩)) ?_
  simp only [nA, nB, nC]
  refine qc #[(.pointer (some ⟨q0, 0, none⟩)), (strV [60, 61])] ?_
  have HCA := hid (is_any (i := 5) (t := ⟨0, [], 0, 11⟩) HP.out (HT0.out.fr HF0.out HP0.out) rfl [60, 61])
  refine HCA.out.mono ?_
  rintro e w15 ⟨he, hq⟩
  rw [(show Tok.is ⟨0, [], 0, 11⟩ [60, 61] = false from rfl)] at he
  subst he
  refine ⟨_, rfl, ?_⟩
  have HB16 := hid hq
  clear hq
  replace HP := ka HB16 HP
  replace K2 := ka HB16 K2
  replace Kg7 := ka HB16 Kg7
  replace Kg8 := ka HB16 Kg8
  replace K11 := ka HB16 K11
  replace HF0 := kf HF0 HB16
  try simp only [Act.put, nA, nB, nC]
  refine qv (.bool false) ?_
  simp only [nA, nB, nC]
  refine we ?_
  go_upto_region 7 with fail
  refine rl ?_
  refine qv (.pointer (some ⟨q0, 0, none⟩)) ?_
  simp only [nA, nB, nC]
  refine qc #[(.pointer (some ⟨q0, 0, none⟩)), (strV [61])] ?_
  have HCA := hid (is_any (i := 5) (t := ⟨0, [], 0, 11⟩) HP.out (HT0.out.fr HF0.out HP0.out) rfl [61])
  refine HCA.out.mono ?_
  rintro e w17 ⟨he, hq⟩
  rw [(show Tok.is ⟨0, [], 0, 11⟩ [61] = false from rfl)] at he
  subst he
  refine ⟨_, rfl, ?_⟩
  have HB18 := hid hq
  clear hq
  replace HP := ka HB18 HP
  replace K2 := ka HB18 K2
  replace Kg7 := ka HB18 Kg7
  replace Kg8 := ka HB18 Kg8
  replace K11 := ka HB18 K11
  replace HF0 := kf HF0 HB18
  try simp only [Act.put, nA, nB, nC]
  refine qv (.bool false) ?_
  simp only [nA, nB, nC]
  refine we ?_
  go_upto_region 8 with fail
  refine rl ?_
  refine qv (.pointer (some ⟨q0, 0, none⟩)) ?_
  refine qv (.pointer (some ⟨q0, 0, none⟩)) ?_
  refine qf (fa_usanceref07_parser_3 q0 0) ?_
  refine ql (.int .i64 0) Tryz.isAgg26 3 HP ?_
  simp only [nA, nB, nC]
  refine qb (bneq_api_Errno 0 0 false (by decide)) ?_
  refine qv (.bool false) ?_
  simp only [nA, nB, nC]
  refine qg (.bool false) rfl ?_
  simp only [nA, nB, nC]
  refine wp_yg (v := (.bool true)) rfl (y_un (p := .bool false) rfl (by kernel_rfl) (by kernel_rfl) (fun w => qnotB false w)) rfl ?_
  try simp only [nA, nB, nC]
  refine qg (.bool true) rfl ?_
  simp only [nA, nB, nC]
  refine qg (.bool false) rfl ?_
  simp only [nA, nB, nC]
  refine wp_yg (v := (.bool true)) rfl (y_un (p := .bool false) rfl (by kernel_rfl) (by kernel_rfl) (fun w => qnotB false w)) rfl ?_
  try simp only [nA, nB, nC]
  refine qg (.bool true) rfl ?_
  simp only [nA, nB, nC]
  refine qg (.bool true) rfl ?_
  simp only [nA, nB, nC]
  refine qg (.bool false) rfl ?_
  simp only [nA, nB, nC]
  refine wp_yg (v := (.bool true)) rfl (y_un (p := .bool false) rfl (by kernel_rfl) (by kernel_rfl) (fun w => qnotB false w)) rfl ?_
  try simp only [nA, nB, nC]
  refine qg (.bool true) rfl ?_
  simp only [nA, nB, nC]
  refine qv (.bool true) ?_
  simp only [nA, nB, nC]
  refine we ?_
  go_upto_region 9 with fail
  refine rl ?_
  refine qk (.agg #[(.int .i64 13), (strV [45]), (.int .i64 0), (.slice (some ⟨g8, 0, none⟩) 2 2), (.int .i64 6)]) Tryz.isAgg24 K11 ?_
  simp only [nA, nB, nC]
  obtain ⟨w19, hbx, hbk, hbf⟩ := st_x (T := 24) (c := #[(.int .i64 0), (strV []), (.int .i64 0), (.slice none 0 0), (.int .i64 0)]) (c' := #[(.int .i64 13), (strV [45]), (.int .i64 0), (.slice (some ⟨g8, 0, none⟩) 2 2), (.int .i64 6)]) (by kernel_rfl) rfl rfl K2.out (by intro v hv; simp at hv; rcases hv with rfl | rfl | rfl | rfl | rfl <;> first | rfl | assumption)
  replace K2 := hid hbk
  have HF20 := hid hbf
  have HX := hid hbx
  clear hbx hbk hbf
  refine wp_do rfl rfl (run_storeOp rfl (by kernel_rfl) (by kernel_rfl) HX.out) ?_
  try simp only [nA, nB, nC]
  replace HP := hid (Fr.at HF20.out HP.out (by simpa using NE_q0_g1.out))
  replace Kg7 := hid (Fr.at HF20.out Kg7.out (by simpa using (Ne.symm NE_g1_g7.out)))
  replace Kg8 := hid (Fr.at HF20.out Kg8.out (by simpa using (Ne.symm NE_g1_g8.out)))
  replace K11 := hid (Fr.at HF20.out K11.out (by simpa using (Ne.symm NE_g1_g10.out)))
  replace HF0 := hid (HF0.out.trans HF20.out (fun x hx => .inr (by rw [List.mem_singleton] at hx; rw [hx]; exact GE_g1.out)))
  refine we ?_
  go_wp2_with fail
  exact ret_cell rfl rfl rfl (load_blk Tryz.isAgg24 (by kernel_rfl) rfl K2.out) ⟨g7, g8, rfl, Kg7.out, Kg8.out, GE_g7.out, GE_g8.out, HF0.out, HP.out⟩
seal wpList in
theorem lower1_any {w : World} {q0 : Nat} {tv : Value} (hp : Psr w q0 tv 0 1) (ht : Tks w tv tk6) : Calls Tryz.prog 143 #[.pointer (some ⟨q0, 0, none⟩), .int .i64 1] w fun e w' => ∃ g1 g2, e = .returned (.agg #[(.int .i64 13), (strV [45]), (.int .i64 0), (.slice (some ⟨g2, 0, none⟩) 2 2), (.int .i64 6)]) ∧ w'.heap[g1]? = some (.cells #[(.int .i64 10), (strV [97]), (.int .i64 0), (.slice none 0 0), (.int .i64 0), (.int .i64 10), (strV [98]), (.int .i64 0), (.slice none 0 0), (.int .i64 4)] 24 (0, 0)) ∧ w'.heap[g2]? = some (.cells #[(.int .i64 13), (strV [45]), (.int .i64 0), (.slice (some ⟨g1, 0, none⟩) 2 2), (.int .i64 2), (.int .i64 5), (strV []), (.int .i64 1500000), (.slice none 0 0), (.int .i64 8)] 24 (0, 0)) ∧ w.heap.size ≤ g1 ∧ w.heap.size ≤ g2 ∧ Fr [q0] w w' ∧ Psr w' q0 tv 5 1 := by
 have HP := hid hp
 have HP0 := hid hp
 have HT0 := hid ht
 have HF0 := hid (Fr.refl [q0] w)
 clear hp ht
 go_enter Tryz.func143, Tryz.ntmps143
 go_upto_region 0 with fail
 refine rl ?_
 obtain ⟨w3, g1, (HX : Hid _), (K2 : Hid _), (HB4 : Hid _), (GV : Hid _)⟩ := alh_api_Node w
 have NE_q0_g1 := kn HP GV
 have GE_g1 := kg HF0 GV
 refine wp_run (v := (.pointer (some ⟨g1, 0, none⟩))) rfl rfl (run_alOp rfl HX.out) rfl ?_
 try simp only [nA, nB, nC]
 replace HP := ka HB4 HP
 replace HF0 := kf HF0 HB4
 refine we ?_
 go_upto_region 1 with fail
 refine rl ?_
 refine qv (.int .i64 1) ?_
 simp only [nA, nB, nC]
 refine we ?_
 go_upto_region 2 with fail
 refine rl ?_
 refine qb (beql_int 1 0 false (by decide)) ?_
 refine qv (.bool false) ?_
 simp only [nA, nB, nC]
 refine we ?_
 go_upto_region 4 with fail
 refine rl ?_
 refine qb (beql_int 1 1 true (by decide)) ?_
 refine qv (.bool true) ?_
 simp only [nA, nB, nC]
 refine we ?_
 go_upto_region 5 with fail
 refine rl ?_
 refine qv (.pointer (some ⟨q0, 0, none⟩)) ?_
 simp only [nA, nB, nC]
 refine qc #[(.pointer (some ⟨q0, 0, none⟩))] ?_
 have HCA := hid (not_any HP.out (HT0.out.fr HF0.out HP0.out))
 refine HCA.out.mono ?_
 rintro e w7 ⟨g5, g6, he, hk1, hk2, hge1, hge2, hF, hp⟩
 ·subst he
  refine ⟨_, rfl, ?_⟩
  have GV := hid hge1
  have GV2 := hid hge2
  have KX := hid hk1
  have KY := hid hk2
  have hq := And.intro hF hp
  clear hge1 hge2 hk1 hk2 hF hp
  have NE_q0_g5 := kn HP GV
  have NE_g1_g5 := kn K2 GV
  have GE_g5 := kg HF0 GV
  have NE_q0_g6 := kn HP GV2
  have NE_g1_g6 := kn K2 GV2
  have GE_g6 := kg HF0 GV2
  clear GV GV2
  obtain ⟨hF, hp⟩ := hq
  replace K2 := hid (Fr.at hF K2.out (by simpa using (Ne.symm NE_q0_g1.out)))
  replace HF0 := hid (HF0.out.trans hF (by simp))
  replace HP := hid hp
  clear hF hp
  have Kg5 := hid KX.out
  have Kg6 := hid KY.out
  clear KX KY
  try simp only [Act.put, nA, nB, nC]
  obtain ⟨w8, hbx, hbk, hbf⟩ := st_x (T := 24) (c := #[(.int .i64 0), (strV []), (.int .i64 0), (.slice none 0 0), (.int .i64 0)]) (c' := #[(.int .i64 13), (strV [45]), (.int .i64 0), (.slice (some ⟨g6, 0, none⟩) 2 2), (.int .i64 6)]) (by kernel_rfl) rfl rfl K2.out (by intro v hv; simp at hv; rcases hv with rfl | rfl | rfl | rfl | rfl <;> first | rfl | assumption)
  replace K2 := hid hbk
  have HF9 := hid hbf
  have HX := hid hbx
  clear hbx hbk hbf
  refine wp_do rfl rfl (run_storeOp rfl (by kernel_rfl) (by kernel_rfl) HX.out) ?_
  try simp only [nA, nB, nC]
  replace HP := hid (Fr.at HF9.out HP.out (by simpa using NE_q0_g1.out))
  replace Kg5 := hid (Fr.at HF9.out Kg5.out (by simpa using (Ne.symm NE_g1_g5.out)))
  replace Kg6 := hid (Fr.at HF9.out Kg6.out (by simpa using (Ne.symm NE_g1_g6.out)))
  replace HF0 := hid (HF0.out.trans HF9.out (fun x hx => .inr (by rw [List.mem_singleton] at hx; rw [hx]; exact GE_g1.out)))
  refine we ?_
  go_wp2_with fail
  exact ret_cell rfl rfl rfl (load_blk Tryz.isAgg24 (by kernel_rfl) rfl K2.out) ⟨g5, g6, rfl, Kg5.out, Kg6.out, GE_g5.out, GE_g6.out, HF0.out, HP.out⟩
seal wpList in
theorem chain1_any {w : World} {q0 : Nat} {tv : Value} (hp : Psr w q0 tv 0 1) (ht : Tks w tv tk6) : Calls Tryz.prog 109 #[.pointer (some ⟨q0, 0, none⟩), .int .i64 1] w fun e w' => ∃ g1 g2, e = .returned (.agg #[(.int .i64 13), (strV [45]), (.int .i64 0), (.slice (some ⟨g2, 0, none⟩) 2 2), (.int .i64 6)]) ∧ w'.heap[g1]? = some (.cells #[(.int .i64 10), (strV [97]), (.int .i64 0), (.slice none 0 0), (.int .i64 0), (.int .i64 10), (strV [98]), (.int .i64 0), (.slice none 0 0), (.int .i64 4)] 24 (0, 0)) ∧ w'.heap[g2]? = some (.cells #[(.int .i64 13), (strV [45]), (.int .i64 0), (.slice (some ⟨g1, 0, none⟩) 2 2), (.int .i64 2), (.int .i64 5), (strV []), (.int .i64 1500000), (.slice none 0 0), (.int .i64 8)] 24 (0, 0)) ∧ w.heap.size ≤ g1 ∧ w.heap.size ≤ g2 ∧ Fr [q0] w w' ∧ Psr w' q0 tv 5 1 := by
 have HP := hid hp
 have HP0 := hid hp
 have HT0 := hid ht
 have HF0 := hid (Fr.refl [q0] w)
 clear hp ht
 go_enter Tryz.func109, Tryz.ntmps109
 go_upto_region 0 with fail
 refine rl ?_
 obtain ⟨w3, g1, (HX : Hid _), (K2 : Hid _), (HB4 : Hid _), (GV : Hid _)⟩ := alh_api_Node w
 have NE_q0_g1 := kn HP GV
 have GE_g1 := kg HF0 GV
 refine wp_run (v := (.pointer (some ⟨g1, 0, none⟩))) rfl rfl (run_alOp rfl HX.out) rfl ?_
 try simp only [nA, nB, nC]
 replace HP := ka HB4 HP
 replace HF0 := kf HF0 HB4
 refine we ?_
 go_upto_region 1 with fail
 refine rl ?_
 refine qv (.pointer (some ⟨q0, 0, none⟩)) ?_
 refine qv (.int .i64 1) ?_
 simp only [nA, nB, nC]
 refine qc #[(.pointer (some ⟨q0, 0, none⟩)), (.int .i64 1)] ?_
 have HCA := hid (lower1_any HP.out (HT0.out.fr HF0.out HP0.out))
 refine HCA.out.mono ?_
 rintro e w7 ⟨g5, g6, he, hk1, hk2, hge1, hge2, hF, hp⟩
 ·subst he
  refine ⟨_, rfl, ?_⟩
  have GV := hid hge1
  have GV2 := hid hge2
  have KX := hid hk1
  have KY := hid hk2
  have hq := And.intro hF hp
  clear hge1 hge2 hk1 hk2 hF hp
  have NE_q0_g5 := kn HP GV
  have NE_g1_g5 := kn K2 GV
  have GE_g5 := kg HF0 GV
  have NE_q0_g6 := kn HP GV2
  have NE_g1_g6 := kn K2 GV2
  have GE_g6 := kg HF0 GV2
  clear GV GV2
  obtain ⟨hF, hp⟩ := hq
  replace K2 := hid (Fr.at hF K2.out (by simpa using (Ne.symm NE_q0_g1.out)))
  replace HF0 := hid (HF0.out.trans hF (by simp))
  replace HP := hid hp
  clear hF hp
  have Kg5 := hid KX.out
  have Kg6 := hid KY.out
  clear KX KY
  try simp only [Act.put, nA, nB, nC]
  obtain ⟨wv, w10, g8, hx1, hx2, hbk, hbb, hge⟩ := var_api_Node w7 13 [45] 0 (some ⟨g6, 0, none⟩) 2 2 6
  have K9 := hid hbk
  have HBV := hid hbb
  have HX1 := hid hx1
  have HX2 := hid hx2
  have GV := hid hge
  clear hx1 hx2 hbk hbb hge
  refine wp_run (v := (.pointer (some ⟨g8, 0, none⟩))) rfl rfl (run_alOp rfl HX1.out) rfl ?_
  try simp only [nA, nB, nC]
  refine wp_do rfl rfl (run_storeOp rfl (by kernel_rfl) (by kernel_rfl) HX2.out) ?_
  try simp only [nA, nB, nC]
  clear HX1 HX2
  have NE_q0_g8 := kn HP GV
  have NE_g1_g8 := kn K2 GV
  have NE_g5_g8 := kn Kg5 GV
  have NE_g6_g8 := kn Kg6 GV
  have GE_g8 := kg HF0 GV
  replace HP := ka HBV HP
  replace K2 := ka HBV K2
  replace Kg5 := ka HBV Kg5
  replace Kg6 := ka HBV Kg6
  replace HF0 := kf HF0 HBV
  clear HBV GV
  refine we ?_
  go_wp2_with fail
  go_loopw [] (fun wr => Fr [q0] w wr ∧ wr.heap[q0]? = some (.cells #[tv, (.int .i64 5), (.int .i64 1), (.int .i64 0), (.int .i64 0)] 97 (0, 0)) ∧ wr.heap[g1]? = some (.cells #[(.int .i64 0), (strV []), (.int .i64 0), (.slice none 0 0), (.int .i64 0)] 24 (0, 0)) ∧ wr.heap[g5]? = some (.cells #[(.int .i64 10), (strV [97]), (.int .i64 0), (.slice none 0 0), (.int .i64 0), (.int .i64 10), (strV [98]), (.int .i64 0), (.slice none 0 0), (.int .i64 4)] 24 (0, 0)) ∧ wr.heap[g6]? = some (.cells #[(.int .i64 13), (strV [45]), (.int .i64 0), (.slice (some ⟨g5, 0, none⟩) 2 2), (.int .i64 2), (.int .i64 5), (strV []), (.int .i64 1500000), (.slice none 0 0), (.int .i64 8)] 24 (0, 0)) ∧ wr.heap[g8]? = some (.cells #[(.int .i64 13), (strV [45]), (.int .i64 0), (.slice (some ⟨g6, 0, none⟩) 2 2), (.int .i64 6)] 24 (0, 0))) (fun _ => 0)
  case atStart =>
   exact ⟨HF0.out, HP.out, K2.out, Kg5.out, Kg6.out, K9.out⟩
  case round =>
   obtain ⟨hF, hk0, hk1, hk2, hk3, hk4⟩ := hrel
   clear HF0
   have HF0 := hid hF
   clear HP
   have HP := hid hk0
   clear K2
   have K2 := hid hk1
   clear Kg5
   have Kg5 := hid hk2
   clear Kg6
   have Kg6 := hid hk3
   clear K9
   have K9 := hid hk4
   clear hF hk0 hk1 hk2 hk3 hk4
   go_upto_region 2 with fail
   refine rl ?_
   refine qv (.pointer (some ⟨q0, 0, none⟩)) ?_
   refine qv (.pointer (some ⟨q0, 0, none⟩)) ?_
   refine qf (fa_usanceref07_parser_3 q0 0) ?_
   refine ql (.int .i64 0) Tryz.isAgg26 3 HP ?_
   simp only [nA, nB, nC]
   refine qb (beql_api_Errno 0 0 true (by decide)) ?_
   simp only [nA, nB, nC]
   refine we ?_
   go_upto_region 3 with fail
   refine rl ?_
   refine qv (.bool false) ?_
   simp only [nA, nB, nC]
   refine we ?_
   go_upto_region 4 with fail
   refine rl ?_
   refine qv (.int .i64 1) ?_
   simp only [nA, nB, nC]
   refine qc #[(.int .i64 1)] ?_
   have HCA := hid (signs_1 wr)
   refine HCA.out.mono ?_
   rintro e w12 ⟨g11, he, hk, hb, hge⟩
   ·subst he
    refine ⟨_, rfl, ?_⟩
    have HSG := hid hk
    have HBS := hid hb
    have GV := hid hge
    clear hk hb hge
    have NE_q0_g11 := kn HP GV
    have NE_g1_g11 := kn K2 GV
    have NE_g5_g11 := kn Kg5 GV
    have NE_g6_g11 := kn Kg6 GV
    have NE_g8_g11 := kn K9 GV
    have GE_g11 := kg HF0 GV
    replace HP := ka HBS HP
    replace K2 := ka HBS K2
    replace Kg5 := ka HBS Kg5
    replace Kg6 := ka HBS Kg6
    replace K9 := ka HBS K9
    replace HF0 := kf HF0 HBS
    have Kg11 := hid HSG.out
    clear HSG HBS GV
    try simp only [Act.put, nA, nB, nC]
    refine qv (.slice (some ⟨g11, 0, none⟩) 1 1) ?_
    simp only [nA, nB, nC]
    refine we ?_
    go_upto_region 5 with fail
    refine rl ?_
    refine qv (.int .i64 0) ?_
    simp only [nA, nB, nC]
    refine we ?_
    go_wp2_with fail
    go_loopw [8, 6] (fun v8 v6 wr => ((v8 = (.int .i64 0) ∧ v6 = (.bool false)) ∨ (v8 = (.int .i64 1) ∧ v6 = (.bool false))) ∧ Fr [q0] w wr ∧ wr.heap[q0]? = some (.cells #[tv, (.int .i64 5), (.int .i64 1), (.int .i64 0), (.int .i64 0)] 97 (0, 0)) ∧ wr.heap[g1]? = some (.cells #[(.int .i64 0), (strV []), (.int .i64 0), (.slice none 0 0), (.int .i64 0)] 24 (0, 0)) ∧ wr.heap[g5]? = some (.cells #[(.int .i64 10), (strV [97]), (.int .i64 0), (.slice none 0 0), (.int .i64 0), (.int .i64 10), (strV [98]), (.int .i64 0), (.slice none 0 0), (.int .i64 4)] 24 (0, 0)) ∧ wr.heap[g6]? = some (.cells #[(.int .i64 13), (strV [45]), (.int .i64 0), (.slice (some ⟨g5, 0, none⟩) 2 2), (.int .i64 2), (.int .i64 5), (strV []), (.int .i64 1500000), (.slice none 0 0), (.int .i64 8)] 24 (0, 0)) ∧ wr.heap[g8]? = some (.cells #[(.int .i64 13), (strV [45]), (.int .i64 0), (.slice (some ⟨g6, 0, none⟩) 2 2), (.int .i64 6)] 24 (0, 0)) ∧ wr.heap[g11]? = some (.cells #[(strV [97, 110, 100])] 9 (0, 0))) (fun v8 _ _ => 9 - (intOf v8).toNat)
    case atStart =>
     exact ⟨.inl ⟨rfl, rfl⟩, HF0.out, HP.out, K2.out, Kg5.out, Kg6.out, K9.out, Kg11.out⟩
    case round =>
     obtain ⟨hst, hF, hk0, hk1, hk2, hk3, hk4, hk5⟩ := hrel
     clear HF0
     have HF0 := hid hF
     clear HP
     have HP := hid hk0
     clear K2
     have K2 := hid hk1
     clear Kg5
     have Kg5 := hid hk2
     clear Kg6
     have Kg6 := hid hk3
     clear K9
     have K9 := hid hk4
     clear Kg11
     have Kg11 := hid hk5
     clear hF hk0 hk1 hk2 hk3 hk4 hk5
     rcases hst with ⟨rfl, rfl⟩ | ⟨rfl, rfl⟩
     ·skip
      go_upto_region 6 with fail
      refine rl ?_
      refine qv (.int .i64 0) ?_
      refine qv (.slice (some ⟨g11, 0, none⟩) 1 1) ?_
      simp only [nA, nB, nC]
      refine wp_y (v := (.int .i64 1)) rfl rfl (y_lenT len_Sstring (p := (some ⟨g11, 0, none⟩)) (n := 1) (c := 1) rfl (by kernel_rfl) (by kernel_rfl)) rfl ?_
      simp only [nA, nB, nC]
      refine qb (blss_int 0 1 true (by decide)) ?_
      simp only [nA, nB, nC]
      refine we ?_
      go_upto_region 8 with fail
      refine rl ?_
      refine qv (.pointer (some ⟨q0, 0, none⟩)) ?_
      refine qv (.slice (some ⟨g11, 0, none⟩) 1 1) ?_
      refine qv (.int .i64 0) ?_
      simp only [nA, nB, nC]
      refine wp_y (v := (.pointer (some ⟨g11, 0, none⟩))) rfl rfl (y_index (p := (.slice (some ⟨g11, 0, none⟩) 1 1)) (k := (.int .i64 0)) rfl (by kernel_rfl) (by kernel_rfl) (by kernel_rfl) (fun w => by kernel_rfl)) rfl ?_
      simp only [nA, nB, nC]
      refine ql (strV [97, 110, 100]) Tryz.isAgg9 0 Kg11 ?_
      simp only [nA, nB, nC]
      refine qc #[(.pointer (some ⟨q0, 0, none⟩)), (strV [97, 110, 100])] ?_
      have HCA := hid (is_any (i := 5) (t := ⟨0, [], 0, 11⟩) HP.out (HT0.out.fr HF0.out HP0.out) rfl [97, 110, 100])
      refine HCA.out.mono ?_
      rintro e w13 ⟨he, hq⟩
      rw [(show Tok.is ⟨0, [], 0, 11⟩ [97, 110, 100] = false from rfl)] at he
      subst he
      refine ⟨_, rfl, ?_⟩
      have HB14 := hid hq
      clear hq
      replace HP := ka HB14 HP
      replace K2 := ka HB14 K2
      replace Kg5 := ka HB14 Kg5
      replace Kg6 := ka HB14 Kg6
      replace K9 := ka HB14 K9
      replace Kg11 := ka HB14 Kg11
      replace HF0 := kf HF0 HB14
      try simp only [Act.put, nA, nB, nC]
      refine qv (.bool false) ?_
      simp only [nA, nB, nC]
      refine we ?_
      go_upto_region 9 with fail
      refine rl ?_
      refine qv (.bool false) ?_
      refine qv (.bool false) ?_
      simp only [nA, nB, nC]
      refine qg (.bool false) rfl ?_
      simp only [nA, nB, nC]
      refine qv (.bool false) ?_
      refine qv (.bool false) ?_
      simp only [nA, nB, nC]
      refine we ?_
      go_upto_region 7 with fail
      refine rl ?_
      refine qv (.int .i64 0) ?_
      refine qb (badd_int 0 1 1 (by decide)) ?_
      refine qv (.int .i64 1) ?_
      simp only [nA, nB, nC]
      refine we ?_
      go_wp2_with fail
      exact ⟨⟨.inr (⟨rfl, rfl⟩), HF0.out, HP.out, K2.out, Kg5.out, Kg6.out, K9.out, Kg11.out⟩, by simp [intOf]⟩
     ·skip
      go_upto_region 6 with fail
      refine rl ?_
      refine qv (.int .i64 1) ?_
      refine qv (.slice (some ⟨g11, 0, none⟩) 1 1) ?_
      simp only [nA, nB, nC]
      refine wp_y (v := (.int .i64 1)) rfl rfl (y_lenT len_Sstring (p := (some ⟨g11, 0, none⟩)) (n := 1) (c := 1) rfl (by kernel_rfl) (by kernel_rfl)) rfl ?_
      simp only [nA, nB, nC]
      refine qb (blss_int 1 1 false (by decide)) ?_
      simp only [nA, nB, nC]
      refine we ?_
      go_upto_region 10 with fail
      refine rl ?_
      refine qv (.bool false) ?_
      simp only [nA, nB, nC]
      refine wp_y (v := (.bool true)) rfl rfl (y_un (p := .bool false) rfl (by kernel_rfl) (by kernel_rfl) (fun w => qnotB false w)) rfl ?_
      simp only [nA, nB, nC]
      refine we ?_
      go_upto_region 14 with fail
      refine rl ?_
      refine qk (.agg #[(.int .i64 13), (strV [45]), (.int .i64 0), (.slice (some ⟨g6, 0, none⟩) 2 2), (.int .i64 6)]) Tryz.isAgg24 K9 ?_
      simp only [nA, nB, nC]
      obtain ⟨w15, hbx, hbk, hbf⟩ := st_x (T := 24) (c := #[(.int .i64 0), (strV []), (.int .i64 0), (.slice none 0 0), (.int .i64 0)]) (c' := #[(.int .i64 13), (strV [45]), (.int .i64 0), (.slice (some ⟨g6, 0, none⟩) 2 2), (.int .i64 6)]) (by kernel_rfl) rfl rfl K2.out (by intro v hv; simp at hv; rcases hv with rfl | rfl | rfl | rfl | rfl <;> first | rfl | assumption)
      replace K2 := hid hbk
      have HF16 := hid hbf
      have HX := hid hbx
      clear hbx hbk hbf
      refine wp_do rfl rfl (run_storeOp rfl (by kernel_rfl) (by kernel_rfl) HX.out) ?_
      try simp only [nA, nB, nC]
      replace HP := hid (Fr.at HF16.out HP.out (by simpa using NE_q0_g1.out))
      replace Kg5 := hid (Fr.at HF16.out Kg5.out (by simpa using (Ne.symm NE_g1_g5.out)))
      replace Kg6 := hid (Fr.at HF16.out Kg6.out (by simpa using (Ne.symm NE_g1_g6.out)))
      replace K9 := hid (Fr.at HF16.out K9.out (by simpa using (Ne.symm NE_g1_g8.out)))
      replace Kg11 := hid (Fr.at HF16.out Kg11.out (by simpa using (Ne.symm NE_g1_g11.out)))
      replace HF0 := hid (HF0.out.trans HF16.out (fun x hx => .inr (by rw [List.mem_singleton] at hx; rw [hx]; exact GE_g1.out)))
      refine we ?_
      go_wp2_with fail
      exact ret_cell rfl rfl rfl (load_blk Tryz.isAgg24 (by kernel_rfl) rfl K2.out) ⟨g5, g6, rfl, Kg5.out, Kg6.out, GE_g5.out, GE_g6.out, HF0.out, HP.out⟩
seal wpList in
theorem lower0_any {w : World} {q0 : Nat} {tv : Value} (hp : Psr w q0 tv 0 1) (ht : Tks w tv tk6) : Calls Tryz.prog 143 #[.pointer (some ⟨q0, 0, none⟩), .int .i64 0] w fun e w' => ∃ g1 g2, e = .returned (.agg #[(.int .i64 13), (strV [45]), (.int .i64 0), (.slice (some ⟨g2, 0, none⟩) 2 2), (.int .i64 6)]) ∧ w'.heap[g1]? = some (.cells #[(.int .i64 10), (strV [97]), (.int .i64 0), (.slice none 0 0), (.int .i64 0), (.int .i64 10), (strV [98]), (.int .i64 0), (.slice none 0 0), (.int .i64 4)] 24 (0, 0)) ∧ w'.heap[g2]? = some (.cells #[(.int .i64 13), (strV [45]), (.int .i64 0), (.slice (some ⟨g1, 0, none⟩) 2 2), (.int .i64 2), (.int .i64 5), (strV []), (.int .i64 1500000), (.slice none 0 0), (.int .i64 8)] 24 (0, 0)) ∧ w.heap.size ≤ g1 ∧ w.heap.size ≤ g2 ∧ Fr [q0] w w' ∧ Psr w' q0 tv 5 1 := by
 have HP := hid hp
 have HP0 := hid hp
 have HT0 := hid ht
 have HF0 := hid (Fr.refl [q0] w)
 clear hp ht
 go_enter Tryz.func143, Tryz.ntmps143
 go_upto_region 0 with fail
 refine rl ?_
 obtain ⟨w3, g1, (HX : Hid _), (K2 : Hid _), (HB4 : Hid _), (GV : Hid _)⟩ := alh_api_Node w
 have NE_q0_g1 := kn HP GV
 have GE_g1 := kg HF0 GV
 refine wp_run (v := (.pointer (some ⟨g1, 0, none⟩))) rfl rfl (run_alOp rfl HX.out) rfl ?_
 try simp only [nA, nB, nC]
 replace HP := ka HB4 HP
 replace HF0 := kf HF0 HB4
 refine we ?_
 go_upto_region 1 with fail
 refine rl ?_
 refine qv (.int .i64 0) ?_
 simp only [nA, nB, nC]
 refine we ?_
 go_upto_region 2 with fail
 refine rl ?_
 refine qb (beql_int 0 0 true (by decide)) ?_
 refine qv (.bool true) ?_
 simp only [nA, nB, nC]
 refine we ?_
 go_upto_region 3 with fail
 refine rl ?_
 refine qv (.pointer (some ⟨q0, 0, none⟩)) ?_
 simp only [nA, nB, nC]
 refine qc #[(.pointer (some ⟨q0, 0, none⟩)), (.int .i64 1)] ?_
 have HCA := hid (chain1_any HP.out (HT0.out.fr HF0.out HP0.out))
 refine HCA.out.mono ?_
 rintro e w7 ⟨g5, g6, he, hk1, hk2, hge1, hge2, hF, hp⟩
 ·subst he
  refine ⟨_, rfl, ?_⟩
  have GV := hid hge1
  have GV2 := hid hge2
  have KX := hid hk1
  have KY := hid hk2
  have hq := And.intro hF hp
  clear hge1 hge2 hk1 hk2 hF hp
  have NE_q0_g5 := kn HP GV
  have NE_g1_g5 := kn K2 GV
  have GE_g5 := kg HF0 GV
  have NE_q0_g6 := kn HP GV2
  have NE_g1_g6 := kn K2 GV2
  have GE_g6 := kg HF0 GV2
  clear GV GV2
  obtain ⟨hF, hp⟩ := hq
  replace K2 := hid (Fr.at hF K2.out (by simpa using (Ne.symm NE_q0_g1.out)))
  replace HF0 := hid (HF0.out.trans hF (by simp))
  replace HP := hid hp
  clear hF hp
  have Kg5 := hid KX.out
  have Kg6 := hid KY.out
  clear KX KY
  try simp only [Act.put, nA, nB, nC]
  obtain ⟨w8, hbx, hbk, hbf⟩ := st_x (T := 24) (c := #[(.int .i64 0), (strV []), (.int .i64 0), (.slice none 0 0), (.int .i64 0)]) (c' := #[(.int .i64 13), (strV [45]), (.int .i64 0), (.slice (some ⟨g6, 0, none⟩) 2 2), (.int .i64 6)]) (by kernel_rfl) rfl rfl K2.out (by intro v hv; simp at hv; rcases hv with rfl | rfl | rfl | rfl | rfl <;> first | rfl | assumption)
  replace K2 := hid hbk
  have HF9 := hid hbf
  have HX := hid hbx
  clear hbx hbk hbf
  refine wp_do rfl rfl (run_storeOp rfl (by kernel_rfl) (by kernel_rfl) HX.out) ?_
  try simp only [nA, nB, nC]
  replace HP := hid (Fr.at HF9.out HP.out (by simpa using NE_q0_g1.out))
  replace Kg5 := hid (Fr.at HF9.out Kg5.out (by simpa using (Ne.symm NE_g1_g5.out)))
  replace Kg6 := hid (Fr.at HF9.out Kg6.out (by simpa using (Ne.symm NE_g1_g6.out)))
  replace HF0 := hid (HF0.out.trans HF9.out (fun x hx => .inr (by rw [List.mem_singleton] at hx; rw [hx]; exact GE_g1.out)))
  refine we ?_
  go_wp2_with fail
  exact ret_cell rfl rfl rfl (load_blk Tryz.isAgg24 (by kernel_rfl) rfl K2.out) ⟨g5, g6, rfl, Kg5.out, Kg6.out, GE_g5.out, GE_g6.out, HF0.out, HP.out⟩
seal wpList in
theorem chain0_any {w : World} {q0 : Nat} {tv : Value} (hp : Psr w q0 tv 0 1) (ht : Tks w tv tk6) : Calls Tryz.prog 109 #[.pointer (some ⟨q0, 0, none⟩), .int .i64 0] w fun e w' => ∃ g1 g2, e = .returned (.agg #[(.int .i64 13), (strV [45]), (.int .i64 0), (.slice (some ⟨g2, 0, none⟩) 2 2), (.int .i64 6)]) ∧ w'.heap[g1]? = some (.cells #[(.int .i64 10), (strV [97]), (.int .i64 0), (.slice none 0 0), (.int .i64 0), (.int .i64 10), (strV [98]), (.int .i64 0), (.slice none 0 0), (.int .i64 4)] 24 (0, 0)) ∧ w'.heap[g2]? = some (.cells #[(.int .i64 13), (strV [45]), (.int .i64 0), (.slice (some ⟨g1, 0, none⟩) 2 2), (.int .i64 2), (.int .i64 5), (strV []), (.int .i64 1500000), (.slice none 0 0), (.int .i64 8)] 24 (0, 0)) ∧ w.heap.size ≤ g1 ∧ w.heap.size ≤ g2 ∧ Fr [q0] w w' ∧ Psr w' q0 tv 5 1 := by
 have HP := hid hp
 have HP0 := hid hp
 have HT0 := hid ht
 have HF0 := hid (Fr.refl [q0] w)
 clear hp ht
 go_enter Tryz.func109, Tryz.ntmps109
 go_upto_region 0 with fail
 refine rl ?_
 obtain ⟨w3, g1, (HX : Hid _), (K2 : Hid _), (HB4 : Hid _), (GV : Hid _)⟩ := alh_api_Node w
 have NE_q0_g1 := kn HP GV
 have GE_g1 := kg HF0 GV
 refine wp_run (v := (.pointer (some ⟨g1, 0, none⟩))) rfl rfl (run_alOp rfl HX.out) rfl ?_
 try simp only [nA, nB, nC]
 replace HP := ka HB4 HP
 replace HF0 := kf HF0 HB4
 refine we ?_
 go_upto_region 1 with fail
 refine rl ?_
 refine qv (.pointer (some ⟨q0, 0, none⟩)) ?_
 refine qv (.int .i64 0) ?_
 simp only [nA, nB, nC]
 refine qc #[(.pointer (some ⟨q0, 0, none⟩)), (.int .i64 0)] ?_
 have HCA := hid (lower0_any HP.out (HT0.out.fr HF0.out HP0.out))
 refine HCA.out.mono ?_
 rintro e w7 ⟨g5, g6, he, hk1, hk2, hge1, hge2, hF, hp⟩
 ·subst he
  refine ⟨_, rfl, ?_⟩
  have GV := hid hge1
  have GV2 := hid hge2
  have KX := hid hk1
  have KY := hid hk2
  have hq := And.intro hF hp
  clear hge1 hge2 hk1 hk2 hF hp
  have NE_q0_g5 := kn HP GV
  have NE_g1_g5 := kn K2 GV
  have GE_g5 := kg HF0 GV
  have NE_q0_g6 := kn HP GV2
  have NE_g1_g6 := kn K2 GV2
  have GE_g6 := kg HF0 GV2
  clear GV GV2
  obtain ⟨hF, hp⟩ := hq
  replace K2 := hid (Fr.at hF K2.out (by simpa using (Ne.symm NE_q0_g1.out)))
  replace HF0 := hid (HF0.out.trans hF (by simp))
  replace HP := hid hp
  clear hF hp
  have Kg5 := hid KX.out
  have Kg6 := hid KY.out
  clear KX KY
  try simp only [Act.put, nA, nB, nC]
  obtain ⟨wv, w10, g8, hx1, hx2, hbk, hbb, hge⟩ := var_api_Node w7 13 [45] 0 (some ⟨g6, 0, none⟩) 2 2 6
  have K9 := hid hbk
  have HBV := hid hbb
  have HX1 := hid hx1
  have HX2 := hid hx2
  have GV := hid hge
  clear hx1 hx2 hbk hbb hge
  refine wp_run (v := (.pointer (some ⟨g8, 0, none⟩))) rfl rfl (run_alOp rfl HX1.out) rfl ?_
  try simp only [nA, nB, nC]
  refine wp_do rfl rfl (run_storeOp rfl (by kernel_rfl) (by kernel_rfl) HX2.out) ?_
  try simp only [nA, nB, nC]
  clear HX1 HX2
  have NE_q0_g8 := kn HP GV
  have NE_g1_g8 := kn K2 GV
  have NE_g5_g8 := kn Kg5 GV
  have NE_g6_g8 := kn Kg6 GV
  have GE_g8 := kg HF0 GV
  replace HP := ka HBV HP
  replace K2 := ka HBV K2
  replace Kg5 := ka HBV Kg5
  replace Kg6 := ka HBV Kg6
  replace HF0 := kf HF0 HBV
  clear HBV GV
  refine we ?_
  go_wp2_with fail
  go_loopw [] (fun wr => Fr [q0] w wr ∧ wr.heap[q0]? = some (.cells #[tv, (.int .i64 5), (.int .i64 1), (.int .i64 0), (.int .i64 0)] 97 (0, 0)) ∧ wr.heap[g1]? = some (.cells #[(.int .i64 0), (strV []), (.int .i64 0), (.slice none 0 0), (.int .i64 0)] 24 (0, 0)) ∧ wr.heap[g5]? = some (.cells #[(.int .i64 10), (strV [97]), (.int .i64 0), (.slice none 0 0), (.int .i64 0), (.int .i64 10), (strV [98]), (.int .i64 0), (.slice none 0 0), (.int .i64 4)] 24 (0, 0)) ∧ wr.heap[g6]? = some (.cells #[(.int .i64 13), (strV [45]), (.int .i64 0), (.slice (some ⟨g5, 0, none⟩) 2 2), (.int .i64 2), (.int .i64 5), (strV []), (.int .i64 1500000), (.slice none 0 0), (.int .i64 8)] 24 (0, 0)) ∧ wr.heap[g8]? = some (.cells #[(.int .i64 13), (strV [45]), (.int .i64 0), (.slice (some ⟨g6, 0, none⟩) 2 2), (.int .i64 6)] 24 (0, 0))) (fun _ => 0)
  case atStart =>
   exact ⟨HF0.out, HP.out, K2.out, Kg5.out, Kg6.out, K9.out⟩
  case round =>
   obtain ⟨hF, hk0, hk1, hk2, hk3, hk4⟩ := hrel
   clear HF0
   have HF0 := hid hF
   clear HP
   have HP := hid hk0
   clear K2
   have K2 := hid hk1
   clear Kg5
   have Kg5 := hid hk2
   clear Kg6
   have Kg6 := hid hk3
   clear K9
   have K9 := hid hk4
   clear hF hk0 hk1 hk2 hk3 hk4
   go_upto_region 2 with fail
   refine rl ?_
   refine qv (.pointer (some ⟨q0, 0, none⟩)) ?_
   refine qv (.pointer (some ⟨q0, 0, none⟩)) ?_
   refine qf (fa_usanceref07_parser_3 q0 0) ?_
   refine ql (.int .i64 0) Tryz.isAgg26 3 HP ?_
   simp only [nA, nB, nC]
   refine qb (beql_api_Errno 0 0 true (by decide)) ?_
   simp only [nA, nB, nC]
   refine we ?_
   go_upto_region 3 with fail
   refine rl ?_
   refine qv (.bool false) ?_
   simp only [nA, nB, nC]
   refine we ?_
   go_upto_region 4 with fail
   refine rl ?_
   refine qv (.int .i64 0) ?_
   simp only [nA, nB, nC]
   refine qc #[(.int .i64 0)] ?_
   have HCA := hid (signs_0 wr)
   refine HCA.out.mono ?_
   rintro e w12 ⟨g11, he, hk, hb, hge⟩
   ·subst he
    refine ⟨_, rfl, ?_⟩
    have HSG := hid hk
    have HBS := hid hb
    have GV := hid hge
    clear hk hb hge
    have NE_q0_g11 := kn HP GV
    have NE_g1_g11 := kn K2 GV
    have NE_g5_g11 := kn Kg5 GV
    have NE_g6_g11 := kn Kg6 GV
    have NE_g8_g11 := kn K9 GV
    have GE_g11 := kg HF0 GV
    replace HP := ka HBS HP
    replace K2 := ka HBS K2
    replace Kg5 := ka HBS Kg5
    replace Kg6 := ka HBS Kg6
    replace K9 := ka HBS K9
    replace HF0 := kf HF0 HBS
    have Kg11 := hid HSG.out
    clear HSG HBS GV
    try simp only [Act.put, nA, nB, nC]
    refine qv (.slice (some ⟨g11, 0, none⟩) 1 1) ?_
    simp only [nA, nB, nC]
    refine we ?_
    go_upto_region 5 with fail
    refine rl ?_
    refine qv (.int .i64 0) ?_
    simp only [nA, nB, nC]
    refine we ?_
    go_wp2_with fail
    go_loopw [8, 6] (fun v8 v6 wr => ((v8 = (.int .i64 0) ∧ v6 = (.bool false)) ∨ (v8 = (.int .i64 1) ∧ v6 = (.bool false))) ∧ Fr [q0] w wr ∧ wr.heap[q0]? = some (.cells #[tv, (.int .i64 5), (.int .i64 1), (.int .i64 0), (.int .i64 0)] 97 (0, 0)) ∧ wr.heap[g1]? = some (.cells #[(.int .i64 0), (strV []), (.int .i64 0), (.slice none 0 0), (.int .i64 0)] 24 (0, 0)) ∧ wr.heap[g5]? = some (.cells #[(.int .i64 10), (strV [97]), (.int .i64 0), (.slice none 0 0), (.int .i64 0), (.int .i64 10), (strV [98]), (.int .i64 0), (.slice none 0 0), (.int .i64 4)] 24 (0, 0)) ∧ wr.heap[g6]? = some (.cells #[(.int .i64 13), (strV [45]), (.int .i64 0), (.slice (some ⟨g5, 0, none⟩) 2 2), (.int .i64 2), (.int .i64 5), (strV []), (.int .i64 1500000), (.slice none 0 0), (.int .i64 8)] 24 (0, 0)) ∧ wr.heap[g8]? = some (.cells #[(.int .i64 13), (strV [45]), (.int .i64 0), (.slice (some ⟨g6, 0, none⟩) 2 2), (.int .i64 6)] 24 (0, 0)) ∧ wr.heap[g11]? = some (.cells #[(strV [111, 114])] 9 (0, 0))) (fun v8 _ _ => 9 - (intOf v8).toNat)
    case atStart =>
     exact ⟨.inl ⟨rfl, rfl⟩, HF0.out, HP.out, K2.out, Kg5.out, Kg6.out, K9.out, Kg11.out⟩
    case round =>
     obtain ⟨hst, hF, hk0, hk1, hk2, hk3, hk4, hk5⟩ := hrel
     clear HF0
     have HF0 := hid hF
     clear HP
     have HP := hid hk0
     clear K2
     have K2 := hid hk1
     clear Kg5
     have Kg5 := hid hk2
     clear Kg6
     have Kg6 := hid hk3
     clear K9
     have K9 := hid hk4
     clear Kg11
     have Kg11 := hid hk5
     clear hF hk0 hk1 hk2 hk3 hk4 hk5
     rcases hst with ⟨rfl, rfl⟩ | ⟨rfl, rfl⟩
     ·skip
      go_upto_region 6 with fail
      refine rl ?_
      refine qv (.int .i64 0) ?_
      refine qv (.slice (some ⟨g11, 0, none⟩) 1 1) ?_
      simp only [nA, nB, nC]
      refine wp_y (v := (.int .i64 1)) rfl rfl (y_lenT len_Sstring (p := (some ⟨g11, 0, none⟩)) (n := 1) (c := 1) rfl (by kernel_rfl) (by kernel_rfl)) rfl ?_
      simp only [nA, nB, nC]
      refine qb (blss_int 0 1 true (by decide)) ?_
      simp only [nA, nB, nC]
      refine we ?_
      go_upto_region 8 with fail
      refine rl ?_
      refine qv (.pointer (some ⟨q0, 0, none⟩)) ?_
      refine qv (.slice (some ⟨g11, 0, none⟩) 1 1) ?_
      refine qv (.int .i64 0) ?_
      simp only [nA, nB, nC]
      refine wp_y (v := (.pointer (some ⟨g11, 0, none⟩))) rfl rfl (y_index (p := (.slice (some ⟨g11, 0, none⟩) 1 1)) (k := (.int .i64 0)) rfl (by kernel_rfl) (by kernel_rfl) (by kernel_rfl) (fun w => by kernel_rfl)) rfl ?_
      simp only [nA, nB, nC]
      refine ql (strV [111, 114]) Tryz.isAgg9 0 Kg11 ?_
      simp only [nA, nB, nC]
      refine qc #[(.pointer (some ⟨q0, 0, none⟩)), (strV [111, 114])] ?_
      have HCA := hid (is_any (i := 5) (t := ⟨0, [], 0, 11⟩) HP.out (HT0.out.fr HF0.out HP0.out) rfl [111, 114])
      refine HCA.out.mono ?_
      rintro e w13 ⟨he, hq⟩
      rw [(show Tok.is ⟨0, [], 0, 11⟩ [111, 114] = false from rfl)] at he
      subst he
      refine ⟨_, rfl, ?_⟩
      have HB14 := hid hq
      clear hq
      replace HP := ka HB14 HP
      replace K2 := ka HB14 K2
      replace Kg5 := ka HB14 Kg5
      replace Kg6 := ka HB14 Kg6
      replace K9 := ka HB14 K9
      replace Kg11 := ka HB14 Kg11
      replace HF0 := kf HF0 HB14
      try simp only [Act.put, nA, nB, nC]
      refine qv (.bool false) ?_
      simp only [nA, nB, nC]
      refine we ?_
      go_upto_region 9 with fail
      refine rl ?_
      refine qv (.bool false) ?_
      refine qv (.bool false) ?_
      simp only [nA, nB, nC]
      refine qg (.bool false) rfl ?_
      simp only [nA, nB, nC]
      refine qv (.bool false) ?_
      refine qv (.bool false) ?_
      simp only [nA, nB, nC]
      refine we ?_
      go_upto_region 7 with fail
      refine rl ?_
      refine qv (.int .i64 0) ?_
      refine qb (badd_int 0 1 1 (by decide)) ?_
      refine qv (.int .i64 1) ?_
      simp only [nA, nB, nC]
      refine we ?_
      go_wp2_with fail
      exact ⟨⟨.inr (⟨rfl, rfl⟩), HF0.out, HP.out, K2.out, Kg5.out, Kg6.out, K9.out, Kg11.out⟩, by simp [intOf]⟩
     ·skip
      go_upto_region 6 with fail
      refine rl ?_
      refine qv (.int .i64 1) ?_
      refine qv (.slice (some ⟨g11, 0, none⟩) 1 1) ?_
      simp only [nA, nB, nC]
      refine wp_y (v := (.int .i64 1)) rfl rfl (y_lenT len_Sstring (p := (some ⟨g11, 0, none⟩)) (n := 1) (c := 1) rfl (by kernel_rfl) (by kernel_rfl)) rfl ?_
      simp only [nA, nB, nC]
      refine qb (blss_int 1 1 false (by decide)) ?_
      simp only [nA, nB, nC]
      refine we ?_
      go_upto_region 10 with fail
      refine rl ?_
      refine qv (.bool false) ?_
      simp only [nA, nB, nC]
      refine wp_y (v := (.bool true)) rfl rfl (y_un (p := .bool false) rfl (by kernel_rfl) (by kernel_rfl) (fun w => qnotB false w)) rfl ?_
      simp only [nA, nB, nC]
      refine we ?_
      go_upto_region 14 with fail
      refine rl ?_
      refine qk (.agg #[(.int .i64 13), (strV [45]), (.int .i64 0), (.slice (some ⟨g6, 0, none⟩) 2 2), (.int .i64 6)]) Tryz.isAgg24 K9 ?_
      simp only [nA, nB, nC]
      obtain ⟨w15, hbx, hbk, hbf⟩ := st_x (T := 24) (c := #[(.int .i64 0), (strV []), (.int .i64 0), (.slice none 0 0), (.int .i64 0)]) (c' := #[(.int .i64 13), (strV [45]), (.int .i64 0), (.slice (some ⟨g6, 0, none⟩) 2 2), (.int .i64 6)]) (by kernel_rfl) rfl rfl K2.out (by intro v hv; simp at hv; rcases hv with rfl | rfl | rfl | rfl | rfl <;> first | rfl | assumption)
      replace K2 := hid hbk
      have HF16 := hid hbf
      have HX := hid hbx
      clear hbx hbk hbf
      refine wp_do rfl rfl (run_storeOp rfl (by kernel_rfl) (by kernel_rfl) HX.out) ?_
      try simp only [nA, nB, nC]
      replace HP := hid (Fr.at HF16.out HP.out (by simpa using NE_q0_g1.out))
      replace Kg5 := hid (Fr.at HF16.out Kg5.out (by simpa using (Ne.symm NE_g1_g5.out)))
      replace Kg6 := hid (Fr.at HF16.out Kg6.out (by simpa using (Ne.symm NE_g1_g6.out)))
      replace K9 := hid (Fr.at HF16.out K9.out (by simpa using (Ne.symm NE_g1_g8.out)))
      replace Kg11 := hid (Fr.at HF16.out Kg11.out (by simpa using (Ne.symm NE_g1_g11.out)))
      replace HF0 := hid (HF0.out.trans HF16.out (fun x hx => .inr (by rw [List.mem_singleton] at hx; rw [hx]; exact GE_g1.out)))
      refine we ?_
      go_wp2_with fail
      exact ret_cell rfl rfl rfl (load_blk Tryz.isAgg24 (by kernel_rfl) rfl K2.out) ⟨g5, g6, rfl, Kg5.out, Kg6.out, GE_g5.out, GE_g6.out, HF0.out, HP.out⟩
seal wpList in
theorem pexpr_any {w : World} {q0 : Nat} {tv : Value} (hp : Psr w q0 tv 0 0) (ht : Tks w tv tk6) : Calls Tryz.prog 67 #[.pointer (some ⟨q0, 0, none⟩)] w fun e w' => ∃ g1 g2, e = .returned (.agg #[(.int .i64 13), (strV [45]), (.int .i64 0), (.slice (some ⟨g2, 0, none⟩) 2 2), (.int .i64 6)]) ∧ w'.heap[g1]? = some (.cells #[(.int .i64 10), (strV [97]), (.int .i64 0), (.slice none 0 0), (.int .i64 0), (.int .i64 10), (strV [98]), (.int .i64 0), (.slice none 0 0), (.int .i64 4)] 24 (0, 0)) ∧ w'.heap[g2]? = some (.cells #[(.int .i64 13), (strV [45]), (.int .i64 0), (.slice (some ⟨g1, 0, none⟩) 2 2), (.int .i64 2), (.int .i64 5), (strV []), (.int .i64 1500000), (.slice none 0 0), (.int .i64 8)] 24 (0, 0)) ∧ w.heap.size ≤ g1 ∧ w.heap.size ≤ g2 ∧ Fr [q0] w w' ∧ Psr w' q0 tv 5 0 := by
 have HP := hid hp
 have HP0 := hid hp
 have HT0 := hid ht
 have HF0 := hid (Fr.refl [q0] w)
 clear hp ht
 go_enter Tryz.func67, Tryz.ntmps67
 go_upto_region 0 with fail
 refine rl ?_
 obtain ⟨w3, g1, (HX : Hid _), (K2 : Hid _), (HB4 : Hid _), (GV : Hid _)⟩ := alh_api_Node w
 have NE_q0_g1 := kn HP GV
 have GE_g1 := kg HF0 GV
 refine wp_run (v := (.pointer (some ⟨g1, 0, none⟩))) rfl rfl (run_alOp rfl HX.out) rfl ?_
 try simp only [nA, nB, nC]
 replace HP := ka HB4 HP
 replace HF0 := kf HF0 HB4
 refine we ?_
 go_upto_region 1 with fail
 refine rl ?_
 obtain ⟨w7, g5, (HX : Hid _), (K6 : Hid _), (HB8 : Hid _), (GV : Hid _)⟩ := alh_api_Node w3
 have NE_q0_g5 := kn HP GV
 have NE_g1_g5 := kn K2 GV
 have GE_g5 := kg HF0 GV
 refine wp_run (v := (.pointer (some ⟨g5, 0, none⟩))) rfl rfl (run_alOp rfl HX.out) rfl ?_
 try simp only [nA, nB, nC]
 replace HP := ka HB8 HP
 replace K2 := ka HB8 K2
 replace HF0 := kf HF0 HB8
 refine we ?_
 go_upto_region 2 with fail
 refine rl ?_
 refine qv (.pointer (some ⟨q0, 0, none⟩)) ?_
 simp only [nA, nB, nC]
 refine qc #[(.pointer (some ⟨q0, 0, none⟩))] ?_
 have HCA := hid (enter_any HP.out (by decide) (by decide))
 refine HCA.out.mono ?_
 rintro e w9 ⟨rfl, hq⟩
 refine ⟨_, rfl, ?_⟩
 obtain ⟨hF, hp⟩ := hq
 replace K2 := hid (Fr.at hF K2.out (by simpa using (Ne.symm NE_q0_g1.out)))
 replace K6 := hid (Fr.at hF K6.out (by simpa using (Ne.symm NE_q0_g5.out)))
 replace HF0 := hid (HF0.out.trans hF (by simp))
 replace HP := hid hp
 clear hF hp
 try simp only [Act.put, nA, nB, nC]
 refine we ?_
 go_upto_region 3 with fail
 refine rl ?_
 refine qv (.pointer (some ⟨q0, 0, none⟩)) ?_
 refine qv (.pointer (some ⟨q0, 0, none⟩)) ?_
 refine qf (fa_usanceref07_parser_3 q0 0) ?_
 refine ql (.int .i64 0) Tryz.isAgg26 3 HP ?_
 simp only [nA, nB, nC]
 refine qb (bneq_api_Errno 0 0 false (by decide)) ?_
 simp only [nA, nB, nC]
 refine we ?_
 go_upto_region 5 with fail
 refine rl ?_
 refine qv (.pointer (some ⟨q0, 0, none⟩)) ?_
 simp only [nA, nB, nC]
 refine qc #[(.pointer (some ⟨q0, 0, none⟩)), (strV [105, 102])] ?_
 have HCA := hid (is_any (i := 0) (t := ⟨1, [97], 0, 0⟩) HP.out (HT0.out.fr HF0.out HP0.out) rfl [105, 102])
 refine HCA.out.mono ?_
 rintro e w10 ⟨he, hq⟩
 rw [(show Tok.is ⟨1, [97], 0, 0⟩ [105, 102] = false from rfl)] at he
 subst he
 refine ⟨_, rfl, ?_⟩
 have HB11 := hid hq
 clear hq
 replace HP := ka HB11 HP
 replace K2 := ka HB11 K2
 replace K6 := ka HB11 K6
 replace HF0 := kf HF0 HB11
 try simp only [Act.put, nA, nB, nC]
 refine qv (.bool false) ?_
 simp only [nA, nB, nC]
 refine we ?_
 go_upto_region 6 with fail
 refine rl ?_
 refine qv (.bool false) ?_
 simp only [nA, nB, nC]
 refine wp_y (v := (.bool true)) rfl rfl (y_un (p := .bool false) rfl (by kernel_rfl) (by kernel_rfl) (fun w => qnotB false w)) rfl ?_
 simp only [nA, nB, nC]
 refine we ?_
 go_upto_region 7 with fail
 refine rl ?_
 refine qv (.pointer (some ⟨q0, 0, none⟩)) ?_
 simp only [nA, nB, nC]
 refine qc #[(.pointer (some ⟨q0, 0, none⟩)), (.int .i64 0)] ?_
 have HCA := hid (chain0_any HP.out (HT0.out.fr HF0.out HP0.out))
 refine HCA.out.mono ?_
 rintro e w14 ⟨g12, g13, he, hk1, hk2, hge1, hge2, hF, hp⟩
 ·subst he
  refine ⟨_, rfl, ?_⟩
  have GV := hid hge1
  have GV2 := hid hge2
  have KX := hid hk1
  have KY := hid hk2
  have hq := And.intro hF hp
  clear hge1 hge2 hk1 hk2 hF hp
  have NE_q0_g12 := kn HP GV
  have NE_g1_g12 := kn K2 GV
  have NE_g5_g12 := kn K6 GV
  have GE_g12 := kg HF0 GV
  have NE_q0_g13 := kn HP GV2
  have NE_g1_g13 := kn K2 GV2
  have NE_g5_g13 := kn K6 GV2
  have GE_g13 := kg HF0 GV2
  clear GV GV2
  obtain ⟨hF, hp⟩ := hq
  replace K2 := hid (Fr.at hF K2.out (by simpa using (Ne.symm NE_q0_g1.out)))
  replace K6 := hid (Fr.at hF K6.out (by simpa using (Ne.symm NE_q0_g5.out)))
  replace HF0 := hid (HF0.out.trans hF (by simp))
  replace HP := hid hp
  clear hF hp
  have Kg12 := hid KX.out
  have Kg13 := hid KY.out
  clear KX KY
  try simp only [Act.put, nA, nB, nC]
  obtain ⟨w15, hbx, hbk, hbf⟩ := st_x (T := 24) (c := #[(.int .i64 0), (strV []), (.int .i64 0), (.slice none 0 0), (.int .i64 0)]) (c' := #[(.int .i64 13), (strV [45]), (.int .i64 0), (.slice (some ⟨g13, 0, none⟩) 2 2), (.int .i64 6)]) (by kernel_rfl) rfl rfl K6.out (by intro v hv; simp at hv; rcases hv with rfl | rfl | rfl | rfl | rfl <;> first | rfl | assumption)
  replace K6 := hid hbk
  have HF16 := hid hbf
  have HX := hid hbx
  clear hbx hbk hbf
  refine wp_do rfl rfl (run_storeOp rfl (by kernel_rfl) (by kernel_rfl) HX.out) ?_
  try simp only [nA, nB, nC]
  replace HP := hid (Fr.at HF16.out HP.out (by simpa using NE_q0_g5.out))
  replace K2 := hid (Fr.at HF16.out K2.out (by simpa using NE_g1_g5.out))
  replace Kg12 := hid (Fr.at HF16.out Kg12.out (by simpa using (Ne.symm NE_g5_g12.out)))
  replace Kg13 := hid (Fr.at HF16.out Kg13.out (by simpa using (Ne.symm NE_g5_g13.out)))
  replace HF0 := hid (HF0.out.trans HF16.out (fun x hx => .inr (by rw [List.mem_singleton] at hx; rw [hx]; exact GE_g5.out)))
  refine we ?_
  go_upto_region 8 with fail
  refine rl ?_
  refine qv (.pointer (some ⟨q0, 0, none⟩)) ?_
  refine qv (.pointer (some ⟨q0, 0, none⟩)) ?_
  refine qf (fa_usanceref07_parser_2 q0 0) ?_
  refine ql (.int .i64 1) Tryz.isAgg3 2 HP ?_
  simp only [nA, nB, nC]
  refine qb (bsub_int 1 1 0 (by decide)) ?_
  refine qv (.pointer (some ⟨q0, 0, none⟩)) ?_
  refine qf (fa_usanceref07_parser_2 q0 0) ?_
  simp only [nA, nB, nC]
  obtain ⟨w17, hbx, hbk, hbf⟩ := st1_x sz_int (.int .i64 0) (c' := #[tv, (.int .i64 5), (.int .i64 0), (.int .i64 0), (.int .i64 0)]) HP.out (i := 2) rfl rfl rfl rfl
  replace HP := hid hbk
  have HF18 := hid hbf
  have HX := hid hbx
  clear hbx hbk hbf
  refine wp_do rfl rfl (run_storeOp rfl (by kernel_rfl) (by kernel_rfl) HX.out) ?_
  try simp only [nA, nB, nC]
  replace K2 := hid (Fr.at HF18.out K2.out (by simpa using (Ne.symm NE_q0_g1.out)))
  replace K6 := hid (Fr.at HF18.out K6.out (by simpa using (Ne.symm NE_q0_g5.out)))
  replace Kg12 := hid (Fr.at HF18.out Kg12.out (by simpa using (Ne.symm NE_q0_g12.out)))
  replace Kg13 := hid (Fr.at HF18.out Kg13.out (by simpa using (Ne.symm NE_q0_g13.out)))
  replace HF0 := hid (HF0.out.trans HF18.out (fun x hx => .inl hx))
  refine we ?_
  go_upto_region 9 with fail
  refine rl ?_
  refine qk (.agg #[(.int .i64 13), (strV [45]), (.int .i64 0), (.slice (some ⟨g13, 0, none⟩) 2 2), (.int .i64 6)]) Tryz.isAgg24 K6 ?_
  simp only [nA, nB, nC]
  obtain ⟨w19, hbx, hbk, hbf⟩ := st_x (T := 24) (c := #[(.int .i64 0), (strV []), (.int .i64 0), (.slice none 0 0), (.int .i64 0)]) (c' := #[(.int .i64 13), (strV [45]), (.int .i64 0), (.slice (some ⟨g13, 0, none⟩) 2 2), (.int .i64 6)]) (by kernel_rfl) rfl rfl K2.out (by intro v hv; simp at hv; rcases hv with rfl | rfl | rfl | rfl | rfl <;> first | rfl | assumption)
  replace K2 := hid hbk
  have HF20 := hid hbf
  have HX := hid hbx
  clear hbx hbk hbf
  refine wp_do rfl rfl (run_storeOp rfl (by kernel_rfl) (by kernel_rfl) HX.out) ?_
  try simp only [nA, nB, nC]
  replace HP := hid (Fr.at HF20.out HP.out (by simpa using NE_q0_g1.out))
  replace K6 := hid (Fr.at HF20.out K6.out (by simpa using (Ne.symm NE_g1_g5.out)))
  replace Kg12 := hid (Fr.at HF20.out Kg12.out (by simpa using (Ne.symm NE_g1_g12.out)))
  replace Kg13 := hid (Fr.at HF20.out Kg13.out (by simpa using (Ne.symm NE_g1_g13.out)))
  replace HF0 := hid (HF0.out.trans HF20.out (fun x hx => .inr (by rw [List.mem_singleton] at hx; rw [hx]; exact GE_g1.out)))
  refine we ?_
  go_wp2_with fail
  exact ret_cell rfl rfl rfl (load_blk Tryz.isAgg24 (by kernel_rfl) rfl K2.out) ⟨g12, g13, rfl, Kg12.out, Kg13.out, GE_g12.out, GE_g13.out, HF0.out, HP.out⟩
end Go.Proofs.YtgpkcjpanpbhdaaGreatDoor
