/- the text SRightsW -/
import Derived.Test.YtgpkcjpanpbhdaaGreatDoorSGn
import Derived.Test.YtgpkcjpanpbhdaaGreatDoorSGj
set_option maxRecDepth 100000
set_option maxHeartbeats 4000000
namespace Go.Proofs.YtgpkcjpanpbhdaaGreatDoor
open Go Go.RowKit
theorem eqlB (a b : Bool) (w : World) : (binOp .eql 4 (.bool a) (.bool b)).run Tryz.prog w = .ok (.bool (a == b)) w := by go_simp
theorem y_eqlB {ops : Array Oper} {S : World → Prop} {o : Oper} {a : Act} {x y : Operand} {t' : TypeId} {l m r : Bool} (hop : o.op = .binOp .eql 4 x y t') (hw : Region.wanted o (yielded ops a.tmps) = true) (hx : a.eval x = .bool l) (hy : a.eval y = .bool m) (hr : (l == m) = r) : YieldsIf Tryz.prog ops S o (.bool r) a :=
 .inl ⟨hw, fun w _ => by
  unfold execOp; rw [hop]; simp only [hx, hy, Sem.run_bind]
  have : (eqGuard .eql 4 x y (.bool l) (.bool m)).run Tryz.prog w = .ok () w := by
   unfold eqGuard; go_simp
  rw [this]; simp only [Result.andThen_ok, eqlB, hr]; rfl⟩
theorem two_of (b : Bool) (s : List UInt8) : ∃ s' e, (bif b then (.tuple #[strV s, .int .i64 0] : Value) else .tuple #[strV [], .int .i64 90]) = .tuple #[strV s', .int .i64 e] := by
 cases b
 ·exact ⟨[], 90, rfl⟩
 ·exact ⟨s, 0, rfl⟩
seal wpList in
theorem showRights_any {t0 : Tr} {w : World} {v : Value} (htb : Tb w.heap.size w) (hn : Nd w v t0) (hok : t0.Ok) : Calls Tryz.prog 3 #[v] w fun e w' => e = .returned (.bool true) ∧ Below w.heap.size w w' := by
 have HOK := hid hok
 have HTB := hid htb
 have HN := hid hn
 have HB0 := hid (Below.refl w.heap.size w)
 obtain ⟨k, tx, n, kids, at_⟩ := t0
 obtain ⟨a, c, rfl, -, -⟩ := hn.open
 clear hok htb hn
 obtain ⟨sM, eM, hsm⟩ := two_of (modS (.mk k tx n kids at_) && decide (0 ≤ lft (.mk k tx n kids at_) 8192)) (fw (modW (.mk k tx n kids at_)))
 obtain ⟨sX, eX, hsx⟩ := two_of (rt 100 (.mk k tx n kids at_) && decide (0 ≤ lft (.mk k tx n kids at_) 8192)) (fw (wrOf (.mk k tx n kids at_)))
 have HSM := hid hsm
 have HSX := hid hsx
 have HSR : Hid ((bif (rt 100 (.mk k tx n kids at_) && sml (.mk k tx n kids at_)) then (.tuple #[strV (fw (wrOf (.mk k tx n kids at_))), .int .i64 0] : Value) else .tuple #[strV [], .int .i64 90]) = .tuple #[strV sX, .int .i64 eX]) := hid hsx
 clear hsm hsx
 have HE1 : Hid (decide (sM = sM) = true) := hid (by simp)
 have HE2 : Hid ((eM == eM) = true) := hid (by simp)
 have HE3 : Hid (decide (sX = sX) = true) := hid (by simp)
 have HE4 : Hid ((eX == eX) = true) := hid (by simp)
 generalize kids.length = N at *
 go_enter Tryz.func3, Tryz.ntmps3
 go_upto_region 0 with fail
 refine rl ?_
 obtain ⟨w3, g1, (HX : Hid _), (K2 : Hid _), (HB4 : Hid _)⟩ := box_x 24 w #[(.int .i64 k), (strV tx), (.int .i64 n), (.slice a N c), (.int .i64 at_)]
 refine wp_run (v := (.pointer (some ⟨g1, 0, none⟩))) rfl rfl (run_boxOp rfl (by kernel_rfl) HX.out) rfl ?_
 try simp only [nA, nB, nC]
 replace HTB := hid (HTB.out.below HB4.out)
 replace HN := hid (HN.out.later HB4.out)
 replace HB0 := kb HB0 HB4
 refine qv (.bool false) ?_
 simp only [nA, nB, nC]
 refine we ?_
 go_upto_region 1 with fail
 refine rl ?_
 refine qc #[] ?_
 have HCA := hid (shown_any (HTB.out.mono HB0.out.size))
 refine HCA.out.mono ?_
 rintro e w5 ⟨rfl, (HB6 : Hid _)⟩
 refine ⟨_, rfl, ?_⟩
 replace K2 := ka HB6 K2
 replace HTB := hid (HTB.out.below HB6.out)
 replace HN := hid (HN.out.later HB6.out)
 replace HB0 := kb HB0 HB6
 try simp only [Act.put, nA, nB, nC]
 refine qv (.bool true) ?_
 simp only [nA, nB, nC]
 refine we ?_
 go_upto_region 2 with fail
 refine rl ?_
 refine qk (nv k tx n (.slice a N c) at_) Tryz.isAgg24 K2 ?_
 simp only [nA, nB, nC]
 refine qc #[(nv k tx n (.slice a N c) at_)] ?_
 have HCA := hid (smodule_any HOK.out (HTB.out.mono HB0.out.size) HN.out)
 refine HCA.out.mono ?_
 rintro e w7 ⟨he, hq⟩
 rw [HSM.out] at he
 subst he
 refine ⟨_, rfl, ?_⟩
 have HB8 := hid hq
 clear hq
 replace K2 := ka HB8 K2
 replace HTB := hid (HTB.out.below HB8.out)
 replace HN := hid (HN.out.later HB8.out)
 replace HB0 := kb HB0 HB8
 try simp only [Act.put, nA, nB, nC]
 refine qv (.tuple #[(strV sM), (.int .i64 eM)]) ?_
 refine qv (strV sM) ?_
 refine qv (.int .i64 eM) ?_
 refine qv (strV sM) ?_
 simp only [nA, nB, nC]
 refine qv (.int .i64 eM) ?_
 simp only [nA, nB, nC]
 refine we ?_
 go_upto_region 3 with fail
 refine rl ?_
 refine qk (nv k tx n (.slice a N c) at_) Tryz.isAgg24 K2 ?_
 simp only [nA, nB, nC]
 refine qc #[(nv k tx n (.slice a N c) at_)] ?_
 have HCA := hid (rmodule_any HOK.out HN.out)
 refine HCA.out.mono ?_
 rintro e w9 ⟨he, hq⟩
 rw [← modS_R, HSM.out] at he
 subst he
 refine ⟨_, rfl, ?_⟩
 have HB10 := hid hq
 clear hq
 replace K2 := ka HB10 K2
 replace HTB := hid (HTB.out.below HB10.out)
 replace HN := hid (HN.out.later HB10.out)
 replace HB0 := kb HB0 HB10
 try simp only [Act.put, nA, nB, nC]
 refine qv (.tuple #[(strV sM), (.int .i64 eM)]) ?_
 refine qv (strV sM) ?_
 refine qv (.int .i64 eM) ?_
 refine qv (strV sM) ?_
 simp only [nA, nB, nC]
 refine qv (.int .i64 eM) ?_
 simp only [nA, nB, nC]
 refine we ?_
 go_upto_region 4 with fail
 refine rl ?_
 refine qk (nv k tx n (.slice a N c) at_) Tryz.isAgg24 K2 ?_
 simp only [nA, nB, nC]
 refine qc #[(nv k tx n (.slice a N c) at_)] ?_
 have HCA := hid (expr12_any HOK.out (HTB.out.mono HB0.out.size) HN.out (fun h => fw_len h))
 refine HCA.out.mono ?_
 rintro e w11 ⟨he, hq⟩
 rw [HSX.out] at he
 subst he
 refine ⟨_, rfl, ?_⟩
 have HB12 := hid hq
 clear hq
 replace K2 := ka HB12 K2
 replace HTB := hid (HTB.out.below HB12.out)
 replace HN := hid (HN.out.later HB12.out)
 replace HB0 := kb HB0 HB12
 try simp only [Act.put, nA, nB, nC]
 refine qv (.tuple #[(strV sX), (.int .i64 eX)]) ?_
 refine qv (strV sX) ?_
 refine qv (.int .i64 eX) ?_
 refine qv (strV sX) ?_
 simp only [nA, nB, nC]
 refine qv (.int .i64 eX) ?_
 simp only [nA, nB, nC]
 refine we ?_
 go_upto_region 5 with fail
 refine rl ?_
 refine qk (nv k tx n (.slice a N c) at_) Tryz.isAgg24 K2 ?_
 simp only [nA, nB, nC]
 refine qc #[(nv k tx n (.slice a N c) at_)] ?_
 have HCA := hid (rexprD_any HOK.out HN.out)
 refine HCA.out.mono ?_
 rintro e w13 ⟨he, hq⟩
 rw [HSR.out] at he
 subst he
 refine ⟨_, rfl, ?_⟩
 have HB14 := hid hq
 clear hq
 replace K2 := ka HB14 K2
 replace HTB := hid (HTB.out.below HB14.out)
 replace HN := hid (HN.out.later HB14.out)
 replace HB0 := kb HB0 HB14
 try simp only [Act.put, nA, nB, nC]
 refine qv (.tuple #[(strV sX), (.int .i64 eX)]) ?_
 refine qv (strV sX) ?_
 refine qv (.int .i64 eX) ?_
 refine qv (strV sX) ?_
 simp only [nA, nB, nC]
 refine qv (.int .i64 eX) ?_
 simp only [nA, nB, nC]
 refine we ?_
 go_upto_region 6 with fail
 obtain ⟨w15, hwd⟩ : ∃ x, x = w13.drew := ⟨_, rfl⟩
 have HB16 : Hid (Below w13.heap.size w13 w15) := hid (by rw [hwd]; exact ⟨rfl, rfl, rfl, Nat.le_refl _, fun _ _ => rfl⟩)
 refine h_openL (S := fun x => Below w15.heap.size w15 x) (by kernel_rfl) (by kernel_rfl) (fun _ _ _ _ _ h => h) (L := #[false, false, false, false, false, false, false, false, false, false, false, false, false, false, false, false, false, false, false, false, false, false, false, false, false, false, false, false, false, false, false, false, false, false, false, false]) (by kernel_rfl) ?_
 intro Q' hns hP hN
 rw [← hwd]
 clear hwd
 replace K2 := ka HB16 K2
 replace HTB := hid (HTB.out.below HB16.out)
 replace HN := hid (HN.out.later HB16.out)
 replace HB0 := kb HB0 HB16
 have hS : Below w15.heap.size w15 w15 := Below.refl _ _
 have DK2 := hid K2.out
 refine h_takeL (i := 0) (v := (.bool true)) hns rfl rfl (by kernel_rfl) (by kernel_rfl) hP (y_move rfl) hS rfl (L' := #[true, false, false, false, false, false, false, false, false, false, false, false, false, false, false, false, false, false, false, false, false, false, false, false, false, false, false, false, false, false, false, false, false, false, false, false]) (by kernel_rfl) ?_
 try simp only [nA, nB, nC]
 refine h_takeL (i := 1) (v := (.bool true)) hns rfl rfl (by kernel_rfl) (by kernel_rfl) hP (y_move rfl) hS rfl (L' := #[true, true, false, false, false, false, false, false, false, false, false, false, false, false, false, false, false, false, false, false, false, false, false, false, false, false, false, false, false, false, false, false, false, false, false, false]) (by kernel_rfl) ?_
 try simp only [nA, nB, nC]
 refine h_takeL (i := 2) (v := (strV sM)) hns rfl rfl (by kernel_rfl) (by kernel_rfl) hP (y_move rfl) hS rfl (L' := #[true, true, true, false, false, false, false, false, false, false, false, false, false, false, false, false, false, false, false, false, false, false, false, false, false, false, false, false, false, false, false, false, false, false, false, false]) (by kernel_rfl) ?_
 try simp only [nA, nB, nC]
 refine h_takeL (i := 3) (v := (strV sM)) hns rfl rfl (by kernel_rfl) (by kernel_rfl) hP (y_move rfl) hS rfl (L' := #[true, true, true, true, false, false, false, false, false, false, false, false, false, false, false, false, false, false, false, false, false, false, false, false, false, false, false, false, false, false, false, false, false, false, false, false]) (by kernel_rfl) ?_
 try simp only [nA, nB, nC]
 refine h_takeL (i := 4) (v := (.bool true)) hns rfl rfl (by kernel_rfl) (by kernel_rfl) hP (y_eqlS (l := sM) (m := sM) rfl (by kernel_rfl) (by kernel_rfl) (by kernel_rfl) (HE1.out)) hS rfl (L' := #[true, true, true, true, true, false, false, false, false, false, false, false, false, false, false, false, false, false, false, false, false, false, false, false, false, false, false, false, false, false, false, false, false, false, false, false]) (by kernel_rfl) ?_
 try simp only [nA, nB, nC]
 refine h_takeL (i := 5) (v := (.bool true)) hns rfl rfl (by kernel_rfl) (by kernel_rfl) hP (y_pick (b := true) rfl) hS rfl (L' := #[true, true, true, true, true, true, false, false, false, false, false, false, false, false, false, false, false, false, false, false, false, false, false, false, false, false, false, false, false, false, false, false, false, false, false, false]) (by kernel_rfl) ?_
 try simp only [nA, nB, nC]
 refine h_takeL (i := 6) (v := (.bool true)) hns rfl rfl (by kernel_rfl) (by kernel_rfl) hP (y_move rfl) hS rfl (L' := #[true, true, true, true, true, true, true, false, false, false, false, false, false, false, false, false, false, false, false, false, false, false, false, false, false, false, false, false, false, false, false, false, false, false, false, false]) (by kernel_rfl) ?_
 try simp only [nA, nB, nC]
 refine h_takeL (i := 7) (v := (.int .i64 eM)) hns rfl rfl (by kernel_rfl) (by kernel_rfl) hP (y_move rfl) hS rfl (L' := #[true, true, true, true, true, true, true, true, false, false, false, false, false, false, false, false, false, false, false, false, false, false, false, false, false, false, false, false, false, false, false, false, false, false, false, false]) (by kernel_rfl) ?_
 try simp only [nA, nB, nC]
 refine h_takeL (i := 8) (v := (.int .i64 eM)) hns rfl rfl (by kernel_rfl) (by kernel_rfl) hP (y_move rfl) hS rfl (L' := #[true, true, true, true, true, true, true, true, true, false, false, false, false, false, false, false, false, false, false, false, false, false, false, false, false, false, false, false, false, false, false, false, false, false, false, false]) (by kernel_rfl) ?_
 try simp only [nA, nB, nC]
 refine h_takeL (i := 9) (v := (.bool true)) hns rfl rfl (by kernel_rfl) (by kernel_rfl) hP (y_bin (k := .i64) (k' := .i64) (m := eM) (n := eM) rfl (hr := beql_api_Errno eM eM true HE2.out)) hS rfl (L' := #[true, true, true, true, true, true, true, true, true, true, false, false, false, false, false, false, false, false, false, false, false, false, false, false, false, false, false, false, false, false, false, false, false, false, false, false]) (by kernel_rfl) ?_
 try simp only [nA, nB, nC]
 refine h_takeL (i := 10) (v := (.bool true)) hns rfl rfl (by kernel_rfl) (by kernel_rfl) hP (y_pick (b := true) rfl) hS rfl (L' := #[true, true, true, true, true, true, true, true, true, true, true, false, false, false, false, false, false, false, false, false, false, false, false, false, false, false, false, false, false, false, false, false, false, false, false, false]) (by kernel_rfl) ?_
 try simp only [nA, nB, nC]
 refine h_takeL (i := 11) (v := (.bool true)) hns rfl rfl (by kernel_rfl) (by kernel_rfl) hP (y_move rfl) hS rfl (L' := #[true, true, true, true, true, true, true, true, true, true, true, true, false, false, false, false, false, false, false, false, false, false, false, false, false, false, false, false, false, false, false, false, false, false, false, false]) (by kernel_rfl) ?_
 try simp only [nA, nB, nC]
 refine h_takeL (i := 12) (v := (strV sX)) hns rfl rfl (by kernel_rfl) (by kernel_rfl) hP (y_move rfl) hS rfl (L' := #[true, true, true, true, true, true, true, true, true, true, true, true, true, false, false, false, false, false, false, false, false, false, false, false, false, false, false, false, false, false, false, false, false, false, false, false]) (by kernel_rfl) ?_
 try simp only [nA, nB, nC]
 refine h_takeL (i := 13) (v := (strV sX)) hns rfl rfl (by kernel_rfl) (by kernel_rfl) hP (y_move rfl) hS rfl (L' := #[true, true, true, true, true, true, true, true, true, true, true, true, true, true, false, false, false, false, false, false, false, false, false, false, false, false, false, false, false, false, false, false, false, false, false, false]) (by kernel_rfl) ?_
 try simp only [nA, nB, nC]
 refine h_takeL (i := 14) (v := (.bool true)) hns rfl rfl (by kernel_rfl) (by kernel_rfl) hP (y_eqlS (l := sX) (m := sX) rfl (by kernel_rfl) (by kernel_rfl) (by kernel_rfl) (HE3.out)) hS rfl (L' := #[true, true, true, true, true, true, true, true, true, true, true, true, true, true, true, false, false, false, false, false, false, false, false, false, false, false, false, false, false, false, false, false, false, false, false, false]) (by kernel_rfl) ?_
 try simp only [nA, nB, nC]
 refine h_takeL (i := 15) (v := (.bool true)) hns rfl rfl (by kernel_rfl) (by kernel_rfl) hP (y_pick (b := true) rfl) hS rfl (L' := #[true, true, true, true, true, true, true, true, true, true, true, true, true, true, true, true, false, false, false, false, false, false, false, false, false, false, false, false, false, false, false, false, false, false, false, false]) (by kernel_rfl) ?_
 try simp only [nA, nB, nC]
 refine h_takeL (i := 16) (v := (.bool true)) hns rfl rfl (by kernel_rfl) (by kernel_rfl) hP (y_move rfl) hS rfl (L' := #[true, true, true, true, true, true, true, true, true, true, true, true, true, true, true, true, true, false, false, false, false, false, false, false, false, false, false, false, false, false, false, false, false, false, false, false]) (by kernel_rfl) ?_
 try simp only [nA, nB, nC]
 refine h_takeL (i := 17) (v := (.int .i64 eX)) hns rfl rfl (by kernel_rfl) (by kernel_rfl) hP (y_move rfl) hS rfl (L' := #[true, true, true, true, true, true, true, true, true, true, true, true, true, true, true, true, true, true, false, false, false, false, false, false, false, false, false, false, false, false, false, false, false, false, false, false]) (by kernel_rfl) ?_
 try simp only [nA, nB, nC]
 refine h_takeL (i := 18) (v := (.int .i64 eX)) hns rfl rfl (by kernel_rfl) (by kernel_rfl) hP (y_move rfl) hS rfl (L' := #[true, true, true, true, true, true, true, true, true, true, true, true, true, true, true, true, true, true, true, false, false, false, false, false, false, false, false, false, false, false, false, false, false, false, false, false]) (by kernel_rfl) ?_
 try simp only [nA, nB, nC]
 refine h_takeL (i := 19) (v := (.bool true)) hns rfl rfl (by kernel_rfl) (by kernel_rfl) hP (y_bin (k := .i64) (k' := .i64) (m := eX) (n := eX) rfl (hr := beql_api_Errno eX eX true HE4.out)) hS rfl (L' := #[true, true, true, true, true, true, true, true, true, true, true, true, true, true, true, true, true, true, true, true, false, false, false, false, false, false, false, false, false, false, false, false, false, false, false, false]) (by kernel_rfl) ?_
 try simp only [nA, nB, nC]
 refine h_takeL (i := 20) (v := (.bool true)) hns rfl rfl (by kernel_rfl) (by kernel_rfl) hP (y_pick (b := true) rfl) hS rfl (L' := #[true, true, true, true, true, true, true, true, true, true, true, true, true, true, true, true, true, true, true, true, true, false, false, false, false, false, false, false, false, false, false, false, false, false, false, false]) (by kernel_rfl) ?_
 try simp only [nA, nB, nC]
 refine h_takeL (i := 21) (v := (.bool true)) hns rfl rfl (by kernel_rfl) (by kernel_rfl) hP (y_move rfl) hS rfl (L' := #[true, true, true, true, true, true, true, true, true, true, true, true, true, true, true, true, true, true, true, true, true, true, false, false, false, false, false, false, false, false, false, false, false, false, false, false]) (by kernel_rfl) ?_
 try simp only [nA, nB, nC]
 refine h_takeL (i := 22) (v := (nv k tx n (.slice a N c) at_)) hns rfl rfl (by kernel_rfl) (by kernel_rfl) hP (y_load rfl (hl := fun w' h => load_blk Tryz.isAgg24 (by kernel_rfl) rfl (below_at h DK2.out (heap_lt DK2.out)))) hS rfl (L' := #[true, true, true, true, true, true, true, true, true, true, true, true, true, true, true, true, true, true, true, true, true, true, true, false, false, false, false, false, false, false, false, false, false, false, false, false]) (by kernel_rfl) ?_
 try simp only [nA, nB, nC]
 refine h_takeL (i := 24) (v := (nv k tx n (.slice a N c) at_)) hns rfl rfl (by kernel_rfl) (by kernel_rfl) hP (y_load rfl (hl := fun w' h => load_blk Tryz.isAgg24 (by kernel_rfl) rfl (below_at h DK2.out (heap_lt DK2.out)))) hS rfl (L' := #[true, true, true, true, true, true, true, true, true, true, true, true, true, true, true, true, true, true, true, true, true, true, true, false, true, false, false, false, false, false, false, false, false, false, false, false]) (by kernel_rfl) ?_
 try simp only [nA, nB, nC]
 rcases bt ((modS (.mk k tx n kids at_) && decide (0 ≤ lft (.mk k tx n kids at_) 8192))) with Hhb17 | Hhb17
 ·have HMR : Hid (modR (.mk k tx n kids at_) = true) := hid (by rw [← modS_R]; exact Hhb17.out)
  refine h_callL (i := 23) (f := 14) (args := #[(nv k tx n (.slice a N c) at_)]) (by kernel_rfl) rfl rfl (by kernel_rfl) (enter_go rfl (by kernel_rfl) (fun w => by go_simp)) (L' := #[true, true, true, true, true, true, true, true, true, true, true, true, true, true, true, true, true, true, true, true, true, true, true, true, true, false, false, false, false, false, false, false, false, false, false, false]) (by kernel_rfl) ?_
  have HCA := hid (sright_any HOK.out (HTB.out.mono HB0.out.size) HN.out)
  refine HCA.out.mono ?_
  rintro e w18 ⟨he, hq⟩
  rw [Hhb17.out] at he
  subst he
  replace hS := hS.trans (hq.mono hS.size)
  refine ⟨_, rfl, hS, ?_⟩
  have HB19 := hid hq
  clear hq
  replace K2 := ka HB19 K2
  replace HTB := hid (HTB.out.below HB19.out)
  replace HN := hid (HN.out.later HB19.out)
  replace HB0 := kb HB0 HB19
  try simp only [nA, nB, nC]
  refine h_callL (i := 25) (f := 15) (args := #[(nv k tx n (.slice a N c) at_)]) (by kernel_rfl) rfl rfl (by kernel_rfl) (enter_go rfl (by kernel_rfl) (fun w => by go_simp)) (L' := #[true, true, true, true, true, true, true, true, true, true, true, true, true, true, true, true, true, true, true, true, true, true, true, true, true, true, false, false, false, false, false, false, false, false, false, false]) (by kernel_rfl) ?_
  have HCA := hid (rright0_any HOK.out HN.out)
  refine HCA.out.mono ?_
  rintro e w20 ⟨he, hq⟩
  rw [HMR.out] at he
  subst he
  replace hS := hS.trans (hq.mono hS.size)
  refine ⟨_, rfl, hS, ?_⟩
  have HB21 := hid hq
  clear hq
  replace K2 := ka HB21 K2
  replace HTB := hid (HTB.out.below HB21.out)
  replace HN := hid (HN.out.later HB21.out)
  replace HB0 := kb HB0 HB21
  try simp only [nA, nB, nC]
  refine h_takeL (i := 26) (v := (.bool true)) hns rfl rfl (by kernel_rfl) (by kernel_rfl) hP (y_eqlB (l := true) (m := true) rfl (by kernel_rfl) (by kernel_rfl) (by kernel_rfl) rfl) hS rfl (L' := #[true, true, true, true, true, true, true, true, true, true, true, true, true, true, true, true, true, true, true, true, true, true, true, true, true, true, true, false, false, false, false, false, false, false, false, false]) (by kernel_rfl) ?_
  try simp only [nA, nB, nC]
  refine h_takeL (i := 27) (v := (.bool true)) hns rfl rfl (by kernel_rfl) (by kernel_rfl) hP (y_pick (b := true) rfl) hS rfl (L' := #[true, true, true, true, true, true, true, true, true, true, true, true, true, true, true, true, true, true, true, true, true, true, true, true, true, true, true, true, false, false, false, false, false, false, false, false]) (by kernel_rfl) ?_
  try simp only [nA, nB, nC]
  refine h_takeL (i := 28) (v := (.bool true)) hns rfl rfl (by kernel_rfl) (by kernel_rfl) hP (y_move rfl) hS rfl (L' := #[true, true, true, true, true, true, true, true, true, true, true, true, true, true, true, true, true, true, true, true, true, true, true, true, true, true, true, true, true, false, false, false, false, false, false, false]) (by kernel_rfl) ?_
  try simp only [nA, nB, nC]
  refine h_takeL (i := 29) (v := (nv k tx n (.slice a N c) at_)) hns rfl rfl (by kernel_rfl) (by kernel_rfl) hP (y_load rfl (hl := fun w' h => load_blk Tryz.isAgg24 (by kernel_rfl) rfl (below_at h DK2.out (heap_lt DK2.out)))) hS rfl (L' := #[true, true, true, true, true, true, true, true, true, true, true, true, true, true, true, true, true, true, true, true, true, true, true, true, true, true, true, true, true, true, false, false, false, false, false, false]) (by kernel_rfl) ?_
  try simp only [nA, nB, nC]
  refine h_takeL (i := 31) (v := (nv k tx n (.slice a N c) at_)) hns rfl rfl (by kernel_rfl) (by kernel_rfl) hP (y_load rfl (hl := fun w' h => load_blk Tryz.isAgg24 (by kernel_rfl) rfl (below_at h DK2.out (heap_lt DK2.out)))) hS rfl (L' := #[true, true, true, true, true, true, true, true, true, true, true, true, true, true, true, true, true, true, true, true, true, true, true, true, true, true, true, true, true, true, false, true, false, false, false, false]) (by kernel_rfl) ?_
  try simp only [nA, nB, nC]
  rcases bt ((rt 100 (.mk k tx n kids at_) && decide (0 ≤ lft (.mk k tx n kids at_) 8192))) with Hhb22 | Hhb22
  ·have HXR : Hid ((rt 100 (.mk k tx n kids at_) && sml (.mk k tx n kids at_)) = true) := hid Hhb22.out
   refine h_callL (i := 30) (f := 16) (args := #[(nv k tx n (.slice a N c) at_)]) (by kernel_rfl) rfl rfl (by kernel_rfl) (enter_go rfl (by kernel_rfl) (fun w => by go_simp)) (L' := #[true, true, true, true, true, true, true, true, true, true, true, true, true, true, true, true, true, true, true, true, true, true, true, true, true, true, true, true, true, true, true, true, false, false, false, false]) (by kernel_rfl) ?_
   have HCA := hid (rightExpr_any HOK.out (HTB.out.mono HB0.out.size) HN.out)
   refine HCA.out.mono ?_
   rintro e w23 ⟨he, hq⟩
   rw [Hhb22.out] at he
   subst he
   replace hS := hS.trans (hq.mono hS.size)
   refine ⟨_, rfl, hS, ?_⟩
   have HB24 := hid hq
   clear hq
   replace K2 := ka HB24 K2
   replace HTB := hid (HTB.out.below HB24.out)
   replace HN := hid (HN.out.later HB24.out)
   replace HB0 := kb HB0 HB24
   try simp only [nA, nB, nC]
   refine h_callL (i := 32) (f := 17) (args := #[(nv k tx n (.slice a N c) at_)]) (by kernel_rfl) rfl rfl (by kernel_rfl) (enter_go rfl (by kernel_rfl) (fun w => by go_simp)) (L' := #[true, true, true, true, true, true, true, true, true, true, true, true, true, true, true, true, true, true, true, true, true, true, true, true, true, true, true, true, true, true, true, true, true, false, false, false]) (by kernel_rfl) ?_
   have HCA := hid (rrightExpr_any HOK.out HN.out)
   refine HCA.out.mono ?_
   rintro e w25 ⟨he, hq⟩
   rw [HXR.out] at he
   subst he
   replace hS := hS.trans (hq.mono hS.size)
   refine ⟨_, rfl, hS, ?_⟩
   have HB26 := hid hq
   clear hq
   replace K2 := ka HB26 K2
   replace HTB := hid (HTB.out.below HB26.out)
   replace HN := hid (HN.out.later HB26.out)
   replace HB0 := kb HB0 HB26
   try simp only [nA, nB, nC]
   refine h_takeL (i := 33) (v := (.bool true)) hns rfl rfl (by kernel_rfl) (by kernel_rfl) hP (y_eqlB (l := true) (m := true) rfl (by kernel_rfl) (by kernel_rfl) (by kernel_rfl) rfl) hS rfl (L' := #[true, true, true, true, true, true, true, true, true, true, true, true, true, true, true, true, true, true, true, true, true, true, true, true, true, true, true, true, true, true, true, true, true, true, false, false]) (by kernel_rfl) ?_
   try simp only [nA, nB, nC]
   refine h_takeL (i := 34) (v := (.bool true)) hns rfl rfl (by kernel_rfl) (by kernel_rfl) hP (y_pick (b := true) rfl) hS rfl (L' := #[true, true, true, true, true, true, true, true, true, true, true, true, true, true, true, true, true, true, true, true, true, true, true, true, true, true, true, true, true, true, true, true, true, true, true, false]) (by kernel_rfl) ?_
   try simp only [nA, nB, nC]
   refine h_takeL (i := 35) (v := (.bool true)) hns rfl rfl (by kernel_rfl) (by kernel_rfl) hP (y_assign rfl) hS rfl (L' := #[true, true, true, true, true, true, true, true, true, true, true, true, true, true, true, true, true, true, true, true, true, true, true, true, true, true, true, true, true, true, true, true, true, true, true, true]) (by kernel_rfl) ?_
   try simp only [nA, nB, nC]
   refine wpAnyH_done (by kernel_rfl) ?_ _
   refine hN _ _ ?_
   clear hP hN hns hS
   go_wp2_with fail
   go_ret
   exact ⟨rfl, HB0.out⟩
  ·have HXR : Hid ((rt 100 (.mk k tx n kids at_) && sml (.mk k tx n kids at_)) = false) := hid Hhb22.out
   refine h_callL (i := 30) (f := 16) (args := #[(nv k tx n (.slice a N c) at_)]) (by kernel_rfl) rfl rfl (by kernel_rfl) (enter_go rfl (by kernel_rfl) (fun w => by go_simp)) (L' := #[true, true, true, true, true, true, true, true, true, true, true, true, true, true, true, true, true, true, true, true, true, true, true, true, true, true, true, true, true, true, true, true, false, false, false, false]) (by kernel_rfl) ?_
   have HCA := hid (rightExpr_any HOK.out (HTB.out.mono HB0.out.size) HN.out)
   refine HCA.out.mono ?_
   rintro e w27 ⟨he, hq⟩
   rw [Hhb22.out] at he
   subst he
   replace hS := hS.trans (hq.mono hS.size)
   refine ⟨_, rfl, hS, ?_⟩
   have HB28 := hid hq
   clear hq
   replace K2 := ka HB28 K2
   replace HTB := hid (HTB.out.below HB28.out)
   replace HN := hid (HN.out.later HB28.out)
   replace HB0 := kb HB0 HB28
   try simp only [nA, nB, nC]
   refine h_callL (i := 32) (f := 17) (args := #[(nv k tx n (.slice a N c) at_)]) (by kernel_rfl) rfl rfl (by kernel_rfl) (enter_go rfl (by kernel_rfl) (fun w => by go_simp)) (L' := #[true, true, true, true, true, true, true, true, true, true, true, true, true, true, true, true, true, true, true, true, true, true, true, true, true, true, true, true, true, true, true, true, true, false, false, false]) (by kernel_rfl) ?_
   have HCA := hid (rrightExpr_any HOK.out HN.out)
   refine HCA.out.mono ?_
   rintro e w29 ⟨he, hq⟩
   rw [HXR.out] at he
   subst he
   replace hS := hS.trans (hq.mono hS.size)
   refine ⟨_, rfl, hS, ?_⟩
   have HB30 := hid hq
   clear hq
   replace K2 := ka HB30 K2
   replace HTB := hid (HTB.out.below HB30.out)
   replace HN := hid (HN.out.later HB30.out)
   replace HB0 := kb HB0 HB30
   try simp only [nA, nB, nC]
   refine h_takeL (i := 33) (v := (.bool true)) hns rfl rfl (by kernel_rfl) (by kernel_rfl) hP (y_eqlB (l := false) (m := false) rfl (by kernel_rfl) (by kernel_rfl) (by kernel_rfl) rfl) hS rfl (L' := #[true, true, true, true, true, true, true, true, true, true, true, true, true, true, true, true, true, true, true, true, true, true, true, true, true, true, true, true, true, true, true, true, true, true, false, false]) (by kernel_rfl) ?_
   try simp only [nA, nB, nC]
   refine h_takeL (i := 34) (v := (.bool true)) hns rfl rfl (by kernel_rfl) (by kernel_rfl) hP (y_pick (b := true) rfl) hS rfl (L' := #[true, true, true, true, true, true, true, true, true, true, true, true, true, true, true, true, true, true, true, true, true, true, true, true, true, true, true, true, true, true, true, true, true, true, true, false]) (by kernel_rfl) ?_
   try simp only [nA, nB, nC]
   refine h_takeL (i := 35) (v := (.bool true)) hns rfl rfl (by kernel_rfl) (by kernel_rfl) hP (y_assign rfl) hS rfl (L' := #[true, true, true, true, true, true, true, true, true, true, true, true, true, true, true, true, true, true, true, true, true, true, true, true, true, true, true, true, true, true, true, true, true, true, true, true]) (by kernel_rfl) ?_
   try simp only [nA, nB, nC]
   refine wpAnyH_done (by kernel_rfl) ?_ _
   refine hN _ _ ?_
   clear hP hN hns hS
   go_wp2_with fail
   go_ret
   exact ⟨rfl, HB0.out⟩
 ·have HMR : Hid (modR (.mk k tx n kids at_) = false) := hid (by rw [← modS_R]; exact Hhb17.out)
  refine h_callL (i := 23) (f := 14) (args := #[(nv k tx n (.slice a N c) at_)]) (by kernel_rfl) rfl rfl (by kernel_rfl) (enter_go rfl (by kernel_rfl) (fun w => by go_simp)) (L' := #[true, true, true, true, true, true, true, true, true, true, true, true, true, true, true, true, true, true, true, true, true, true, true, true, true, false, false, false, false, false, false, false, false, false, false, false]) (by kernel_rfl) ?_
  have HCA := hid (sright_any HOK.out (HTB.out.mono HB0.out.size) HN.out)
  refine HCA.out.mono ?_
  rintro e w31 ⟨he, hq⟩
  rw [Hhb17.out] at he
  subst he
  replace hS := hS.trans (hq.mono hS.size)
  refine ⟨_, rfl, hS, ?_⟩
  have HB32 := hid hq
  clear hq
  replace K2 := ka HB32 K2
  replace HTB := hid (HTB.out.below HB32.out)
  replace HN := hid (HN.out.later HB32.out)
  replace HB0 := kb HB0 HB32
  try simp only [nA, nB, nC]
  refine h_callL (i := 25) (f := 15) (args := #[(nv k tx n (.slice a N c) at_)]) (by kernel_rfl) rfl rfl (by kernel_rfl) (enter_go rfl (by kernel_rfl) (fun w => by go_simp)) (L' := #[true, true, true, true, true, true, true, true, true, true, true, true, true, true, true, true, true, true, true, true, true, true, true, true, true, true, false, false, false, false, false, false, false, false, false, false]) (by kernel_rfl) ?_
  have HCA := hid (rright0_any HOK.out HN.out)
  refine HCA.out.mono ?_
  rintro e w33 ⟨he, hq⟩
  rw [HMR.out] at he
  subst he
  replace hS := hS.trans (hq.mono hS.size)
  refine ⟨_, rfl, hS, ?_⟩
  have HB34 := hid hq
  clear hq
  replace K2 := ka HB34 K2
  replace HTB := hid (HTB.out.below HB34.out)
  replace HN := hid (HN.out.later HB34.out)
  replace HB0 := kb HB0 HB34
  try simp only [nA, nB, nC]
  refine h_takeL (i := 26) (v := (.bool true)) hns rfl rfl (by kernel_rfl) (by kernel_rfl) hP (y_eqlB (l := false) (m := false) rfl (by kernel_rfl) (by kernel_rfl) (by kernel_rfl) rfl) hS rfl (L' := #[true, true, true, true, true, true, true, true, true, true, true, true, true, true, true, true, true, true, true, true, true, true, true, true, true, true, true, false, false, false, false, false, false, false, false, false]) (by kernel_rfl) ?_
  try simp only [nA, nB, nC]
  refine h_takeL (i := 27) (v := (.bool true)) hns rfl rfl (by kernel_rfl) (by kernel_rfl) hP (y_pick (b := true) rfl) hS rfl (L' := #[true, true, true, true, true, true, true, true, true, true, true, true, true, true, true, true, true, true, true, true, true, true, true, true, true, true, true, true, false, false, false, false, false, false, false, false]) (by kernel_rfl) ?_
  try simp only [nA, nB, nC]
  refine h_takeL (i := 28) (v := (.bool true)) hns rfl rfl (by kernel_rfl) (by kernel_rfl) hP (y_move rfl) hS rfl (L' := #[true, true, true, true, true, true, true, true, true, true, true, true, true, true, true, true, true, true, true, true, true, true, true, true, true, true, true, true, true, false, false, false, false, false, false, false]) (by kernel_rfl) ?_
  try simp only [nA, nB, nC]
  refine h_takeL (i := 29) (v := (nv k tx n (.slice a N c) at_)) hns rfl rfl (by kernel_rfl) (by kernel_rfl) hP (y_load rfl (hl := fun w' h => load_blk Tryz.isAgg24 (by kernel_rfl) rfl (below_at h DK2.out (heap_lt DK2.out)))) hS rfl (L' := #[true, true, true, true, true, true, true, true, true, true, true, true, true, true, true, true, true, true, true, true, true, true, true, true, true, true, true, true, true, true, false, false, false, false, false, false]) (by kernel_rfl) ?_
  try simp only [nA, nB, nC]
  refine h_takeL (i := 31) (v := (nv k tx n (.slice a N c) at_)) hns rfl rfl (by kernel_rfl) (by kernel_rfl) hP (y_load rfl (hl := fun w' h => load_blk Tryz.isAgg24 (by kernel_rfl) rfl (below_at h DK2.out (heap_lt DK2.out)))) hS rfl (L' := #[true, true, true, true, true, true, true, true, true, true, true, true, true, true, true, true, true, true, true, true, true, true, true, true, true, true, true, true, true, true, false, true, false, false, false, false]) (by kernel_rfl) ?_
  try simp only [nA, nB, nC]
  rcases bt ((rt 100 (.mk k tx n kids at_) && decide (0 ≤ lft (.mk k tx n kids at_) 8192))) with Hhb35 | Hhb35
  ·have HXR : Hid ((rt 100 (.mk k tx n kids at_) && sml (.mk k tx n kids at_)) = true) := hid Hhb35.out
   refine h_callL (i := 30) (f := 16) (args := #[(nv k tx n (.slice a N c) at_)]) (by kernel_rfl) rfl rfl (by kernel_rfl) (enter_go rfl (by kernel_rfl) (fun w => by go_simp)) (L' := #[true, true, true, true, true, true, true, true, true, true, true, true, true, true, true, true, true, true, true, true, true, true, true, true, true, true, true, true, true, true, true, true, false, false, false, false]) (by kernel_rfl) ?_
   have HCA := hid (rightExpr_any HOK.out (HTB.out.mono HB0.out.size) HN.out)
   refine HCA.out.mono ?_
   rintro e w36 ⟨he, hq⟩
   rw [Hhb35.out] at he
   subst he
   replace hS := hS.trans (hq.mono hS.size)
   refine ⟨_, rfl, hS, ?_⟩
   have HB37 := hid hq
   clear hq
   replace K2 := ka HB37 K2
   replace HTB := hid (HTB.out.below HB37.out)
   replace HN := hid (HN.out.later HB37.out)
   replace HB0 := kb HB0 HB37
   try simp only [nA, nB, nC]
   refine h_callL (i := 32) (f := 17) (args := #[(nv k tx n (.slice a N c) at_)]) (by kernel_rfl) rfl rfl (by kernel_rfl) (enter_go rfl (by kernel_rfl) (fun w => by go_simp)) (L' := #[true, true, true, true, true, true, true, true, true, true, true, true, true, true, true, true, true, true, true, true, true, true, true, true, true, true, true, true, true, true, true, true, true, false, false, false]) (by kernel_rfl) ?_
   have HCA := hid (rrightExpr_any HOK.out HN.out)
   refine HCA.out.mono ?_
   rintro e w38 ⟨he, hq⟩
   rw [HXR.out] at he
   subst he
   replace hS := hS.trans (hq.mono hS.size)
   refine ⟨_, rfl, hS, ?_⟩
   have HB39 := hid hq
   clear hq
   replace K2 := ka HB39 K2
   replace HTB := hid (HTB.out.below HB39.out)
   replace HN := hid (HN.out.later HB39.out)
   replace HB0 := kb HB0 HB39
   try simp only [nA, nB, nC]
   refine h_takeL (i := 33) (v := (.bool true)) hns rfl rfl (by kernel_rfl) (by kernel_rfl) hP (y_eqlB (l := true) (m := true) rfl (by kernel_rfl) (by kernel_rfl) (by kernel_rfl) rfl) hS rfl (L' := #[true, true, true, true, true, true, true, true, true, true, true, true, true, true, true, true, true, true, true, true, true, true, true, true, true, true, true, true, true, true, true, true, true, true, false, false]) (by kernel_rfl) ?_
   try simp only [nA, nB, nC]
   refine h_takeL (i := 34) (v := (.bool true)) hns rfl rfl (by kernel_rfl) (by kernel_rfl) hP (y_pick (b := true) rfl) hS rfl (L' := #[true, true, true, true, true, true, true, true, true, true, true, true, true, true, true, true, true, true, true, true, true, true, true, true, true, true, true, true, true, true, true, true, true, true, true, false]) (by kernel_rfl) ?_
   try simp only [nA, nB, nC]
   refine h_takeL (i := 35) (v := (.bool true)) hns rfl rfl (by kernel_rfl) (by kernel_rfl) hP (y_assign rfl) hS rfl (L' := #[true, true, true, true, true, true, true, true, true, true, true, true, true, true, true, true, true, true, true, true, true, true, true, true, true, true, true, true, true, true, true, true, true, true, true, true]) (by kernel_rfl) ?_
   try simp only [nA, nB, nC]
   refine wpAnyH_done (by kernel_rfl) ?_ _
   refine hN _ _ ?_
   clear hP hN hns hS
   go_wp2_with fail
   go_ret
   exact ⟨rfl, HB0.out⟩
  ·have HXR : Hid ((rt 100 (.mk k tx n kids at_) && sml (.mk k tx n kids at_)) = false) := hid Hhb35.out
   refine h_callL (i := 30) (f := 16) (args := #[(nv k tx n (.slice a N c) at_)]) (by kernel_rfl) rfl rfl (by kernel_rfl) (enter_go rfl (by kernel_rfl) (fun w => by go_simp)) (L' := #[true, true, true, true, true, true, true, true, true, true, true, true, true, true, true, true, true, true, true, true, true, true, true, true, true, true, true, true, true, true, true, true, false, false, false, false]) (by kernel_rfl) ?_
   have HCA := hid (rightExpr_any HOK.out (HTB.out.mono HB0.out.size) HN.out)
   refine HCA.out.mono ?_
   rintro e w40 ⟨he, hq⟩
   rw [Hhb35.out] at he
   subst he
   replace hS := hS.trans (hq.mono hS.size)
   refine ⟨_, rfl, hS, ?_⟩
   have HB41 := hid hq
   clear hq
   replace K2 := ka HB41 K2
   replace HTB := hid (HTB.out.below HB41.out)
   replace HN := hid (HN.out.later HB41.out)
   replace HB0 := kb HB0 HB41
   try simp only [nA, nB, nC]
   refine h_callL (i := 32) (f := 17) (args := #[(nv k tx n (.slice a N c) at_)]) (by kernel_rfl) rfl rfl (by kernel_rfl) (enter_go rfl (by kernel_rfl) (fun w => by go_simp)) (L' := #[true, true, true, true, true, true, true, true, true, true, true, true, true, true, true, true, true, true, true, true, true, true, true, true, true, true, true, true, true, true, true, true, true, false, false, false]) (by kernel_rfl) ?_
   have HCA := hid (rrightExpr_any HOK.out HN.out)
   refine HCA.out.mono ?_
   rintro e w42 ⟨he, hq⟩
   rw [HXR.out] at he
   subst he
   replace hS := hS.trans (hq.mono hS.size)
   refine ⟨_, rfl, hS, ?_⟩
   have HB43 := hid hq
   clear hq
   replace K2 := ka HB43 K2
   replace HTB := hid (HTB.out.below HB43.out)
   replace HN := hid (HN.out.later HB43.out)
   replace HB0 := kb HB0 HB43
   try simp only [nA, nB, nC]
   refine h_takeL (i := 33) (v := (.bool true)) hns rfl rfl (by kernel_rfl) (by kernel_rfl) hP (y_eqlB (l := false) (m := false) rfl (by kernel_rfl) (by kernel_rfl) (by kernel_rfl) rfl) hS rfl (L' := #[true, true, true, true, true, true, true, true, true, true, true, true, true, true, true, true, true, true, true, true, true, true, true, true, true, true, true, true, true, true, true, true, true, true, false, false]) (by kernel_rfl) ?_
   try simp only [nA, nB, nC]
   refine h_takeL (i := 34) (v := (.bool true)) hns rfl rfl (by kernel_rfl) (by kernel_rfl) hP (y_pick (b := true) rfl) hS rfl (L' := #[true, true, true, true, true, true, true, true, true, true, true, true, true, true, true, true, true, true, true, true, true, true, true, true, true, true, true, true, true, true, true, true, true, true, true, false]) (by kernel_rfl) ?_
   try simp only [nA, nB, nC]
   refine h_takeL (i := 35) (v := (.bool true)) hns rfl rfl (by kernel_rfl) (by kernel_rfl) hP (y_assign rfl) hS rfl (L' := #[true, true, true, true, true, true, true, true, true, true, true, true, true, true, true, true, true, true, true, true, true, true, true, true, true, true, true, true, true, true, true, true, true, true, true, true]) (by kernel_rfl) ?_
   try simp only [nA, nB, nC]
   refine wpAnyH_done (by kernel_rfl) ?_ _
   refine hN _ _ ?_
   clear hP hN hns hS
   go_wp2_with fail
   go_ret
   exact ⟨rfl, HB0.out⟩
end Go.Proofs.YtgpkcjpanpbhdaaGreatDoor
