/- texts put together: SRMod SRMod2 SMod2 SMod3 -/
import Derived.Test.YtgpkcjpanpbhdaaGreatDoorSGm
set_option maxRecDepth 100000
set_option maxHeartbeats 4000000
namespace Go.Proofs.YtgpkcjpanpbhdaaGreatDoor
open Go Go.RowKit
theorem ldg_gt {kd : Int} {ks : List Tr} {j : Nat} {t : Tr} (ha : (ks.take j).all (fun t => t.kd == kd) = true) (hj : ks[j]? = some t) (ht : (t.kd == kd) = true) : j < ldg kd ks := by
 unfold ldg
 induction ks generalizing j with
 | nil => simp at hj
 | cons x r ih =>
  cases j with
  | zero =>
   simp at hj
   subst hj
   rw [List.takeWhile_cons, ht]
   simp
  | succ j =>
   simp only [List.take_succ_cons, List.all_cons, Bool.and_eq_true] at ha
   rw [List.takeWhile_cons, if_pos ha.1, List.length_cons]
   have := ih ha.2 (by simpa using hj)
   omega
theorem all_take_no {p : Tr → Bool} {ks : List Tr} {j I : Nat} {t : Tr} (hj : ks[j]? = some t) (h : j < I) (hp : p t = false) : (ks.take I).all p = false := by
 rw [List.all_eq_false]
 exact ⟨t, List.mem_of_getElem? (i := j) (by rw [List.getElem?_take_of_lt h]; exact hj), by rw [hp]; simp⟩
theorem all_drop_no {p : Tr → Bool} {ks : List Tr} {j I : Nat} {t : Tr} (hj : ks[j]? = some t) (h : I ≤ j) (hp : p t = false) : (ks.drop I).all p = false := by
 rw [List.all_eq_false]
 exact ⟨t, List.mem_of_getElem? (i := j - I) (by rw [List.getElem?_drop, show I + (j - I) = j by omega]; exact hj), by rw [hp]; simp⟩
theorem all_drop_yes {p : Tr → Bool} {ks : List Tr} {I : Nat} (h : ∀ q x, I ≤ q → q < ks.length → ks[q]? = some x → p x = true) : (ks.drop I).all p = true := by
 rw [List.all_eq_true]
 intro x hx
 obtain ⟨q, hq⟩ := List.getElem?_of_mem hx
 rw [List.getElem?_drop] at hq
 exact h (I + q) x (by omega) (List.getElem?_eq_some_iff.1 hq).1 hq
def kidW (t : Tr) : Wr := bif t.kd == 2 then impW t else letW t
theorem modW_kids {k : Int} {tx : List UInt8} {n : Int} {ks : List Tr} {at_ : Int} (h : modR (.mk k tx n ks at_) = true) : fw (modW (.mk k tx n ks at_)) = fw (.row [.word [109, 111, 100, 117, 108, 101, 32], .word tx]) ++ fws (ks.map kidW) := by
 simp only [modR, Bool.and_eq_true, decide_eq_true_eq, beq_iff_eq] at h
 obtain ⟨⟨⟨-, h1⟩, -⟩, h2⟩ := h
 have e : (ks.take (ldg 2 ks)).map impW ++ (ks.drop (ldg 2 ks)).map letW = ks.map kidW := by
  conv => rhs; rw [← List.take_append_drop (ldg 2 ks) ks, List.map_append]
  congr 1
  ·apply List.map_congr_left
   intro x hx
   rw [kidW, brT_kd (List.all_eq_true.1 h1 x hx)]
   rfl
  ·apply List.map_congr_left
   intro x hx
   have h3 := List.all_eq_true.1 h2 x hx
   obtain ⟨k', tx', n', ks', at'⟩ := x
   simp only [letR, Bool.and_eq_true, beq_iff_eq] at h3
   rw [kidW, show (Tr.kd (.mk k' tx' n' ks' at') == 2) = false from by rw [Tr.kd, h3.1.1.1.1]; rfl]
   rfl
 rw [modW, e]
 simp only [fw, fws]
theorem letR_last {k : Int} {tx : List UInt8} {n : Int} {ks : List Tr} {at_ : Int} (h : letR (.mk k tx n ks at_) = true) : ∃ L x, ks.length = L + 1 ∧ L ≤ 8 ∧ ks[L]? = some x ∧ (ks.take L).all (brT 4) = true ∧ rt 100 x = true ∧ sml x = true ∧ k = 3 ∧ fre tx = true ∧ ldg 4 ks = L := by
 simp only [letR, Bool.and_eq_true, decide_eq_true_eq, beq_iff_eq] at h
 obtain ⟨⟨⟨⟨h1, h3⟩, h2⟩, h4, h5⟩, h6, h7⟩ := h
 obtain ⟨x, hx⟩ : ∃ x, ks[ks.length - 1]? = some x := ⟨_, List.getElem?_eq_getElem (by omega)⟩
 rw [hx] at h7
 have h7 : rxT x = true := h7
 rw [rxT, Bool.and_eq_true] at h7
 exact ⟨ks.length - 1, x, by omega, by omega, hx, h6, h7.1, h7.2, h1, h3, ldg_at (brT_all h6) (by omega) (fun t ht => by rw [hx] at ht; cases ht; exact rt_no4 h7.1)⟩
theorem wrs_params {ps : List Tr} (h : ps.all (brT 4) = true) : wrsOf ps = ps.map prmW := by
 rw [wrsOf_map]
 apply List.map_congr_left
 intro x hx
 have := brT_kd (List.all_eq_true.1 h x hx)
 obtain ⟨k', tx', n', ks', at'⟩ := x
 have : k' = 4 := by simpa [Tr.kd] using this
 subst this
 rfl
theorem letW_text {k : Int} {tx : List UInt8} {n : Int} {ks : List Tr} {at_ : Int} {L : Nat} {x : Tr} (hl : ks.length = L + 1) (hx : ks[L]? = some x) (hp : (ks.take L).all (brT 4) = true) (hd : ldg 4 ks = L) : fw (letW (.mk k tx n ks at_)) = [108, 101, 116, 32] ++ tx ++ (bif decide (0 < L) then [40] ++ fwl true (wrsOf (ks.take L)) ++ [41] else []) ++ [32, 61, 32] ++ fw (wrOf x) ++ [59, 10] := by
 have e : ks.getD L (.mk 0 [] 0 [] 0) = x := by rw [List.getD_eq_getElem?_getD, hx]; rfl
 rw [letW, hd, e, headW, ← wrs_params hp]
 cases L with
 | zero => simp [fw, fws]
 | succ L =>
  have : (ks.take (L + 1)).isEmpty = false := by
   cases ks with
   | nil => simp at hl
   | cons a b => rfl
  rw [this]
  simp [fw, fws]
seal wpList in
theorem rexprD_any {k : Int} {tx : List UInt8} {n : Int} {kids : List Tr} {at_ : Int} {w : World} {v : Value} (hok : Tr.Ok (.mk k tx n kids at_)) (hn : Nd w v (.mk k tx n kids at_)) : Calls Tryz.prog 13 #[v] w fun e w' => e = .returned (bif (rt 100 (.mk k tx n kids at_) && sml (.mk k tx n kids at_)) then .tuple #[strV (fw (wrOf (.mk k tx n kids at_))), .int .i64 0] else .tuple #[strV [], .int .i64 90]) ∧ Below w.heap.size w w' := by
 have HOK := hid hok
 have HN := hid hn
 have HN0 := hid hn
 have HB0 := hid (Below.refl w.heap.size w)
 have HNM := hid (nd_len hn)
 obtain ⟨a, c, rfl, -, -⟩ := hn.open
 clear hok hn
 obtain ⟨N, hN⟩ : ∃ N, kids.length = N := ⟨_, rfl⟩
 rw [hN] at HN HN0 HNM ⊢
 have HNN := hid hN
 clear hN
 go_enter Tryz.func13, Tryz.ntmps13
 go_upto_region 0 with fail
 refine rl ?_
 obtain ⟨w3, g1, (HX : Hid _), (K2 : Hid _), (HB4 : Hid _)⟩ := box_x 24 w #[(.int .i64 k), (strV tx), (.int .i64 n), (.slice a N c), (.int .i64 at_)]
 refine wp_run (v := (.pointer (some ⟨g1, 0, none⟩))) rfl rfl (run_boxOp rfl (by kernel_rfl) HX.out) rfl ?_
 try simp only [nA, nB, nC]
 replace HN := hid (HN.out.later HB4.out)
 replace HB0 := kb HB0 HB4
 refine qv (strV []) ?_
 refine qv (.int .i64 0) ?_
 simp only [nA, nB, nC]
 refine we ?_
 go_upto_region 1 with fail
 refine rl ?_
 refine qk (nv k tx n (.slice a N c) at_) Tryz.isAgg24 K2 ?_
 simp only [nA, nB, nC]
 rcases bt ((rt 100 (.mk k tx n kids at_) && sml (.mk k tx n kids at_))) with Hhb5 | Hhb5
 ·have HR := hid Hhb5.out
  refine qc #[(nv k tx n (.slice a N c) at_)] ?_
  have HCA := hid (rrightExpr_any HOK.out HN.out)
  refine HCA.out.mono ?_
  rintro e w6 ⟨he, hq⟩
  rw [Hhb5.out] at he
  subst he
  refine ⟨_, rfl, ?_⟩
  have HB7 := hid hq
  clear hq
  replace K2 := ka HB7 K2
  replace HN := hid (HN.out.later HB7.out)
  replace HB0 := kb HB0 HB7
  try simp only [Act.put, nA, nB, nC]
  refine qv (.bool true) ?_
  simp only [nA, nB, nC]
  refine we ?_
  go_upto_region 2 with fail
  refine rl ?_
  refine qv (.bool true) ?_
  simp only [nA, nB, nC]
  refine wp_y (v := (.bool false)) rfl rfl (y_un (p := .bool true) rfl (by kernel_rfl) (by kernel_rfl) (fun w => qnotB true w)) rfl ?_
  simp only [nA, nB, nC]
  refine we ?_
  go_upto_region 4 with fail
  refine rl ?_
  refine qk (nv k tx n (.slice a N c) at_) Tryz.isAgg24 K2 ?_
  simp only [nA, nB, nC]
  refine qc #[(nv k tx n (.slice a N c) at_)] ?_
  have HCA := hid (rform_any _ 100 (Bool.and_eq_true _ _ ▸ HR.out).1 (Bool.and_eq_true _ _ ▸ HR.out).2 _ _ HN.out)
  refine HCA.out.mono ?_
  rintro e w8 ⟨rfl, (HB9 : Hid _)⟩
  refine ⟨_, rfl, ?_⟩
  replace K2 := ka HB9 K2
  replace HN := hid (HN.out.later HB9.out)
  replace HB0 := kb HB0 HB9
  try simp only [Act.put, nA, nB, nC]
  refine qv (strV (fw (wrOf (.mk k tx n kids at_)))) ?_
  refine qv (.int .i64 0) ?_
  simp only [nA, nB, nC]
  refine we ?_
  go_wp2_with fail
  go_ret2
  exact ⟨by rw [HR.out]; rfl, HB0.out⟩
 ·have HR := hid Hhb5.out
  refine qc #[(nv k tx n (.slice a N c) at_)] ?_
  have HCA := hid (rrightExpr_any HOK.out HN.out)
  refine HCA.out.mono ?_
  rintro e w10 ⟨he, hq⟩
  rw [Hhb5.out] at he
  subst he
  refine ⟨_, rfl, ?_⟩
  have HB11 := hid hq
  clear hq
  replace K2 := ka HB11 K2
  replace HN := hid (HN.out.later HB11.out)
  replace HB0 := kb HB0 HB11
  try simp only [Act.put, nA, nB, nC]
  refine qv (.bool false) ?_
  simp only [nA, nB, nC]
  refine we ?_
  go_upto_region 2 with fail
  refine rl ?_
  refine qv (.bool false) ?_
  simp only [nA, nB, nC]
  refine wp_y (v := (.bool true)) rfl rfl (y_un (p := .bool false) rfl (by kernel_rfl) (by kernel_rfl) (fun w => qnotB false w)) rfl ?_
  simp only [nA, nB, nC]
  refine we ?_
  go_upto_region 3 with fail
  refine rl ?_
  refine qv (strV []) ?_
  refine qv (.int .i64 90) ?_
  simp only [nA, nB, nC]
  refine we ?_
  go_wp2_with fail
  go_ret2
  exact ⟨by rw [HR.out]; rfl, HB0.out⟩
theorem cl_kd {w : World} {b o : Nat} {k : Int} {tx : List UInt8} {n : Int} {s : Value} {at_ : Int} (h : Cl w b o (nv k tx n s at_)) : w.cell? ⟨b, o, none⟩ = some (.int .i64 k) := by
 obtain ⟨k', tx', n', s', at', e, h1⟩ := h
 unfold nv at e
 injection e with e
 simp at e
 rw [e.1]
 exact h1.1
seal wpList in
theorem rright0_any {k : Int} {tx : List UInt8} {n : Int} {kids : List Tr} {at_ : Int} {w : World} {v : Value} (hok : Tr.Ok (.mk k tx n kids at_)) (hn : Nd w v (.mk k tx n kids at_)) : Calls Tryz.prog 15 #[v] w fun e w' => e = .returned (.bool (modR (.mk k tx n kids at_))) ∧ Below w.heap.size w w' := by
 have HT := hid hok.text
 have HOK := hid hok
 have HN := hid hn
 have HN0 := hid hn
 have HB0 := hid (Below.refl w.heap.size w)
 have HNM := hid (nd_len hn)
 obtain ⟨a, c, rfl, -, -⟩ := hn.open
 clear hok hn
 obtain ⟨N, hN⟩ : ∃ N, kids.length = N := ⟨_, rfl⟩
 rw [hN] at HN HN0 HNM ⊢
 have HNN := hid hN
 clear hN
 obtain ⟨Z, hZ⟩ : ∃ Z, modR (.mk k tx n kids at_) = Z := ⟨_, rfl⟩
 rw [hZ]
 have HZ0 := hid hZ
 clear hZ
 go_enter Tryz.func15, Tryz.ntmps15
 go_upto_region 0 with fail
 refine rl ?_
 obtain ⟨w3, g1, (HX : Hid _), (K2 : Hid _), (HB4 : Hid _)⟩ := box_x 24 w #[(.int .i64 k), (strV tx), (.int .i64 n), (.slice a N c), (.int .i64 at_)]
 refine wp_run (v := (.pointer (some ⟨g1, 0, none⟩))) rfl rfl (run_boxOp rfl (by kernel_rfl) HX.out) rfl ?_
 try simp only [nA, nB, nC]
 replace HN := hid (HN.out.later HB4.out)
 replace HB0 := kb HB0 HB4
 refine qv (.bool false) ?_
 simp only [nA, nB, nC]
 refine we ?_
 go_upto_region 1 with fail
 refine rl ?_
 refine qf (fa_api_Node_1 g1 0) ?_
 refine ql (strV tx) Tryz.isAgg9 1 K2 ?_
 simp only [nA, nB, nC]
 rcases bt (fre tx) with Hhb5 | Hhb5
 ·refine wp_call (f := 31) (args := #[(strV tx)]) (by kernel_rfl) (fun w => by go_simp) ?_
  have HCA := hid (near_any tx w3 HT.out)
  refine HCA.out.mono ?_
  rintro e w6 ⟨he, hq⟩
  rw [Hhb5.out] at he
  subst he
  refine ⟨_, rfl, ?_⟩
  have HB7 := hid hq
  clear hq
  replace K2 := ka HB7 K2
  replace HN := hid (HN.out.later HB7.out)
  replace HB0 := kb HB0 HB7
  try simp only [Act.put, nA, nB, nC]
  refine qv (.bool true) ?_
  simp only [nA, nB, nC]
  refine we ?_
  go_upto_region 2 with fail
  refine rl ?_
  refine qk (nv k tx n (.slice a N c) at_) Tryz.isAgg24 K2 ?_
  simp only [nA, nB, nC]
  rcases bt (sml (.mk k tx n kids at_)) with Hhb8 | Hhb8
  ·refine wp_call (f := 20) (args := #[(nv k tx n (.slice a N c) at_)]) (by kernel_rfl) (fun w => by go_simp) ?_
   have HCA := hid (small_any HN.out)
   refine HCA.out.mono ?_
   rintro e w9 ⟨he, hq⟩
   rw [Hhb8.out] at he
   subst he
   refine ⟨_, rfl, ?_⟩
   have HB10 := hid hq
   clear hq
   replace K2 := ka HB10 K2
   replace HN := hid (HN.out.later HB10.out)
   replace HB0 := kb HB0 HB10
   try simp only [Act.put, nA, nB, nC]
   refine qv (.bool true) ?_
   simp only [nA, nB, nC]
   refine we ?_
   go_upto_region 3 with fail
   refine rl ?_
   refine qv (.bool true) ?_
   simp only [nA, nB, nC]
   refine wp_y (v := (.bool false)) rfl rfl (y_un (p := .bool true) rfl (by kernel_rfl) (by kernel_rfl) (fun w => qnotB true w)) rfl ?_
   simp only [nA, nB, nC]
   refine qv (.bool false) ?_
   simp only [nA, nB, nC]
   refine wp_yg (v := (.pointer (some ⟨g1, 0, none⟩))) rfl (y_faddr rfl (hf := fa_api_Node_0 g1 0)) rfl ?_
   try simp only [nA, nB, nC]
   refine wp_yg (v := (.int .i64 k)) rfl (y_load rfl (hl := fun w' h => by rw [h]; exact load1 Tryz.isAgg3 (cell_at K2.out 0 rfl))) rfl ?_
   try simp only [nA, nB, nC]
   rcases bt ((k != (1 : Int))) with Hhb11 | Hhb11
   ·refine wp_yg (v := (.bool true)) rfl (y_bin (k := .i64) (k' := .i64) (m := k) (n := 1) rfl (hr := bneq_int k 1 true Hhb11.out)) rfl ?_
    try simp only [nA, nB, nC]
    refine qv (.bool true) ?_
    refine qv (.bool true) ?_
    simp only [nA, nB, nC]
    refine qs rfl ?_
    simp only [nA, nB, nC]
    refine qs rfl ?_
    simp only [nA, nB, nC]
    refine qv (.bool true) ?_
    refine qv (.bool true) ?_
    simp only [nA, nB, nC]
    refine qs rfl ?_
    simp only [nA, nB, nC]
    refine qs rfl ?_
    simp only [nA, nB, nC]
    refine qs rfl ?_
    simp only [nA, nB, nC]
    refine qv (.bool true) ?_
    simp only [nA, nB, nC]
    refine we ?_
    go_upto_region 4 with fail
    refine rl ?_
    refine qv (.bool false) ?_
    simp only [nA, nB, nC]
    refine we ?_
    go_wp2_with fail
    go_ret
    have HZ : Z = false := by rw [← HZ0.out, modR, show (k == 1) = false by have h9 := Hhb11.out; simpa using h9]; simp
    exact ⟨congrArg (fun b => Ending.returned (.bool b)) HZ.symm, HB0.out⟩
   ·refine wp_yg (v := (.bool false)) rfl (y_bin (k := .i64) (k' := .i64) (m := k) (n := 1) rfl (hr := bneq_int k 1 false Hhb11.out)) rfl ?_
    try simp only [nA, nB, nC]
    refine qv (.bool false) ?_
    refine qv (.bool false) ?_
    simp only [nA, nB, nC]
    refine qg (.bool true) rfl ?_
    simp only [nA, nB, nC]
    refine wp_yg (v := (.bool false)) rfl (y_un (p := .bool true) rfl (by kernel_rfl) (by kernel_rfl) (fun w => qnotB true w)) rfl ?_
    try simp only [nA, nB, nC]
    refine qv (.bool false) ?_
    refine qv (.bool false) ?_
    simp only [nA, nB, nC]
    refine wp_yg (v := (.pointer (some ⟨g1, 2, none⟩))) rfl (y_faddr rfl (hf := fa_api_Node_2 g1 0)) rfl ?_
    try simp only [nA, nB, nC]
    refine wp_yg (v := (.int .i64 n)) rfl (y_load rfl (hl := fun w' h => by rw [h]; exact load1 Tryz.isAgg2 (cell_at K2.out 2 rfl))) rfl ?_
    try simp only [nA, nB, nC]
    rcases bt ((n != (0 : Int))) with Hhb12 | Hhb12
    ·refine wp_yg (v := (.bool true)) rfl (y_bin (k := .i64) (k' := .i64) (m := n) (n := 0) rfl (hr := bneq_int64 n 0 true Hhb12.out)) rfl ?_
     try simp only [nA, nB, nC]
     refine qv (.bool true) ?_
     simp only [nA, nB, nC]
     refine we ?_
     go_upto_region 4 with fail
     refine rl ?_
     refine qv (.bool false) ?_
     simp only [nA, nB, nC]
     refine we ?_
     go_wp2_with fail
     go_ret
     have HZ : Z = false := by rw [← HZ0.out, modR, show (n == (0 : Int)) = false by have h9 := Hhb12.out; simpa using h9]; simp
     exact ⟨congrArg (fun b => Ending.returned (.bool b)) HZ.symm, HB0.out⟩
    ·refine wp_yg (v := (.bool false)) rfl (y_bin (k := .i64) (k' := .i64) (m := n) (n := 0) rfl (hr := bneq_int64 n 0 false Hhb12.out)) rfl ?_
     try simp only [nA, nB, nC]
     refine qv (.bool false) ?_
     simp only [nA, nB, nC]
     refine we ?_
     go_upto_region 5 with fail
     refine rl ?_
     refine qv (.int .i64 0) ?_
     simp only [nA, nB, nC]
     refine we ?_
     go_wp2_with fail
     have HZE : Hid (Z = ((kids.take (ldg 2 kids)).all (brT 2) && (decide (ldg 2 kids ≤ 100) && decide (kids.length - ldg 2 kids ≤ 200)) && (kids.drop (ldg 2 kids)).all letR)) := hid (by rw [← HZ0.out, modR, Hhb8.out, Hhb5.out, show (k == 1) = true by have h9 := Hhb11.out; simpa using h9, show (n == (0 : Int)) = true by have h9 := Hhb12.out; simpa using h9]; rfl)
     go_loopw [5] (fun v5 wr => ∃ j : Nat, j ≤ N ∧ v5 = .int .i64 j ∧ (kids.take j).all (brT 2) = true ∧ Below w.heap.size w wr ∧ wr.heap[g1]? = some (.cells #[.int .i64 k, strV tx, .int .i64 n, .slice a N c, .int .i64 at_] 24 (0, 0))) (fun v5 _ => N - (intOf v5).toNat)
     case atStart =>
      exact ⟨0, Nat.zero_le _, rfl, by simp, HB0.out, K2.out⟩
     case round =>
      obtain ⟨j, hj, rfl, hal, hB, hk⟩ := hrel
      clear HB0
      have HAL := hid hal
      have HB0 := hid hB
      have KN := hid hk
      have HJJ := hid hj
      clear hal hB hk hj
      go_upto_region 6 with fail
      refine rl ?_
      refine qv (.int .i64 (((j : Nat) : Int))) ?_
      refine qf (fa_api_Node_3 g1 0) ?_
      refine ql (.slice a N c) Tryz.isAgg22 3 KN ?_
      simp only [nA, nB, nC]
      refine wp_y (v := (.int .i64 (((N : Nat) : Int)))) rfl rfl (y_lenT len_Sapi_Node (p := a) (n := N) (c := c) rfl (by kernel_rfl) (by kernel_rfl)) rfl ?_
      simp only [nA, nB, nC]
      rcases bt (decide (((j : Nat) : Int) < ((N : Nat) : Int))) with Hhb13 | Hhb13
      ·have HLT : Hid (j < N) := hid (by have := of_decide_eq_true Hhb13.out; omega)
       have HS1 := hid (wrap_next (N := N) HLT.out HNM.out)
       obtain ⟨t, ht⟩ : ∃ t, kids[j]? = some t := ⟨_, List.getElem?_eq_getElem (by rw [HNN.out]; exact HLT.out)⟩
       obtain ⟨b, o, k', tx', n', ks', at', a', c', ha, rfl, hcl, hnd⟩ := Nd.kid HN0.out ht
       have HA := hid ha
       clear ha
       have HOKK := hid (HOK.out.kid ht)
       have HJ := hid ht
       have HCL := hid (hcl.below HB0.out)
       have HNK := hid (hnd.later HB0.out)
       clear ht hcl hnd
       obtain ⟨N', hN'⟩ : ∃ x, ks'.length = x := ⟨_, rfl⟩
       rw [hN'] at HCL HNK
       have HNK0 := hid hN'
       clear hN'
       have HBR : Hid (∀ (w : World), Nd w (nv k' tx' n' (.slice a' N' c') at') (.mk k' tx' n' ks' at') → Calls Tryz.prog 32 #[nv k' tx' n' (.slice a' N' c') at', .int .i64 2] w fun e w' => e = .returned (.bool (brT 2 (.mk k' tx' n' ks' at'))) ∧ Below w.heap.size w w') := hid (fun w h => rbare_any h HOKK.out.text 2)
       refine qb (blss_int ((j : Nat) : Int) ((N : Nat) : Int) true Hhb13.out) ?_
       refine qv (.bool true) ?_
       simp only [nA, nB, nC]
       refine wp_yg (v := (.pointer (some ⟨g1, 3, none⟩))) rfl (y_faddr rfl (hf := fa_api_Node_3 g1 0)) rfl ?_
       try simp only [nA, nB, nC]
       refine wp_yg (v := (.slice a N c)) rfl (y_load rfl (hl := fun w' h => by rw [h]; exact load1 Tryz.isAgg22 (cell_at KN.out 3 rfl))) rfl ?_
       try simp only [nA, nB, nC]
       refine qg (.int .i64 (((j : Nat) : Int))) rfl ?_
       simp only [nA, nB, nC]
       refine wp_yg (v := (.pointer (some ⟨b, o + j * 5, none⟩))) rfl (y_index (p := (.slice a N c)) (k := (.int .i64 (((j : Nat) : Int)))) rfl (by kernel_rfl) (by kernel_rfl) (by kernel_rfl) (fun w => by rw [HA.out]; exact idx24 b o N c j HLT.out w)) rfl ?_
       try simp only [nA, nB, nC]
       refine wp_yg (v := (.pointer (some ⟨b, o + j * 5, none⟩))) rfl (y_faddr rfl (hf := fa_api_Node_0 b (o + j * 5))) rfl ?_
       try simp only [nA, nB, nC]
       refine wp_yg (v := (.int .i64 k')) rfl (y_load rfl (hl := fun w' h => by rw [h]; exact load1 Tryz.isAgg3 (cl_kd HCL.out))) rfl ?_
       try simp only [nA, nB, nC]
       rcases bt ((k' == (2 : Int))) with Hhb14 | Hhb14
       ·refine wp_yg (v := (.bool true)) rfl (y_bin (k := .i64) (k' := .i64) (m := k') (n := 2) rfl (hr := beql_int k' 2 true Hhb14.out)) rfl ?_
        try simp only [nA, nB, nC]
        refine qv (.bool true) ?_
        simp only [nA, nB, nC]
        refine we ?_
        go_upto_region 7 with fail
        refine rl ?_
        refine qf (fa_api_Node_3 g1 0) ?_
        refine ql (.slice a N c) Tryz.isAgg22 3 KN ?_
        refine qv (.int .i64 (((j : Nat) : Int))) ?_
        simp only [nA, nB, nC]
        refine wp_y (v := (.pointer (some ⟨b, o + j * 5, none⟩))) rfl rfl (y_index (p := (.slice a N c)) (k := (.int .i64 (((j : Nat) : Int)))) rfl (by kernel_rfl) (by kernel_rfl) (by kernel_rfl) (fun w => by rw [HA.out]; exact idx24 b o N c j HLT.out w)) rfl ?_
        simp only [nA, nB, nC]
        refine wp_y (v := (nv k' tx' n' (.slice a' N' c') at')) rfl rfl (y_load rfl (hl := fun w' h => by rw [h]; exact load24 HCL.out)) rfl ?_
        simp only [nA, nB, nC]
        rcases bt (brT 2 (.mk k' tx' n' ks' at')) with Hhb15 | Hhb15
        ·refine wp_call (f := 32) (args := #[(nv k' tx' n' (.slice a' N' c') at'), (.int .i64 2)]) (by kernel_rfl) (fun w => by go_simp) ?_
         have HCA := hid (HBR.out wr HNK.out)
         refine HCA.out.mono ?_
         rintro e w16 ⟨he, hq⟩
         rw [Hhb15.out] at he
         subst he
         refine ⟨_, rfl, ?_⟩
         have HB17 := hid hq
         clear hq
         replace KN := ka HB17 KN
         replace HNK := hid (HNK.out.later HB17.out)
         replace HCL := hid (Cl.below HCL.out HB17.out)
         replace HB0 := kb HB0 HB17
         try simp only [Act.put, nA, nB, nC]
         refine qv (.bool true) ?_
         simp only [nA, nB, nC]
         refine we ?_
         go_upto_region 8 with fail
         refine rl ?_
         refine qv (.bool true) ?_
         simp only [nA, nB, nC]
         refine wp_y (v := (.bool false)) rfl rfl (y_un (p := .bool true) rfl (by kernel_rfl) (by kernel_rfl) (fun w => qnotB true w)) rfl ?_
         simp only [nA, nB, nC]
         refine we ?_
         go_upto_region 10 with fail
         refine rl ?_
         refine qv (.int .i64 (((j : Nat) : Int))) ?_
         refine qb (badd_int ((j : Nat) : Int) 1 ((j + 1 : Nat) : Int) HS1.out) ?_
         refine qv (.int .i64 (((j + 1 : Nat) : Int))) ?_
         simp only [nA, nB, nC]
         refine we ?_
         go_wp2_with fail
         exact ⟨⟨j + 1, HLT.out, rfl, by rw [take_next HJ.out, List.all_append, HAL.out, List.all_cons, Hhb15.out]; rfl, HB0.out, KN.out⟩, by have := HLT.out; simp [intOf]; omega⟩
        ·have HZ : Hid (Z = false) := hid (by rw [HZE.out, all_take_no HJ.out (ldg_gt (brT_all HAL.out) HJ.out Hhb14.out) Hhb15.out]; rfl)
         refine qc #[(nv k' tx' n' (.slice a' N' c') at'), (.int .i64 2)] ?_
         have HCA := hid (HBR.out wr HNK.out)
         refine HCA.out.mono ?_
         rintro e w18 ⟨he, hq⟩
         rw [Hhb15.out] at he
         subst he
         refine ⟨_, rfl, ?_⟩
         have HB19 := hid hq
         clear hq
         replace KN := ka HB19 KN
         replace HNK := hid (HNK.out.later HB19.out)
         replace HCL := hid (Cl.below HCL.out HB19.out)
         replace HB0 := kb HB0 HB19
         try simp only [Act.put, nA, nB, nC]
         refine qv (.bool false) ?_
         simp only [nA, nB, nC]
         refine we ?_
         go_upto_region 8 with fail
         refine rl ?_
         refine qv (.bool false) ?_
         simp only [nA, nB, nC]
         refine wp_y (v := (.bool true)) rfl rfl (y_un (p := .bool false) rfl (by kernel_rfl) (by kernel_rfl) (fun w => qnotB false w)) rfl ?_
         simp only [nA, nB, nC]
         refine we ?_
         go_upto_region 9 with fail
         refine rl ?_
         refine qv (.bool false) ?_
         simp only [nA, nB, nC]
         refine we ?_
         go_wp2_with fail
         go_ret
         exact ⟨congrArg (fun b => Ending.returned (.bool b)) HZ.out.symm, HB0.out⟩
       ·have HLD : Hid (ldg 2 kids = j) := hid (ldg_at (brT_all HAL.out) (by rw [HNN.out]; exact HJJ.out) (fun t ht => by rw [HJ.out] at ht; cases ht; exact Hhb14.out))
        have HSB : Hid (IntKind.i64.wrap (((N : Nat) : Int) - ((j : Nat) : Int)) = (((N - j : Nat)) : Int)) := hid (by have h8 := HJJ.out; have h9 := HNM.out; rw [IntWalk.i64_in _ ⟨by omega, by omega⟩]; omega)
        have HZ1 : Hid (Z = ((decide (j ≤ 100) && decide (N - j ≤ 200)) && (kids.drop j).all letR)) := hid (by rw [HZE.out, HLD.out, HAL.out, Bool.true_and, HNN.out])
        refine wp_yg (v := (.bool false)) rfl (y_bin (k := .i64) (k' := .i64) (m := k') (n := 2) rfl (hr := beql_int k' 2 false Hhb14.out)) rfl ?_
        try simp only [nA, nB, nC]
        refine qv (.bool false) ?_
        simp only [nA, nB, nC]
        refine we ?_
        go_upto_region 11 with fail
        refine rl ?_
        refine qv (.int .i64 (((j : Nat) : Int))) ?_
        simp only [nA, nB, nC]
        rcases bt (decide ((100 : Int) < ((j : Nat) : Int))) with Hhb20 | Hhb20
        ·refine wp_y (v := (.bool true)) rfl rfl (y_bin (k := .i64) (k' := .i64) (m := ((j : Nat) : Int)) (n := 100) rfl (hr := bgtr_int ((j : Nat) : Int) 100 true Hhb20.out)) rfl ?_
         try simp only [nA, nB, nC]
         refine qv (.bool true) ?_
         simp only [nA, nB, nC]
         refine qs rfl ?_
         simp only [nA, nB, nC]
         refine qs rfl ?_
         simp only [nA, nB, nC]
         refine qs rfl ?_
         simp only [nA, nB, nC]
         refine qs rfl ?_
         simp only [nA, nB, nC]
         refine qs rfl ?_
         simp only [nA, nB, nC]
         refine qs rfl ?_
         simp only [nA, nB, nC]
         refine qv (.bool true) ?_
         simp only [nA, nB, nC]
         refine we ?_
         go_upto_region 12 with fail
         refine rl ?_
         refine qv (.bool false) ?_
         simp only [nA, nB, nC]
         refine we ?_
         go_wp2_with fail
         go_ret
         have HZ : Z = false := HZ1.out.trans (by rw [decide_eq_false (show ¬ j ≤ 100 by have h9 := of_decide_eq_true Hhb20.out; omega)]; rfl)
         exact ⟨congrArg (fun b => Ending.returned (.bool b)) HZ.symm, HB0.out⟩
        ·refine wp_y (v := (.bool false)) rfl rfl (y_bin (k := .i64) (k' := .i64) (m := ((j : Nat) : Int)) (n := 100) rfl (hr := bgtr_int ((j : Nat) : Int) 100 false Hhb20.out)) rfl ?_
         try simp only [nA, nB, nC]
         refine qv (.bool false) ?_
         simp only [nA, nB, nC]
         refine wp_yg (v := (.pointer (some ⟨g1, 3, none⟩))) rfl (y_faddr rfl (hf := fa_api_Node_3 g1 0)) rfl ?_
         try simp only [nA, nB, nC]
         refine wp_yg (v := (.slice a N c)) rfl (y_load rfl (hl := fun w' h => by rw [h]; exact load1 Tryz.isAgg22 (cell_at KN.out 3 rfl))) rfl ?_
         try simp only [nA, nB, nC]
         refine wp_yg (v := (.int .i64 (((N : Nat) : Int)))) rfl (y_lenT len_Sapi_Node (p := a) (n := N) (c := c) rfl (by kernel_rfl) (by kernel_rfl)) rfl ?_
         try simp only [nA, nB, nC]
         refine qg (.int .i64 (((j : Nat) : Int))) rfl ?_
         simp only [nA, nB, nC]
         refine wp_yg (v := (.int .i64 ((((N - j : Nat)) : Int)))) rfl (y_bin (k := .i64) (k' := .i64) (m := ((N : Nat) : Int)) (n := ((j : Nat) : Int)) rfl (hr := bsub_int ((N : Nat) : Int) ((j : Nat) : Int) (((N - j : Nat)) : Int) HSB.out)) rfl ?_
         try simp only [nA, nB, nC]
         rcases bt (decide ((200 : Int) < (((N - j : Nat)) : Int))) with Hhb21 | Hhb21
         ·refine wp_yg (v := (.bool true)) rfl (y_bin (k := .i64) (k' := .i64) (m := (((N - j : Nat)) : Int)) (n := 200) rfl (by kernel_rfl) (by kernel_rfl) (by kernel_rfl) (bgtr_int (((N - j : Nat)) : Int) 200 true Hhb21.out)) rfl ?_
          try simp only [nA, nB, nC]
          refine qv (.bool true) ?_
          simp only [nA, nB, nC]
          refine we ?_
          go_upto_region 12 with fail
          refine rl ?_
          refine qv (.bool false) ?_
          simp only [nA, nB, nC]
          refine we ?_
          go_wp2_with fail
          go_ret
          have HZ : Z = false := HZ1.out.trans (by rw [decide_eq_false (show ¬ N - j ≤ 200 by have h9 := of_decide_eq_true Hhb21.out; omega), Bool.and_false]; rfl)
          exact ⟨congrArg (fun b => Ending.returned (.bool b)) HZ.symm, HB0.out⟩
         ·refine wp_yg (v := (.bool false)) rfl (y_bin (k := .i64) (k' := .i64) (m := (((N - j : Nat)) : Int)) (n := 200) rfl (by kernel_rfl) (by kernel_rfl) (by kernel_rfl) (bgtr_int (((N - j : Nat)) : Int) 200 false Hhb21.out)) rfl ?_
          try simp only [nA, nB, nC]
          refine qv (.bool false) ?_
          simp only [nA, nB, nC]
          refine we ?_
          go_upto_region 13 with fail
          refine rl ?_
          refine qv (.int .i64 (((j : Nat) : Int))) ?_
          refine qv (.int .i64 (((j : Nat) : Int))) ?_
          simp only [nA, nB, nC]
          refine we ?_
          go_wp2_with fail
          have HZ2 : Hid (Z = (kids.drop j).all letR) := hid (by rw [HZ1.out, decide_eq_true (show j ≤ 100 by have h9 := of_decide_eq_false Hhb20.out; omega), decide_eq_true (show N - j ≤ 200 by have h9 := of_decide_eq_false Hhb21.out; omega)]; rfl)
          go_loopw [7] (fun v7 wq => ∃ i : Nat, j ≤ i ∧ i ≤ N ∧ v7 = .int .i64 i ∧ (∀ q x, j ≤ q → q < i → kids[q]? = some x → letR x = true) ∧ Below w.heap.size w wq ∧ wq.heap[g1]? = some (.cells #[.int .i64 k, strV tx, .int .i64 n, .slice a N c, .int .i64 at_] 24 (0, 0))) (fun v7 _ => N - (intOf v7).toNat)
          case atStart =>
           exact ⟨j, Nat.le_refl _, HJJ.out, rfl, fun q x h1 h2 => by omega, HB0.out, KN.out⟩
          case round =>
           obtain ⟨i, hji, hi, rfl, hai, hB, hk⟩ := hrel
           clear HB0 KN
           have HAI := hid hai
           have HB0 := hid hB
           have KN := hid hk
           have HII := hid hi
           have HJI := hid hji
           clear hai hB hk hi hji
           go_upto_region 14 with fail
           refine rl ?_
           refine qv (.int .i64 (((i : Nat) : Int))) ?_
           refine qf (fa_api_Node_3 g1 0) ?_
           refine ql (.slice a N c) Tryz.isAgg22 3 KN ?_
           simp only [nA, nB, nC]
           refine wp_y (v := (.int .i64 (((N : Nat) : Int)))) rfl rfl (y_lenT len_Sapi_Node (p := a) (n := N) (c := c) rfl (by kernel_rfl) (by kernel_rfl)) rfl ?_
           simp only [nA, nB, nC]
           rcases bt (decide (((i : Nat) : Int) < ((N : Nat) : Int))) with Hhb22 | Hhb22
           ·have HLT2 : Hid (i < N) := hid (by have := of_decide_eq_true Hhb22.out; omega)
            have HS2 := hid (wrap_next (N := N) HLT2.out HNM.out)
            obtain ⟨t, ht⟩ : ∃ t, kids[i]? = some t := ⟨_, List.getElem?_eq_getElem (by rw [HNN.out]; exact HLT2.out)⟩
            obtain ⟨b, o, k', tx', n', ks', at', a', c', ha, rfl, hcl, hnd⟩ := Nd.kid HN0.out ht
            have HA := hid ha
            clear ha
            have HOKK := hid (HOK.out.kid ht)
            have HJ := hid ht
            have HCL := hid (hcl.below HB0.out)
            have HNK := hid (hnd.later HB0.out)
            clear ht hcl hnd
            obtain ⟨N', hN'⟩ : ∃ x, ks'.length = x := ⟨_, rfl⟩
            rw [hN'] at HCL HNK
            have HNK0 := hid hN'
            clear hN'
            refine qb (blss_int ((i : Nat) : Int) ((N : Nat) : Int) true Hhb22.out) ?_
            simp only [nA, nB, nC]
            refine we ?_
            go_upto_region 16 with fail
            refine rl ?_
            refine qf (fa_api_Node_3 g1 0) ?_
            refine ql (.slice a N c) Tryz.isAgg22 3 KN ?_
            refine qv (.int .i64 (((i : Nat) : Int))) ?_
            simp only [nA, nB, nC]
            refine wp_y (v := (.pointer (some ⟨b, o + i * 5, none⟩))) rfl rfl (y_index (p := (.slice a N c)) (k := (.int .i64 (((i : Nat) : Int)))) rfl (by kernel_rfl) (by kernel_rfl) (by kernel_rfl) (fun w => by rw [HA.out]; exact idx24 b o N c i HLT2.out w)) rfl ?_
            simp only [nA, nB, nC]
            refine wp_y (v := (nv k' tx' n' (.slice a' N' c') at')) rfl rfl (y_load rfl (hl := fun w' h => by rw [h]; exact load24 HCL.out)) rfl ?_
            simp only [nA, nB, nC]
            rcases bt (letR (.mk k' tx' n' ks' at')) with Hhb23 | Hhb23
            ·refine wp_call (f := 33) (args := #[(nv k' tx' n' (.slice a' N' c') at')]) (by kernel_rfl) (fun w => by go_simp) ?_
             have HCA := hid (rlet_any HOKK.out HNK.out)
             refine HCA.out.mono ?_
             rintro e w24 ⟨he, hq⟩
             rw [Hhb23.out] at he
             subst he
             refine ⟨_, rfl, ?_⟩
             have HB25 := hid hq
             clear hq
             replace KN := ka HB25 KN
             replace HNK := hid (HNK.out.later HB25.out)
             replace HCL := hid (Cl.below HCL.out HB25.out)
             replace HB0 := kb HB0 HB25
             try simp only [Act.put, nA, nB, nC]
             refine qv (.bool true) ?_
             simp only [nA, nB, nC]
             refine we ?_
             go_upto_region 17 with fail
             refine rl ?_
             refine qv (.bool true) ?_
             simp only [nA, nB, nC]
             refine wp_y (v := (.bool false)) rfl rfl (y_un (p := .bool true) rfl (by kernel_rfl) (by kernel_rfl) (fun w => qnotB true w)) rfl ?_
             simp only [nA, nB, nC]
             refine we ?_
             go_upto_region 15 with fail
             refine rl ?_
             refine qv (.int .i64 (((i : Nat) : Int))) ?_
             refine qb (badd_int ((i : Nat) : Int) 1 ((i + 1 : Nat) : Int) HS2.out) ?_
             refine qv (.int .i64 (((i + 1 : Nat) : Int))) ?_
             simp only [nA, nB, nC]
             refine we ?_
             go_wp2_with fail
             exact ⟨⟨i + 1, Nat.le_trans HJI.out (Nat.le_succ _), HLT2.out, rfl, fun q x h1 h2 h3 => by
               by_cases hq : q = i
               ·subst hq; rw [HJ.out] at h3; cases h3; exact Hhb23.out
               ·exact HAI.out q x h1 (by omega) h3, HB0.out, KN.out⟩, by have := HLT2.out; simp [intOf]; omega⟩
            ·have HZ : Hid (Z = false) := hid (by rw [HZ2.out]; exact all_drop_no HJ.out HJI.out Hhb23.out)
             refine qc #[(nv k' tx' n' (.slice a' N' c') at')] ?_
             have HCA := hid (rlet_any HOKK.out HNK.out)
             refine HCA.out.mono ?_
             rintro e w26 ⟨he, hq⟩
             rw [Hhb23.out] at he
             subst he
             refine ⟨_, rfl, ?_⟩
             have HB27 := hid hq
             clear hq
             replace KN := ka HB27 KN
             replace HNK := hid (HNK.out.later HB27.out)
             replace HCL := hid (Cl.below HCL.out HB27.out)
             replace HB0 := kb HB0 HB27
             try simp only [Act.put, nA, nB, nC]
             refine qv (.bool false) ?_
             simp only [nA, nB, nC]
             refine we ?_
             go_upto_region 17 with fail
             refine rl ?_
             refine qv (.bool false) ?_
             simp only [nA, nB, nC]
             refine wp_y (v := (.bool true)) rfl rfl (y_un (p := .bool false) rfl (by kernel_rfl) (by kernel_rfl) (fun w => qnotB false w)) rfl ?_
             simp only [nA, nB, nC]
             refine we ?_
             go_upto_region 18 with fail
             refine rl ?_
             refine qv (.bool false) ?_
             simp only [nA, nB, nC]
             refine we ?_
             go_wp2_with fail
             go_ret
             exact ⟨congrArg (fun b => Ending.returned (.bool b)) HZ.out.symm, HB0.out⟩
           ·have HZ : Hid (Z = true) := hid (by rw [HZ2.out]; exact all_drop_yes (fun q x h1 h2 h3 => HAI.out q x h1 (by rw [HNN.out] at h2; have := of_decide_eq_false Hhb22.out; omega) h3))
            refine qb (blss_int ((i : Nat) : Int) ((N : Nat) : Int) false Hhb22.out) ?_
            simp only [nA, nB, nC]
            refine we ?_
            go_upto_region 19 with fail
            refine rl ?_
            refine qv (.bool true) ?_
            simp only [nA, nB, nC]
            refine we ?_
            go_wp2_with fail
            go_ret
            exact ⟨congrArg (fun b => Ending.returned (.bool b)) HZ.out.symm, HB0.out⟩
      ·have HLD : Hid (ldg 2 kids = j) := hid (ldg_at (brT_all HAL.out) (by rw [HNN.out]; exact HJJ.out) (fun t ht => by have h9 := (List.getElem?_eq_some_iff.1 ht).1; rw [HNN.out] at h9; have := of_decide_eq_false Hhb13.out; omega))
       have HSB : Hid (IntKind.i64.wrap (((N : Nat) : Int) - ((j : Nat) : Int)) = (((N - j : Nat)) : Int)) := hid (by have h8 := HJJ.out; have h9 := HNM.out; rw [IntWalk.i64_in _ ⟨by omega, by omega⟩]; omega)
       have HZ1 : Hid (Z = ((decide (j ≤ 100) && decide (N - j ≤ 200)) && (kids.drop j).all letR)) := hid (by rw [HZE.out, HLD.out, HAL.out, Bool.true_and, HNN.out])
       refine qb (blss_int ((j : Nat) : Int) ((N : Nat) : Int) false Hhb13.out) ?_
       refine qv (.bool false) ?_
       simp only [nA, nB, nC]
       refine qs rfl ?_
       simp only [nA, nB, nC]
       refine qs rfl ?_
       simp only [nA, nB, nC]
       refine qs rfl ?_
       simp only [nA, nB, nC]
       refine qs rfl ?_
       simp only [nA, nB, nC]
       refine qs rfl ?_
       simp only [nA, nB, nC]
       refine qs rfl ?_
       simp only [nA, nB, nC]
       refine qs rfl ?_
       simp only [nA, nB, nC]
       refine qv (.bool false) ?_
       simp only [nA, nB, nC]
       refine we ?_
       go_upto_region 11 with fail
       refine rl ?_
       refine qv (.int .i64 (((j : Nat) : Int))) ?_
       simp only [nA, nB, nC]
       rcases bt (decide ((100 : Int) < ((j : Nat) : Int))) with Hhb28 | Hhb28
       ·refine wp_y (v := (.bool true)) rfl rfl (y_bin (k := .i64) (k' := .i64) (m := ((j : Nat) : Int)) (n := 100) rfl (hr := bgtr_int ((j : Nat) : Int) 100 true Hhb28.out)) rfl ?_
        try simp only [nA, nB, nC]
        refine qv (.bool true) ?_
        simp only [nA, nB, nC]
        refine qs rfl ?_
        simp only [nA, nB, nC]
        refine qs rfl ?_
        simp only [nA, nB, nC]
        refine qs rfl ?_
        simp only [nA, nB, nC]
        refine qs rfl ?_
        simp only [nA, nB, nC]
        refine qs rfl ?_
        simp only [nA, nB, nC]
        refine qs rfl ?_
        simp only [nA, nB, nC]
        refine qv (.bool true) ?_
        simp only [nA, nB, nC]
        refine we ?_
        go_upto_region 12 with fail
        refine rl ?_
        refine qv (.bool false) ?_
        simp only [nA, nB, nC]
        refine we ?_
        go_wp2_with fail
        go_ret
        have HZ : Z = false := HZ1.out.trans (by rw [decide_eq_false (show ¬ j ≤ 100 by have h9 := of_decide_eq_true Hhb28.out; omega)]; rfl)
        exact ⟨congrArg (fun b => Ending.returned (.bool b)) HZ.symm, HB0.out⟩
       ·refine wp_y (v := (.bool false)) rfl rfl (y_bin (k := .i64) (k' := .i64) (m := ((j : Nat) : Int)) (n := 100) rfl (hr := bgtr_int ((j : Nat) : Int) 100 false Hhb28.out)) rfl ?_
        try simp only [nA, nB, nC]
        refine qv (.bool false) ?_
        simp only [nA, nB, nC]
        refine wp_yg (v := (.pointer (some ⟨g1, 3, none⟩))) rfl (y_faddr rfl (hf := fa_api_Node_3 g1 0)) rfl ?_
        try simp only [nA, nB, nC]
        refine wp_yg (v := (.slice a N c)) rfl (y_load rfl (hl := fun w' h => by rw [h]; exact load1 Tryz.isAgg22 (cell_at KN.out 3 rfl))) rfl ?_
        try simp only [nA, nB, nC]
        refine wp_yg (v := (.int .i64 (((N : Nat) : Int)))) rfl (y_lenT len_Sapi_Node (p := a) (n := N) (c := c) rfl (by kernel_rfl) (by kernel_rfl)) rfl ?_
        try simp only [nA, nB, nC]
        refine qg (.int .i64 (((j : Nat) : Int))) rfl ?_
        simp only [nA, nB, nC]
        refine wp_yg (v := (.int .i64 ((((N - j : Nat)) : Int)))) rfl (y_bin (k := .i64) (k' := .i64) (m := ((N : Nat) : Int)) (n := ((j : Nat) : Int)) rfl (hr := bsub_int ((N : Nat) : Int) ((j : Nat) : Int) (((N - j : Nat)) : Int) HSB.out)) rfl ?_
        try simp only [nA, nB, nC]
        rcases bt (decide ((200 : Int) < (((N - j : Nat)) : Int))) with Hhb29 | Hhb29
        ·refine wp_yg (v := (.bool true)) rfl (y_bin (k := .i64) (k' := .i64) (m := (((N - j : Nat)) : Int)) (n := 200) rfl (by kernel_rfl) (by kernel_rfl) (by kernel_rfl) (bgtr_int (((N - j : Nat)) : Int) 200 true Hhb29.out)) rfl ?_
         try simp only [nA, nB, nC]
         refine qv (.bool true) ?_
         simp only [nA, nB, nC]
         refine we ?_
         go_upto_region 12 with fail
         refine rl ?_
         refine qv (.bool false) ?_
         simp only [nA, nB, nC]
         refine we ?_
         go_wp2_with fail
         go_ret
         have HZ : Z = false := HZ1.out.trans (by rw [decide_eq_false (show ¬ N - j ≤ 200 by have h9 := of_decide_eq_true Hhb29.out; omega), Bool.and_false]; rfl)
         exact ⟨congrArg (fun b => Ending.returned (.bool b)) HZ.symm, HB0.out⟩
        ·refine wp_yg (v := (.bool false)) rfl (y_bin (k := .i64) (k' := .i64) (m := (((N - j : Nat)) : Int)) (n := 200) rfl (by kernel_rfl) (by kernel_rfl) (by kernel_rfl) (bgtr_int (((N - j : Nat)) : Int) 200 false Hhb29.out)) rfl ?_
         try simp only [nA, nB, nC]
         refine qv (.bool false) ?_
         simp only [nA, nB, nC]
         refine we ?_
         go_upto_region 13 with fail
         refine rl ?_
         refine qv (.int .i64 (((j : Nat) : Int))) ?_
         refine qv (.int .i64 (((j : Nat) : Int))) ?_
         simp only [nA, nB, nC]
         refine we ?_
         go_wp2_with fail
         have HZ2 : Hid (Z = (kids.drop j).all letR) := hid (by rw [HZ1.out, decide_eq_true (show j ≤ 100 by have h9 := of_decide_eq_false Hhb28.out; omega), decide_eq_true (show N - j ≤ 200 by have h9 := of_decide_eq_false Hhb29.out; omega)]; rfl)
         go_loopw [7] (fun v7 wq => ∃ i : Nat, j ≤ i ∧ i ≤ N ∧ v7 = .int .i64 i ∧ (∀ q x, j ≤ q → q < i → kids[q]? = some x → letR x = true) ∧ Below w.heap.size w wq ∧ wq.heap[g1]? = some (.cells #[.int .i64 k, strV tx, .int .i64 n, .slice a N c, .int .i64 at_] 24 (0, 0))) (fun v7 _ => N - (intOf v7).toNat)
         case atStart =>
          exact ⟨j, Nat.le_refl _, HJJ.out, rfl, fun q x h1 h2 => by omega, HB0.out, KN.out⟩
         case round =>
          obtain ⟨i, hji, hi, rfl, hai, hB, hk⟩ := hrel
          clear HB0 KN
          have HAI := hid hai
          have HB0 := hid hB
          have KN := hid hk
          have HII := hid hi
          have HJI := hid hji
          clear hai hB hk hi hji
          go_upto_region 14 with fail
          refine rl ?_
          refine qv (.int .i64 (((i : Nat) : Int))) ?_
          refine qf (fa_api_Node_3 g1 0) ?_
          refine ql (.slice a N c) Tryz.isAgg22 3 KN ?_
          simp only [nA, nB, nC]
          refine wp_y (v := (.int .i64 (((N : Nat) : Int)))) rfl rfl (y_lenT len_Sapi_Node (p := a) (n := N) (c := c) rfl (by kernel_rfl) (by kernel_rfl)) rfl ?_
          simp only [nA, nB, nC]
          rcases bt (decide (((i : Nat) : Int) < ((N : Nat) : Int))) with Hhb30 | Hhb30
          ·have HLT2 : Hid (i < N) := hid (by have := of_decide_eq_true Hhb30.out; omega)
           have HS2 := hid (wrap_next (N := N) HLT2.out HNM.out)
           obtain ⟨t, ht⟩ : ∃ t, kids[i]? = some t := ⟨_, List.getElem?_eq_getElem (by rw [HNN.out]; exact HLT2.out)⟩
           obtain ⟨b, o, k', tx', n', ks', at', a', c', ha, rfl, hcl, hnd⟩ := Nd.kid HN0.out ht
           have HA := hid ha
           clear ha
           have HOKK := hid (HOK.out.kid ht)
           have HJ := hid ht
           have HCL := hid (hcl.below HB0.out)
           have HNK := hid (hnd.later HB0.out)
           clear ht hcl hnd
           obtain ⟨N', hN'⟩ : ∃ x, ks'.length = x := ⟨_, rfl⟩
           rw [hN'] at HCL HNK
           have HNK0 := hid hN'
           clear hN'
           refine qb (blss_int ((i : Nat) : Int) ((N : Nat) : Int) true Hhb30.out) ?_
           simp only [nA, nB, nC]
           refine we ?_
           go_upto_region 16 with fail
           refine rl ?_
           refine qf (fa_api_Node_3 g1 0) ?_
           refine ql (.slice a N c) Tryz.isAgg22 3 KN ?_
           refine qv (.int .i64 (((i : Nat) : Int))) ?_
           simp only [nA, nB, nC]
           refine wp_y (v := (.pointer (some ⟨b, o + i * 5, none⟩))) rfl rfl (y_index (p := (.slice a N c)) (k := (.int .i64 (((i : Nat) : Int)))) rfl (by kernel_rfl) (by kernel_rfl) (by kernel_rfl) (fun w => by rw [HA.out]; exact idx24 b o N c i HLT2.out w)) rfl ?_
           simp only [nA, nB, nC]
           refine wp_y (v := (nv k' tx' n' (.slice a' N' c') at')) rfl rfl (y_load rfl (hl := fun w' h => by rw [h]; exact load24 HCL.out)) rfl ?_
           simp only [nA, nB, nC]
           rcases bt (letR (.mk k' tx' n' ks' at')) with Hhb31 | Hhb31
           ·refine wp_call (f := 33) (args := #[(nv k' tx' n' (.slice a' N' c') at')]) (by kernel_rfl) (fun w => by go_simp) ?_
            have HCA := hid (rlet_any HOKK.out HNK.out)
            refine HCA.out.mono ?_
            rintro e w32 ⟨he, hq⟩
            rw [Hhb31.out] at he
            subst he
            refine ⟨_, rfl, ?_⟩
            have HB33 := hid hq
            clear hq
            replace KN := ka HB33 KN
            replace HNK := hid (HNK.out.later HB33.out)
            replace HCL := hid (Cl.below HCL.out HB33.out)
            replace HB0 := kb HB0 HB33
            try simp only [Act.put, nA, nB, nC]
            refine qv (.bool true) ?_
            simp only [nA, nB, nC]
            refine we ?_
            go_upto_region 17 with fail
            refine rl ?_
            refine qv (.bool true) ?_
            simp only [nA, nB, nC]
            refine wp_y (v := (.bool false)) rfl rfl (y_un (p := .bool true) rfl (by kernel_rfl) (by kernel_rfl) (fun w => qnotB true w)) rfl ?_
            simp only [nA, nB, nC]
            refine we ?_
            go_upto_region 15 with fail
            refine rl ?_
            refine qv (.int .i64 (((i : Nat) : Int))) ?_
            refine qb (badd_int ((i : Nat) : Int) 1 ((i + 1 : Nat) : Int) HS2.out) ?_
            refine qv (.int .i64 (((i + 1 : Nat) : Int))) ?_
            simp only [nA, nB, nC]
            refine we ?_
            go_wp2_with fail
            exact ⟨⟨i + 1, Nat.le_trans HJI.out (Nat.le_succ _), HLT2.out, rfl, fun q x h1 h2 h3 => by
              by_cases hq : q = i
              ·subst hq; rw [HJ.out] at h3; cases h3; exact Hhb31.out
              ·exact HAI.out q x h1 (by omega) h3, HB0.out, KN.out⟩, by have := HLT2.out; simp [intOf]; omega⟩
           ·have HZ : Hid (Z = false) := hid (by rw [HZ2.out]; exact all_drop_no HJ.out HJI.out Hhb31.out)
            refine qc #[(nv k' tx' n' (.slice a' N' c') at')] ?_
            have HCA := hid (rlet_any HOKK.out HNK.out)
            refine HCA.out.mono ?_
            rintro e w34 ⟨he, hq⟩
            rw [Hhb31.out] at he
            subst he
            refine ⟨_, rfl, ?_⟩
            have HB35 := hid hq
            clear hq
            replace KN := ka HB35 KN
            replace HNK := hid (HNK.out.later HB35.out)
            replace HCL := hid (Cl.below HCL.out HB35.out)
            replace HB0 := kb HB0 HB35
            try simp only [Act.put, nA, nB, nC]
            refine qv (.bool false) ?_
            simp only [nA, nB, nC]
            refine we ?_
            go_upto_region 17 with fail
            refine rl ?_
            refine qv (.bool false) ?_
            simp only [nA, nB, nC]
            refine wp_y (v := (.bool true)) rfl rfl (y_un (p := .bool false) rfl (by kernel_rfl) (by kernel_rfl) (fun w => qnotB false w)) rfl ?_
            simp only [nA, nB, nC]
            refine we ?_
            go_upto_region 18 with fail
            refine rl ?_
            refine qv (.bool false) ?_
            simp only [nA, nB, nC]
            refine we ?_
            go_wp2_with fail
            go_ret
            exact ⟨congrArg (fun b => Ending.returned (.bool b)) HZ.out.symm, HB0.out⟩
          ·have HZ : Hid (Z = true) := hid (by rw [HZ2.out]; exact all_drop_yes (fun q x h1 h2 h3 => HAI.out q x h1 (by rw [HNN.out] at h2; have := of_decide_eq_false Hhb30.out; omega) h3))
           refine qb (blss_int ((i : Nat) : Int) ((N : Nat) : Int) false Hhb30.out) ?_
           simp only [nA, nB, nC]
           refine we ?_
           go_upto_region 19 with fail
           refine rl ?_
           refine qv (.bool true) ?_
           simp only [nA, nB, nC]
           refine we ?_
           go_wp2_with fail
           go_ret
           exact ⟨congrArg (fun b => Ending.returned (.bool b)) HZ.out.symm, HB0.out⟩
  ·refine wp_call (f := 20) (args := #[(nv k tx n (.slice a N c) at_)]) (by kernel_rfl) (fun w => by go_simp) ?_
   have HCA := hid (small_any HN.out)
   refine HCA.out.mono ?_
   rintro e w36 ⟨he, hq⟩
   rw [Hhb8.out] at he
   subst he
   refine ⟨_, rfl, ?_⟩
   have HB37 := hid hq
   clear hq
   replace K2 := ka HB37 K2
   replace HN := hid (HN.out.later HB37.out)
   replace HB0 := kb HB0 HB37
   try simp only [Act.put, nA, nB, nC]
   refine qv (.bool false) ?_
   simp only [nA, nB, nC]
   refine we ?_
   go_upto_region 3 with fail
   refine rl ?_
   refine qv (.bool false) ?_
   simp only [nA, nB, nC]
   refine wp_y (v := (.bool true)) rfl rfl (y_un (p := .bool false) rfl (by kernel_rfl) (by kernel_rfl) (fun w => qnotB false w)) rfl ?_
   simp only [nA, nB, nC]
   refine qv (.bool true) ?_
   simp only [nA, nB, nC]
   refine qs rfl ?_
   simp only [nA, nB, nC]
   refine qs rfl ?_
   simp only [nA, nB, nC]
   refine qs rfl ?_
   simp only [nA, nB, nC]
   refine qv (.bool true) ?_
   refine qv (.bool true) ?_
   simp only [nA, nB, nC]
   refine qs rfl ?_
   simp only [nA, nB, nC]
   refine qs rfl ?_
   simp only [nA, nB, nC]
   refine qv (.bool true) ?_
   refine qv (.bool true) ?_
   simp only [nA, nB, nC]
   refine qs rfl ?_
   simp only [nA, nB, nC]
   refine qs rfl ?_
   simp only [nA, nB, nC]
   refine qs rfl ?_
   simp only [nA, nB, nC]
   refine qv (.bool true) ?_
   simp only [nA, nB, nC]
   refine we ?_
   go_upto_region 4 with fail
   refine rl ?_
   refine qv (.bool false) ?_
   simp only [nA, nB, nC]
   refine we ?_
   go_wp2_with fail
   go_ret
   have HZ : Z = false := by rw [← HZ0.out, modR, Hhb8.out]; simp
   exact ⟨congrArg (fun b => Ending.returned (.bool b)) HZ.symm, HB0.out⟩
 ·refine wp_call (f := 31) (args := #[(strV tx)]) (by kernel_rfl) (fun w => by go_simp) ?_
  have HCA := hid (near_any tx w3 HT.out)
  refine HCA.out.mono ?_
  rintro e w38 ⟨he, hq⟩
  rw [Hhb5.out] at he
  subst he
  refine ⟨_, rfl, ?_⟩
  have HB39 := hid hq
  clear hq
  replace K2 := ka HB39 K2
  replace HN := hid (HN.out.later HB39.out)
  replace HB0 := kb HB0 HB39
  try simp only [Act.put, nA, nB, nC]
  refine qv (.bool false) ?_
  simp only [nA, nB, nC]
  refine we ?_
  go_upto_region 2 with fail
  refine rl ?_
  refine qk (nv k tx n (.slice a N c) at_) Tryz.isAgg24 K2 ?_
  simp only [nA, nB, nC]
  rcases bt (sml (.mk k tx n kids at_)) with Hhb40 | Hhb40
  ·refine wp_call (f := 20) (args := #[(nv k tx n (.slice a N c) at_)]) (by kernel_rfl) (fun w => by go_simp) ?_
   have HCA := hid (small_any HN.out)
   refine HCA.out.mono ?_
   rintro e w41 ⟨he, hq⟩
   rw [Hhb40.out] at he
   subst he
   refine ⟨_, rfl, ?_⟩
   have HB42 := hid hq
   clear hq
   replace K2 := ka HB42 K2
   replace HN := hid (HN.out.later HB42.out)
   replace HB0 := kb HB0 HB42
   try simp only [Act.put, nA, nB, nC]
   refine qv (.bool true) ?_
   simp only [nA, nB, nC]
   refine we ?_
   go_upto_region 3 with fail
   refine rl ?_
   refine qv (.bool true) ?_
   simp only [nA, nB, nC]
   refine wp_y (v := (.bool false)) rfl rfl (y_un (p := .bool true) rfl (by kernel_rfl) (by kernel_rfl) (fun w => qnotB true w)) rfl ?_
   simp only [nA, nB, nC]
   refine qv (.bool false) ?_
   simp only [nA, nB, nC]
   refine wp_yg (v := (.pointer (some ⟨g1, 0, none⟩))) rfl (y_faddr rfl (hf := fa_api_Node_0 g1 0)) rfl ?_
   try simp only [nA, nB, nC]
   refine wp_yg (v := (.int .i64 k)) rfl (y_load rfl (hl := fun w' h => by rw [h]; exact load1 Tryz.isAgg3 (cell_at K2.out 0 rfl))) rfl ?_
   try simp only [nA, nB, nC]
   rcases bt ((k != (1 : Int))) with Hhb43 | Hhb43
   ·refine wp_yg (v := (.bool true)) rfl (y_bin (k := .i64) (k' := .i64) (m := k) (n := 1) rfl (hr := bneq_int k 1 true Hhb43.out)) rfl ?_
    try simp only [nA, nB, nC]
    refine qv (.bool true) ?_
    refine qv (.bool true) ?_
    simp only [nA, nB, nC]
    refine qs rfl ?_
    simp only [nA, nB, nC]
    refine qs rfl ?_
    simp only [nA, nB, nC]
    refine qv (.bool true) ?_
    refine qv (.bool true) ?_
    simp only [nA, nB, nC]
    refine qs rfl ?_
    simp only [nA, nB, nC]
    refine qs rfl ?_
    simp only [nA, nB, nC]
    refine qs rfl ?_
    simp only [nA, nB, nC]
    refine qv (.bool true) ?_
    simp only [nA, nB, nC]
    refine we ?_
    go_upto_region 4 with fail
    refine rl ?_
    refine qv (.bool false) ?_
    simp only [nA, nB, nC]
    refine we ?_
    go_wp2_with fail
    go_ret
    have HZ : Z = false := by rw [← HZ0.out, modR, show (k == 1) = false by have h9 := Hhb43.out; simpa using h9]; simp
    exact ⟨congrArg (fun b => Ending.returned (.bool b)) HZ.symm, HB0.out⟩
   ·refine wp_yg (v := (.bool false)) rfl (y_bin (k := .i64) (k' := .i64) (m := k) (n := 1) rfl (hr := bneq_int k 1 false Hhb43.out)) rfl ?_
    try simp only [nA, nB, nC]
    refine qv (.bool false) ?_
    refine qv (.bool false) ?_
    simp only [nA, nB, nC]
    refine qg (.bool false) rfl ?_
    simp only [nA, nB, nC]
    refine wp_yg (v := (.bool true)) rfl (y_un (p := .bool false) rfl (by kernel_rfl) (by kernel_rfl) (fun w => qnotB false w)) rfl ?_
    try simp only [nA, nB, nC]
    refine qv (.bool true) ?_
    refine qv (.bool true) ?_
    simp only [nA, nB, nC]
    refine qs rfl ?_
    simp only [nA, nB, nC]
    refine qs rfl ?_
    simp only [nA, nB, nC]
    refine qs rfl ?_
    simp only [nA, nB, nC]
    refine qv (.bool true) ?_
    simp only [nA, nB, nC]
    refine we ?_
    go_upto_region 4 with fail
    refine rl ?_
    refine qv (.bool false) ?_
    simp only [nA, nB, nC]
    refine we ?_
    go_wp2_with fail
    go_ret
    have HZ : Z = false := by rw [← HZ0.out, modR, Hhb5.out]; simp
    exact ⟨congrArg (fun b => Ending.returned (.bool b)) HZ.symm, HB0.out⟩
  ·refine wp_call (f := 20) (args := #[(nv k tx n (.slice a N c) at_)]) (by kernel_rfl) (fun w => by go_simp) ?_
   have HCA := hid (small_any HN.out)
   refine HCA.out.mono ?_
   rintro e w44 ⟨he, hq⟩
   rw [Hhb40.out] at he
   subst he
   refine ⟨_, rfl, ?_⟩
   have HB45 := hid hq
   clear hq
   replace K2 := ka HB45 K2
   replace HN := hid (HN.out.later HB45.out)
   replace HB0 := kb HB0 HB45
   try simp only [Act.put, nA, nB, nC]
   refine qv (.bool false) ?_
   simp only [nA, nB, nC]
   refine we ?_
   go_upto_region 3 with fail
   refine rl ?_
   refine qv (.bool false) ?_
   simp only [nA, nB, nC]
   refine wp_y (v := (.bool true)) rfl rfl (y_un (p := .bool false) rfl (by kernel_rfl) (by kernel_rfl) (fun w => qnotB false w)) rfl ?_
   simp only [nA, nB, nC]
   refine qv (.bool true) ?_
   simp only [nA, nB, nC]
   refine qs rfl ?_
   simp only [nA, nB, nC]
   refine qs rfl ?_
   simp only [nA, nB, nC]
   refine qs rfl ?_
   simp only [nA, nB, nC]
   refine qv (.bool true) ?_
   refine qv (.bool true) ?_
   simp only [nA, nB, nC]
   refine qs rfl ?_
   simp only [nA, nB, nC]
   refine qs rfl ?_
   simp only [nA, nB, nC]
   refine qv (.bool true) ?_
   refine qv (.bool true) ?_
   simp only [nA, nB, nC]
   refine qs rfl ?_
   simp only [nA, nB, nC]
   refine qs rfl ?_
   simp only [nA, nB, nC]
   refine qs rfl ?_
   simp only [nA, nB, nC]
   refine qv (.bool true) ?_
   simp only [nA, nB, nC]
   refine we ?_
   go_upto_region 4 with fail
   refine rl ?_
   refine qv (.bool false) ?_
   simp only [nA, nB, nC]
   refine we ?_
   go_wp2_with fail
   go_ret
   have HZ : Z = false := by rw [← HZ0.out, modR, Hhb40.out]; simp
   exact ⟨congrArg (fun b => Ending.returned (.bool b)) HZ.symm, HB0.out⟩
def mdT (tx : List UInt8) (ks : List Tr) : List UInt8 := fw (.row [.word [109, 111, 100, 117, 108, 101, 32], .word tx]) ++ fws (ks.map kidW)
theorem mdT_next {tx : List UInt8} {ks : List Tr} {j : Nat} {x : Tr} (h : ks[j]? = some x) : mdT tx (ks.take (j + 1)) = mdT tx (ks.take j) ++ fw (kidW x) := by
 unfold mdT
 rw [take_next h, List.map_append, List.map_cons, List.map_nil, fws_snoc, List.append_assoc]
theorem mdT_le {k : Int} {tx : List UInt8} {n : Int} {ks : List Tr} {at_ : Int} (h : modR (.mk k tx n ks at_) = true) (j : Nat) : (mdT tx (ks.take j)).length ≤ 140737488355328 := by
 have h1 := modW_len (t := .mk k tx n ks at_) (by rw [modS_R]; exact h)
 rw [modW_kids h] at h1
 refine Nat.le_trans ?_ h1
 unfold mdT
 rw [List.length_append, List.length_append, List.map_take]
 have := fws_le (ks.map kidW) j
 omega
theorem params_len {ps : List Tr} (hp : ps.all (brT 4) = true) (hl : ps.length ≤ 8) : (fwl true (wrsOf ps)).length ≤ 4611686018427387904 := by
 have h1 := fwl_bound (B := 24) true (wrsOf ps) (fun x hx => by
  rw [wrs_params hp] at hx
  obtain ⟨y, hy, rfl⟩ := List.mem_map.1 hx
  exact brT_len (List.all_eq_true.1 hp y hy))
 rw [wrsOf_len] at h1
 have h2 : ps.length * (24 + 2) ≤ 8 * 26 := Nat.mul_le_mul_right _ hl
 omega
theorem mod_let {k : Int} {tx : List UInt8} {n : Int} {ks : List Tr} {at_ : Int} (h : modR (.mk k tx n ks at_) = true) {j : Nat} {x : Tr} (hj : ks[j]? = some x) (hx : (x.kd == 2) = false) : letR x = true := by
 simp only [modR, Bool.and_eq_true, decide_eq_true_eq, beq_iff_eq] at h
 obtain ⟨⟨⟨-, h1⟩, -⟩, h2⟩ := h
 by_cases hlt : j < ldg 2 ks
 ·have := brT_kd (List.all_eq_true.1 h1 x (List.mem_of_getElem? (i := j) (by rw [List.getElem?_take_of_lt hlt]; exact hj)))
  rw [hx] at this
  cases this
 ·exact List.all_eq_true.1 h2 x (List.mem_of_getElem? (i := j - ldg 2 ks) (by rw [List.getElem?_drop, show ldg 2 ks + (j - ldg 2 ks) = j by omega]; exact hj))
seal wpList in
theorem rmodule_any {k : Int} {tx : List UInt8} {n : Int} {kids : List Tr} {at_ : Int} {w : World} {v : Value} (hok : Tr.Ok (.mk k tx n kids at_)) (hn : Nd w v (.mk k tx n kids at_)) : Calls Tryz.prog 11 #[v] w fun e w' => e = .returned (bif modR (.mk k tx n kids at_) then .tuple #[strV (fw (modW (.mk k tx n kids at_))), .int .i64 0] else .tuple #[strV [], .int .i64 90]) ∧ Below w.heap.size w w' := by
 have HOK := hid hok
 have HN := hid hn
 have HN0 := hid hn
 have HB0 := hid (Below.refl w.heap.size w)
 have HNM := hid (nd_len hn)
 obtain ⟨a, c, rfl, -, -⟩ := hn.open
 clear hok hn
 obtain ⟨N, hN⟩ : ∃ N, kids.length = N := ⟨_, rfl⟩
 rw [hN] at HN HN0 HNM ⊢
 have HNN := hid hN
 clear hN
 go_enter Tryz.func11, Tryz.ntmps11
 go_upto_region 0 with fail
 refine rl ?_
 obtain ⟨w3, g1, (HX : Hid _), (K2 : Hid _), (HB4 : Hid _), (GV : Hid _)⟩ := box_g 24 w #[(.int .i64 k), (strV tx), (.int .i64 n), (.slice a N c), (.int .i64 at_)]
 have GE_g1 := kh HB0 GV
 refine wp_run (v := (.pointer (some ⟨g1, 0, none⟩))) rfl rfl (run_boxOp rfl (by kernel_rfl) HX.out) rfl ?_
 try simp only [nA, nB, nC]
 replace HN := hid (HN.out.later HB4.out)
 replace HB0 := kb HB0 HB4
 refine qv (strV []) ?_
 refine qv (.int .i64 0) ?_
 simp only [nA, nB, nC]
 refine we ?_
 go_upto_region 1 with fail
 refine rl ?_
 refine qk (nv k tx n (.slice a N c) at_) Tryz.isAgg24 K2 ?_
 simp only [nA, nB, nC]
 rcases bt (modR (.mk k tx n kids at_)) with Hhb5 | Hhb5
 ·have HR := hid Hhb5.out
  have HLW : Hid (tx.length ≤ 24) := hid (by have h9 := HR.out; simp only [modR, Bool.and_eq_true] at h9; exact fre_len h9.1.1.1.1.2)
  refine qc #[(nv k tx n (.slice a N c) at_)] ?_
  have HCA := hid (rright0_any HOK.out HN.out)
  refine HCA.out.mono ?_
  rintro e w6 ⟨he, hq⟩
  rw [Hhb5.out] at he
  subst he
  refine ⟨_, rfl, ?_⟩
  have HB7 := hid hq
  clear hq
  replace K2 := ka HB7 K2
  replace HN := hid (HN.out.later HB7.out)
  replace HB0 := kb HB0 HB7
  try simp only [Act.put, nA, nB, nC]
  refine qv (.bool true) ?_
  simp only [nA, nB, nC]
  refine we ?_
  go_upto_region 2 with fail
  refine rl ?_
  refine qv (.bool true) ?_
  simp only [nA, nB, nC]
  refine wp_y (v := (.bool false)) rfl rfl (y_un (p := .bool true) rfl (by kernel_rfl) (by kernel_rfl) (fun w => qnotB true w)) rfl ?_
  simp only [nA, nB, nC]
  refine we ?_
  go_upto_region 4 with fail
  refine rl ?_
  refine qf (fa_api_Node_1 g1 0) ?_
  refine ql (strV tx) Tryz.isAgg9 1 K2 ?_
  simp only [nA, nB, nC]
  refine wp_y (v := (strV ([109, 111, 100, 117, 108, 101, 32] ++ tx))) rfl rfl (y_addS (l := [109, 111, 100, 117, 108, 101, 32]) (m := tx) rfl (by kernel_rfl) (by kernel_rfl) (by kernel_rfl) (by have := HLW.out; first | omega | (simp only [List.length_cons, List.length_nil] at this ⊢; omega))) rfl ?_
  simp only [nA, nB, nC]
  refine wp_y (v := (strV ([109, 111, 100, 117, 108, 101, 32] ++ tx ++ [59, 10]))) rfl rfl (y_addS (l := [109, 111, 100, 117, 108, 101, 32] ++ tx) (m := [59, 10]) rfl (by kernel_rfl) (by kernel_rfl) (by kernel_rfl) (by have := HLW.out; first | omega | (simp only [List.length_append, List.length_cons, List.length_nil] at this ⊢; omega))) rfl ?_
  simp only [nA, nB, nC]
  refine qv (strV ([109, 111, 100, 117, 108, 101, 32] ++ tx ++ [59, 10])) ?_
  simp only [nA, nB, nC]
  refine we ?_
  go_upto_region 5 with fail
  refine rl ?_
  refine qv (.int .i64 0) ?_
  simp only [nA, nB, nC]
  refine we ?_
  go_wp2_with fail
  have HG1 := hid GE_g1.out
  go_loopw [6, 5] (fun v6 v5 wr => ∃ j : Nat, j ≤ N ∧ v6 = .int .i64 j ∧ v5 = strV (mdT tx (kids.take j)) ∧ Below w.heap.size w wr ∧ wr.heap[g1]? = some (.cells #[.int .i64 k, strV tx, .int .i64 n, .slice a N c, .int .i64 at_] 24 (0, 0))) (fun v6 _ _ => N - (intOf v6).toNat)
  case atStart =>
   exact ⟨0, Nat.zero_le _, rfl, congrArg strV (by simp [mdT, fw, fws]), HB0.out, K2.out⟩
  case round =>
   obtain ⟨j, hj, rfl, rfl, hB, hk⟩ := hrel
   clear HB0
   have HB0 := hid hB
   have KN := hid hk
   have HJJ := hid hj
   clear hB hk hj
   have GE_g1 := hid HG1.out
   go_upto_region 6 with fail
   refine rl ?_
   refine qv (.int .i64 (((j : Nat) : Int))) ?_
   refine qf (fa_api_Node_3 g1 0) ?_
   refine ql (.slice a N c) Tryz.isAgg22 3 KN ?_
   simp only [nA, nB, nC]
   refine wp_y (v := (.int .i64 (((N : Nat) : Int)))) rfl rfl (y_lenT len_Sapi_Node (p := a) (n := N) (c := c) rfl (by kernel_rfl) (by kernel_rfl)) rfl ?_
   simp only [nA, nB, nC]
   rcases bt (decide (((j : Nat) : Int) < ((N : Nat) : Int))) with Hhb8 | Hhb8
   ·have HLT : Hid (j < N) := hid (by have := of_decide_eq_true Hhb8.out; omega)
    have HS1 := hid (wrap_next (N := N) HLT.out HNM.out)
    obtain ⟨t, ht⟩ : ∃ t, kids[j]? = some t := ⟨_, List.getElem?_eq_getElem (by rw [HNN.out]; exact HLT.out)⟩
    obtain ⟨b, o, k', tx', n', ks', at', a', c', ha, rfl, hcl, hnd⟩ := Nd.kid HN0.out ht
    have HA := hid ha
    have HJ := hid ht
    have HCL := hid (hcl.below HB0.out)
    have HNK := hid (hnd.later HB0.out)
    clear ht hcl hnd ha
    obtain ⟨N', hN'⟩ : ∃ x, ks'.length = x := ⟨_, rfl⟩
    rw [hN'] at HCL HNK
    have HNK0 := hid hN'
    clear hN'
    have HNX := hid (mdT_next (tx := tx) HJ.out)
    have HLW : Hid ((mdT tx (kids.take j) ++ fw (kidW (.mk k' tx' n' ks' at'))).length ≤ 140737488355328) := hid (by rw [← HNX.out]; exact mdT_le HR.out (j + 1))
    obtain ⟨mt, hmt⟩ : ∃ x, mdT tx (kids.take j) = x := ⟨_, rfl⟩
    have HMT := hid hmt
    rw [hmt] at HNX HLW ⊢
    clear hmt
    refine qb (blss_int ((j : Nat) : Int) ((N : Nat) : Int) true Hhb8.out) ?_
    simp only [nA, nB, nC]
    refine we ?_
    go_upto_region 8 with fail
    refine rl ?_
    refine qf (fa_api_Node_3 g1 0) ?_
    refine ql (.slice a N c) Tryz.isAgg22 3 KN ?_
    refine qv (.int .i64 (((j : Nat) : Int))) ?_
    simp only [nA, nB, nC]
    refine wp_y (v := (.pointer (some ⟨b, o + j * 5, none⟩))) rfl rfl (y_index (p := (.slice a N c)) (k := (.int .i64 (((j : Nat) : Int)))) rfl (by kernel_rfl) (by kernel_rfl) (by kernel_rfl) (fun w => by rw [HA.out]; exact idx24 b o N c j HLT.out w)) rfl ?_
    simp only [nA, nB, nC]
    refine wp_y (v := (nv k' tx' n' (.slice a' N' c') at')) rfl rfl (y_load rfl (hl := fun w' h => by rw [h]; exact load24 HCL.out)) rfl ?_
    simp only [nA, nB, nC]
    obtain ⟨wv, w11, g9, hx1, hx2, hbk, hbb, hge⟩ := var_api_Node wr k' tx' n' a' N' c' at'
    have K10 := hid hbk
    have HBV := hid hbb
    have HX1 := hid hx1
    have HX2 := hid hx2
    have GV := hid hge
    clear hx1 hx2 hbk hbb hge
    refine wp_run (v := (.pointer (some ⟨g9, 0, none⟩))) rfl rfl (run_alOp rfl HX1.out) rfl ?_
    try simp only [nA, nB, nC]
    refine wp_do rfl rfl (run_storeOp rfl (by kernel_rfl) (by kernel_rfl) HX2.out) ?_
    try simp only [nA, nB, nC]
    clear HX1 HX2
    have NE_g1_g9 := kn KN GV
    have GE_g9 := kh HB0 GV
    replace KN := ka HBV KN
    replace HNK := hid (HNK.out.later HBV.out)
    replace HCL := hid (Cl.below HCL.out HBV.out)
    replace HB0 := kb HB0 HBV
    clear HBV GV
    refine we ?_
    go_upto_region 9 with fail
    refine rl ?_
    refine qf (fa_api_Node_0 g9 0) ?_
    refine ql (.int .i64 k') Tryz.isAgg3 0 K10 ?_
    simp only [nA, nB, nC]
    rcases bt ((k' == (2 : Int))) with Hhb12 | Hhb12
    ·have HKW : Hid (fw (kidW (.mk k' tx' n' ks' at')) = [105, 109, 112, 111, 114, 116, 32] ++ tx' ++ [59, 10]) := hid (by unfold kidW; simp only [show (Tr.kd (.mk k' tx' n' ks' at') == 2) = true from Hhb12.out, cond_true, impW, fw, fws, List.append_nil])
     rw [HKW.out] at HNX HLW
     refine qb (beql_int k' 2 true Hhb12.out) ?_
     simp only [nA, nB, nC]
     refine we ?_
     go_upto_region 10 with fail
     refine rl ?_
     refine qv (strV mt) ?_
     simp only [nA, nB, nC]
     refine wp_y (v := (strV (mt ++ [105, 109, 112, 111, 114, 116, 32]))) rfl rfl (y_addS (l := mt) (m := [105, 109, 112, 111, 114, 116, 32]) rfl (by kernel_rfl) (by kernel_rfl) (by kernel_rfl) (by have := HLW.out; first | omega | (simp only [List.length_append, List.length_cons, List.length_nil] at this ⊢; omega))) rfl ?_
     simp only [nA, nB, nC]
     refine qf (fa_api_Node_1 g9 0) ?_
     refine ql (strV tx') Tryz.isAgg9 1 K10 ?_
     simp only [nA, nB, nC]
     refine wp_y (v := (strV (mt ++ [105, 109, 112, 111, 114, 116, 32] ++ tx'))) rfl rfl (y_addS (l := mt ++ [105, 109, 112, 111, 114, 116, 32]) (m := tx') rfl (by kernel_rfl) (by kernel_rfl) (by kernel_rfl) (by have := HLW.out; first | omega | (simp only [List.length_append, List.length_cons, List.length_nil] at this ⊢; omega))) rfl ?_
     simp only [nA, nB, nC]
     refine wp_y (v := (strV (mt ++ [105, 109, 112, 111, 114, 116, 32] ++ tx' ++ [59, 10]))) rfl rfl (y_addS (l := mt ++ [105, 109, 112, 111, 114, 116, 32] ++ tx') (m := [59, 10]) rfl (by kernel_rfl) (by kernel_rfl) (by kernel_rfl) (by have := HLW.out; first | omega | (simp only [List.length_append, List.length_cons, List.length_nil] at this ⊢; omega))) rfl ?_
     simp only [nA, nB, nC]
     refine qv (strV (mt ++ [105, 109, 112, 111, 114, 116, 32] ++ tx' ++ [59, 10])) ?_
     simp only [nA, nB, nC]
     refine we ?_
     go_upto_region 7 with fail
     refine rl ?_
     refine qv (.int .i64 (((j : Nat) : Int))) ?_
     refine qb (badd_int ((j : Nat) : Int) 1 ((j + 1 : Nat) : Int) HS1.out) ?_
     refine qv (.int .i64 (((j + 1 : Nat) : Int))) ?_
     simp only [nA, nB, nC]
     refine we ?_
     go_wp2_with fail
     exact ⟨⟨j + 1, HLT.out, rfl, congrArg strV (by rw [HNX.out]; try simp), HB0.out, KN.out⟩, by have := HLT.out; simp [intOf]; omega⟩
    ·obtain ⟨L, x, hl1, hl2, hx, hp, hrt, hsm, -, -, hld⟩ := letR_last (mod_let HR.out HJ.out Hhb12.out)
     have HKW : Hid (fw (kidW (.mk k' tx' n' ks' at')) = [108, 101, 116, 32] ++ tx' ++ (bif decide (0 < L) then [40] ++ fwl true (wrsOf (ks'.take L)) ++ [41] else []) ++ [32, 61, 32] ++ fw (wrOf x) ++ [59, 10]) := hid ((congrArg fw (show kidW (.mk k' tx' n' ks' at') = letW (.mk k' tx' n' ks' at') from by unfold kidW; simp only [show (Tr.kd (.mk k' tx' n' ks' at') == 2) = false from Hhb12.out, cond_false])).trans (letW_text hl1 hx hp hld))
     rw [HKW.out] at HNX HLW
     obtain ⟨b2, o2, k2, tx2, n2, xs2, at2, a2, c2, ha2, rfl, hcl2, hnd2⟩ := Nd.kid HNK.out hx
     have HA2 := hid ha2
     have HCL2 := hid hcl2
     have HNK2 := hid hnd2
     obtain ⟨N2, hN2⟩ : ∃ x, xs2.length = x := ⟨_, rfl⟩
     rw [hN2] at HCL2 HNK2
     clear ha2 hcl2 hnd2 hN2
     have HF2 := hid (rform_any _ 100 hrt hsm)
     have HFL : Hid (∀ t ∈ ks'.take L, FP t) := hid (fun t ht => rparam_any (List.all_eq_true.1 hp t ht))
     have HLL : Hid ((fwl true (wrsOf (ks'.take L))).length ≤ 4611686018427387904) := hid (params_len hp (by rw [List.length_take]; omega))
     have HNL : Hid (N' = L + 1) := hid (by rw [← HNK0.out]; exact hl1)
     have HL8 := hid hl2
     have HSL : Hid (IntKind.i64.wrap (((N' : Nat) : Int) - 1) = ((L : Nat) : Int)) := hid (by have h1 := HNL.out; have h2 := HL8.out; rw [IntWalk.i64_in _ ⟨by omega, by omega⟩]; omega)
     obtain ⟨a3, c3, a4, c4, hs1, -, hs3⟩ := Kds.split HNK.out.kds (L := L) (by have h1 := HNL.out; rw [HNK0.out]; omega)
     have HSP := hid hs1
     have HSK := hid hs3
     clear hs1 hs3 hl1 hl2 hx hp hrt hsm hld
     obtain ⟨sl, hsl⟩ : ∃ x, [40] ++ fwl true (wrsOf (ks'.take L)) ++ [41] = x := ⟨_, rfl⟩
     have HSL2 := hid hsl
     rw [hsl] at HKW HNX HLW
     clear hsl
     obtain ⟨sx, hsx⟩ : ∃ x, fw (wrOf (.mk k2 tx2 n2 xs2 at2)) = x := ⟨_, rfl⟩
     have HSX := hid hsx
     rw [hsx] at HKW HNX HLW
     clear hsx
     refine qb (beql_int k' 2 false Hhb12.out) ?_
     simp only [nA, nB, nC]
     refine we ?_
     go_upto_region 11 with fail
     refine rl ?_
     refine qv (strV mt) ?_
     simp only [nA, nB, nC]
     refine wp_y (v := (strV (mt ++ [108, 101, 116, 32]))) rfl rfl (y_addS (l := mt) (m := [108, 101, 116, 32]) rfl (by kernel_rfl) (by kernel_rfl) (by kernel_rfl) (by have := HLW.out; first | omega | (simp only [List.length_append, List.length_cons, List.length_nil] at this ⊢; omega))) rfl ?_
     simp only [nA, nB, nC]
     refine qf (fa_api_Node_1 g9 0) ?_
     refine ql (strV tx') Tryz.isAgg9 1 K10 ?_
     simp only [nA, nB, nC]
     refine wp_y (v := (strV (mt ++ [108, 101, 116, 32] ++ tx'))) rfl rfl (y_addS (l := mt ++ [108, 101, 116, 32]) (m := tx') rfl (by kernel_rfl) (by kernel_rfl) (by kernel_rfl) (by have := HLW.out; first | omega | (simp only [List.length_append, List.length_cons, List.length_nil] at this ⊢; omega))) rfl ?_
     simp only [nA, nB, nC]
     refine qv (strV (mt ++ [108, 101, 116, 32] ++ tx')) ?_
     simp only [nA, nB, nC]
     refine we ?_
     go_upto_region 12 with fail
     refine rl ?_
     refine qf (fa_api_Node_3 g9 0) ?_
     refine ql (.slice (a') N' c') Tryz.isAgg22 3 K10 ?_
     simp only [nA, nB, nC]
     refine wp_y (v := (.int .i64 (((N' : Nat) : Int)))) rfl rfl (y_lenT len_Sapi_Node (p := a') (n := N') (c := c') rfl (by kernel_rfl) (by kernel_rfl)) rfl ?_
     simp only [nA, nB, nC]
     refine qb (bsub_int ((N' : Nat) : Int) 1 ((L : Nat) : Int) HSL.out) ?_
     refine qv (.int .i64 (((L : Nat) : Int))) ?_
     simp only [nA, nB, nC]
     refine we ?_
     go_upto_region 13 with fail
     refine rl ?_
     refine qv (.int .i64 (((L : Nat) : Int))) ?_
     simp only [nA, nB, nC]
     rcases bt (decide ((0 : Int) < ((L : Nat) : Int))) with Hhb13 | Hhb13
     ·have HDL : Hid (decide (0 < L) = true) := hid (by rw [← Hhb13.out]; exact decide_eq_decide.2 (by omega))
      rw [HDL.out] at HKW HNX HLW
      refine qb (bgtr_int ((L : Nat) : Int) 0 true Hhb13.out) ?_
      simp only [nA, nB, nC]
      refine we ?_
      go_upto_region 14 with fail
      refine rl ?_
      refine qv (strV (mt ++ [108, 101, 116, 32] ++ tx')) ?_
      refine qf (fa_api_Node_3 g9 0) ?_
      refine ql (.slice (a') N' c') Tryz.isAgg22 3 K10 ?_
      refine qv (.int .i64 (((L : Nat) : Int))) ?_
      simp only [nA, nB, nC]
      refine wp_y (v := (.slice a3 L c3)) rfl rfl (y_slice rfl (by kernel_rfl) (by kernel_rfl) (by kernel_rfl) (by kernel_rfl) (by kernel_rfl) HSP.out) rfl ?_
      simp only [nA, nB, nC]
      refine qc #[(.slice a3 L c3)] ?_
      have HCA := hid (rlist_any (ks := ks'.take L) HFL.out HLL.out (HSK.out _ HNK.out.kds).1)
      refine HCA.out.mono ?_
      rintro e w14 ⟨he, hq⟩
      rw [HSL2.out] at he
      subst he
      refine ⟨_, rfl, ?_⟩
      have HB15 := hid hq
      clear hq
      replace KN := ka HB15 KN
      replace K10 := ka HB15 K10
      replace HNK := hid (HNK.out.later HB15.out)
      replace HCL := hid (Cl.below HCL.out HB15.out)
      replace HCL2 := hid (Cl.below HCL2.out HB15.out)
      replace HNK2 := hid (HNK2.out.later HB15.out)
      replace HB0 := kb HB0 HB15
      try simp only [Act.put, nA, nB, nC]
      refine wp_y (v := (strV (mt ++ [108, 101, 116, 32] ++ tx' ++ sl))) rfl rfl (y_addS (l := mt ++ [108, 101, 116, 32] ++ tx') (m := sl) rfl (by kernel_rfl) (by kernel_rfl) (by kernel_rfl) (by have := HLW.out; first | omega | (simp only [List.length_append, List.length_cons, List.length_nil, cond_true] at this ⊢; omega))) rfl ?_
      simp only [nA, nB, nC]
      refine qv (strV (mt ++ [108, 101, 116, 32] ++ tx' ++ sl)) ?_
      simp only [nA, nB, nC]
      refine we ?_
      go_upto_region 15 with fail
      refine rl ?_
      refine qv (strV (mt ++ [108, 101, 116, 32] ++ tx' ++ sl)) ?_
      simp only [nA, nB, nC]
      refine wp_y (v := (strV (mt ++ [108, 101, 116, 32] ++ tx' ++ sl ++ [32, 61, 32]))) rfl rfl (y_addS (l := mt ++ [108, 101, 116, 32] ++ tx' ++ sl) (m := [32, 61, 32]) rfl (by kernel_rfl) (by kernel_rfl) (by kernel_rfl) (by have := HLW.out; first | omega | (simp only [List.length_append, List.length_cons, List.length_nil, cond_true] at this ⊢; omega))) rfl ?_
      simp only [nA, nB, nC]
      refine qf (fa_api_Node_3 g9 0) ?_
      refine ql (.slice (a') N' c') Tryz.isAgg22 3 K10 ?_
      refine qv (.int .i64 (((L : Nat) : Int))) ?_
      simp only [nA, nB, nC]
      refine wp_y (v := (.pointer (some ⟨b2, o2 + L * 5, none⟩))) rfl rfl (y_index (p := (.slice (a') N' c')) (k := (.int .i64 (((L : Nat) : Int)))) rfl (by kernel_rfl) (by kernel_rfl) (by kernel_rfl) (fun w => by rw [HA2.out]; exact idx24 b2 o2 N' c' L (by have := HNL.out; omega) w)) rfl ?_
      simp only [nA, nB, nC]
      refine wp_y (v := (nv k2 tx2 n2 (.slice a2 N2 c2) at2)) rfl rfl (y_load rfl (hl := fun w' h => by rw [h]; exact load24 HCL2.out)) rfl ?_
      simp only [nA, nB, nC]
      refine qc #[(nv k2 tx2 n2 (.slice a2 N2 c2) at2)] ?_
      have HCA := hid (HF2.out w14 _ HNK2.out)
      refine HCA.out.mono ?_
      rintro e w16 ⟨he, hq⟩
      rw [HSX.out] at he
      subst he
      refine ⟨_, rfl, ?_⟩
      have HB17 := hid hq
      clear hq
      replace KN := ka HB17 KN
      replace K10 := ka HB17 K10
      replace HNK := hid (HNK.out.later HB17.out)
      replace HCL := hid (Cl.below HCL.out HB17.out)
      replace HCL2 := hid (Cl.below HCL2.out HB17.out)
      replace HNK2 := hid (HNK2.out.later HB17.out)
      replace HB0 := kb HB0 HB17
      try simp only [Act.put, nA, nB, nC]
      refine wp_y (v := (strV (mt ++ [108, 101, 116, 32] ++ tx' ++ sl ++ [32, 61, 32] ++ sx))) rfl rfl (y_addS (l := mt ++ [108, 101, 116, 32] ++ tx' ++ sl ++ [32, 61, 32]) (m := sx) rfl (by kernel_rfl) (by kernel_rfl) (by kernel_rfl) (by have := HLW.out; first | omega | (simp only [List.length_append, List.length_cons, List.length_nil, cond_true] at this ⊢; omega))) rfl ?_
      simp only [nA, nB, nC]
      refine wp_y (v := (strV (mt ++ [108, 101, 116, 32] ++ tx' ++ sl ++ [32, 61, 32] ++ sx ++ [59, 10]))) rfl rfl (y_addS (l := mt ++ [108, 101, 116, 32] ++ tx' ++ sl ++ [32, 61, 32] ++ sx) (m := [59, 10]) rfl (by kernel_rfl) (by kernel_rfl) (by kernel_rfl) (by have := HLW.out; first | omega | (simp only [List.length_append, List.length_cons, List.length_nil, cond_true] at this ⊢; omega))) rfl ?_
      simp only [nA, nB, nC]
      refine qv (strV (mt ++ [108, 101, 116, 32] ++ tx' ++ sl ++ [32, 61, 32] ++ sx ++ [59, 10])) ?_
      simp only [nA, nB, nC]
      refine we ?_
      go_upto_region 7 with fail
      refine rl ?_
      refine qv (.int .i64 (((j : Nat) : Int))) ?_
      refine qb (badd_int ((j : Nat) : Int) 1 ((j + 1 : Nat) : Int) HS1.out) ?_
      refine qv (.int .i64 (((j + 1 : Nat) : Int))) ?_
      simp only [nA, nB, nC]
      refine we ?_
      go_wp2_with fail
      exact ⟨⟨j + 1, HLT.out, rfl, congrArg strV (by rw [HNX.out]; try simp), HB0.out, KN.out⟩, by have := HLT.out; simp [intOf]; omega⟩
     ·have HDL : Hid (decide (0 < L) = false) := hid (by rw [← Hhb13.out]; exact decide_eq_decide.2 (by omega))
      rw [HDL.out] at HKW HNX HLW
      refine qb (bgtr_int ((L : Nat) : Int) 0 false Hhb13.out) ?_
      simp only [nA, nB, nC]
      refine we ?_
      go_upto_region 15 with fail
      refine rl ?_
      refine qv (strV (mt ++ [108, 101, 116, 32] ++ tx')) ?_
      simp only [nA, nB, nC]
      refine wp_y (v := (strV (mt ++ [108, 101, 116, 32] ++ tx' ++ [32, 61, 32]))) rfl rfl (y_addS (l := mt ++ [108, 101, 116, 32] ++ tx') (m := [32, 61, 32]) rfl (by kernel_rfl) (by kernel_rfl) (by kernel_rfl) (by have := HLW.out; first | omega | (simp only [List.length_append, List.length_cons, List.length_nil, cond_false] at this ⊢; omega))) rfl ?_
      simp only [nA, nB, nC]
      refine qf (fa_api_Node_3 g9 0) ?_
      refine ql (.slice (a') N' c') Tryz.isAgg22 3 K10 ?_
      refine qv (.int .i64 (((L : Nat) : Int))) ?_
      simp only [nA, nB, nC]
      refine wp_y (v := (.pointer (some ⟨b2, o2 + L * 5, none⟩))) rfl rfl (y_index (p := (.slice (a') N' c')) (k := (.int .i64 (((L : Nat) : Int)))) rfl (by kernel_rfl) (by kernel_rfl) (by kernel_rfl) (fun w => by rw [HA2.out]; exact idx24 b2 o2 N' c' L (by have := HNL.out; omega) w)) rfl ?_
      simp only [nA, nB, nC]
      refine wp_y (v := (nv k2 tx2 n2 (.slice a2 N2 c2) at2)) rfl rfl (y_load rfl (hl := fun w' h => by rw [h]; exact load24 HCL2.out)) rfl ?_
      simp only [nA, nB, nC]
      refine qc #[(nv k2 tx2 n2 (.slice a2 N2 c2) at2)] ?_
      have HCA := hid (HF2.out w11 _ HNK2.out)
      refine HCA.out.mono ?_
      rintro e w18 ⟨he, hq⟩
      rw [HSX.out] at he
      subst he
      refine ⟨_, rfl, ?_⟩
      have HB19 := hid hq
      clear hq
      replace KN := ka HB19 KN
      replace K10 := ka HB19 K10
      replace HNK := hid (HNK.out.later HB19.out)
      replace HCL := hid (Cl.below HCL.out HB19.out)
      replace HCL2 := hid (Cl.below HCL2.out HB19.out)
      replace HNK2 := hid (HNK2.out.later HB19.out)
      replace HB0 := kb HB0 HB19
      try simp only [Act.put, nA, nB, nC]
      refine wp_y (v := (strV (mt ++ [108, 101, 116, 32] ++ tx' ++ [32, 61, 32] ++ sx))) rfl rfl (y_addS (l := mt ++ [108, 101, 116, 32] ++ tx' ++ [32, 61, 32]) (m := sx) rfl (by kernel_rfl) (by kernel_rfl) (by kernel_rfl) (by have := HLW.out; first | omega | (simp only [List.length_append, List.length_cons, List.length_nil, cond_false] at this ⊢; omega))) rfl ?_
      simp only [nA, nB, nC]
      refine wp_y (v := (strV (mt ++ [108, 101, 116, 32] ++ tx' ++ [32, 61, 32] ++ sx ++ [59, 10]))) rfl rfl (y_addS (l := mt ++ [108, 101, 116, 32] ++ tx' ++ [32, 61, 32] ++ sx) (m := [59, 10]) rfl (by kernel_rfl) (by kernel_rfl) (by kernel_rfl) (by have := HLW.out; first | omega | (simp only [List.length_append, List.length_cons, List.length_nil, cond_false] at this ⊢; omega))) rfl ?_
      simp only [nA, nB, nC]
      refine qv (strV (mt ++ [108, 101, 116, 32] ++ tx' ++ [32, 61, 32] ++ sx ++ [59, 10])) ?_
      simp only [nA, nB, nC]
      refine we ?_
      go_upto_region 7 with fail
      refine rl ?_
      refine qv (.int .i64 (((j : Nat) : Int))) ?_
      refine qb (badd_int ((j : Nat) : Int) 1 ((j + 1 : Nat) : Int) HS1.out) ?_
      refine qv (.int .i64 (((j + 1 : Nat) : Int))) ?_
      simp only [nA, nB, nC]
      refine we ?_
      go_wp2_with fail
      exact ⟨⟨j + 1, HLT.out, rfl, congrArg strV (by rw [HNX.out]; try simp), HB0.out, KN.out⟩, by have := HLT.out; simp [intOf]; omega⟩
   ·have HTK : Hid (kids.take j = kids) := hid (by rw [List.take_of_length_le (by rw [HNN.out]; have := of_decide_eq_false Hhb8.out; omega)])
    refine qb (blss_int ((j : Nat) : Int) ((N : Nat) : Int) false Hhb8.out) ?_
    simp only [nA, nB, nC]
    refine we ?_
    go_upto_region 16 with fail
    refine rl ?_
    refine qv (strV (mdT tx (kids.take j))) ?_
    refine qv (strV (mdT tx (kids.take j))) ?_
    refine qv (.int .i64 0) ?_
    simp only [nA, nB, nC]
    refine we ?_
    go_wp2_with fail
    go_ret2
    exact ⟨by rw [HR.out, cond_true, modW_kids HR.out]; exact congrArg (fun l => Ending.returned (.tuple #[strV (mdT tx l), .int .i64 0])) HTK.out, HB0.out⟩
 ·have HR := hid Hhb5.out
  refine qc #[(nv k tx n (.slice a N c) at_)] ?_
  have HCA := hid (rright0_any HOK.out HN.out)
  refine HCA.out.mono ?_
  rintro e w20 ⟨he, hq⟩
  rw [Hhb5.out] at he
  subst he
  refine ⟨_, rfl, ?_⟩
  have HB21 := hid hq
  clear hq
  replace K2 := ka HB21 K2
  replace HN := hid (HN.out.later HB21.out)
  replace HB0 := kb HB0 HB21
  try simp only [Act.put, nA, nB, nC]
  refine qv (.bool false) ?_
  simp only [nA, nB, nC]
  refine we ?_
  go_upto_region 2 with fail
  refine rl ?_
  refine qv (.bool false) ?_
  simp only [nA, nB, nC]
  refine wp_y (v := (.bool true)) rfl rfl (y_un (p := .bool false) rfl (by kernel_rfl) (by kernel_rfl) (fun w => qnotB false w)) rfl ?_
  simp only [nA, nB, nC]
  refine we ?_
  go_upto_region 3 with fail
  refine rl ?_
  refine qv (strV []) ?_
  refine qv (.int .i64 90) ?_
  simp only [nA, nB, nC]
  refine we ?_
  go_wp2_with fail
  go_ret2
  exact ⟨by rw [HR.out]; rfl, HB0.out⟩
theorem Wsx.row {E : Nat → Prop} {w : World} {a : Option Addr} {c : Nat} {ks : List Wr} (h : Wsx E w (.slice a ks.length c) ks) : Wx E w (.iface 66 (.slice a ks.length c)) (.row ks) := by
 obtain ⟨vs, hv⟩ := h.rowP
 exact fun w' k => .row ks a c vs h.len (hv w' k).1 (hv w' k).2
theorem Wsx.rows {E : Nat → Prop} {w : World} {a : Option Addr} {c : Nat} {ks : List Wr} (h : Wsx E w (.slice a ks.length c) ks) : Wx E w (.iface 67 (.slice a ks.length c)) (.rows ks) := by
 obtain ⟨vs, hv⟩ := h.rowP
 exact fun w' k => .rows ks a c vs h.len (hv w' k).1 (hv w' k).2
theorem Wsx.two {E : Nat → Prop} {w : World} {g : Nat} {u1 u2 : Value} {x1 x2 : Wr} {z : Nat × Nat} (hg : w.heap[g]? = some (.cells #[u1, u2] 36 z)) (hE : ¬ E g) (h1 : Wx E w u1 x1) (h2 : Wx E w u2 x2) : Wsx E w (.slice (some ⟨g, 0, none⟩) 2 2) [x1, x2] :=
 ⟨_, _, rfl, by simp, fun i x hx => by
  match i, hx with
  | 0, hx => cases hx; exact ⟨g, 0, _, z, u1, rfl, hE, hg, rfl, h1⟩
  | 1, hx => cases hx; exact ⟨g, 0, _, z, u2, rfl, hE, hg, rfl, h2⟩⟩
theorem Wsx.four {E : Nat → Prop} {w : World} {g : Nat} {u1 u2 u3 u4 : Value} {x1 x2 x3 x4 : Wr} {z : Nat × Nat} (hg : w.heap[g]? = some (.cells #[u1, u2, u3, u4] 36 z)) (hE : ¬ E g) (h1 : Wx E w u1 x1) (h2 : Wx E w u2 x2) (h3 : Wx E w u3 x3) (h4 : Wx E w u4 x4) : Wsx E w (.slice (some ⟨g, 0, none⟩) 4 4) [x1, x2, x3, x4] :=
 ⟨_, _, rfl, by simp, fun i x hx => by
  match i, hx with
  | 0, hx => cases hx; exact ⟨g, 0, _, z, u1, rfl, hE, hg, rfl, h1⟩
  | 1, hx => cases hx; exact ⟨g, 0, _, z, u2, rfl, hE, hg, rfl, h2⟩
  | 2, hx => cases hx; exact ⟨g, 0, _, z, u3, rfl, hE, hg, rfl, h3⟩
  | 3, hx => cases hx; exact ⟨g, 0, _, z, u4, rfl, hE, hg, rfl, h4⟩⟩
theorem Wx.less {n n' : Nat} {w : World} {v : Value} {x : Wr} (h : Wx (fun b => b < n) w v x) (hn : n' ≤ n) : Wx (fun b => b < n') w v x := h.other (Kx.refl _ _) (fun b cs z _ hb hc => hb (by omega))
theorem lft_bare {kd : Int} {t : Tr} (h : brT kd t = true) (m : Int) : lft t m = m - 1 := by
 obtain ⟨k, tx, n, ks, at_⟩ := t
 simp only [brT, Bool.and_eq_true, beq_iff_eq] at h
 have : ks = [] := List.length_eq_zero_iff.1 (by omega)
 subst this
 rw [lft, lfts]
theorem bare_eq (kd k : Int) (tx : List UInt8) (n : Int) (ks : List Tr) (at_ : Int) (m : Int) : ((decide (0 ≤ m - 1) && nmd kd k tx n) && (((ks.length : Nat) : Int) == (0 : Int))) = (brT kd (.mk k tx n ks at_) && decide (0 ≤ lft (.mk k tx n ks at_) m)) := by
 cases hb : brT kd (.mk k tx n ks at_) with
 | true =>
  rw [lft_bare hb, Bool.true_and]
  simp only [brT, Bool.and_eq_true] at hb
  rw [nmd, hb.1.1.1, hb.1.1.2, hb.1.2, hb.2]
  simp
 | false =>
  rw [Bool.false_and]
  rw [brT] at hb
  rw [nmd]
  revert hb
  generalize (k == kd) = b1
  generalize (n == (0 : Int)) = b2
  generalize fre tx = b3
  generalize (((ks.length : Nat) : Int) == (0 : Int)) = b4
  generalize decide (0 ≤ m - 1) = b5
  revert b1 b2 b3 b4 b5
  decide
theorem al_no {p : Tr → Bool} {ks : List Tr} {j : Nat} {t : Tr} {m : Int} (h : ks[j]? = some t) (hx : 0 ≤ lfts (ks.take j) m) (hs : (p t && decide (0 ≤ lft t (lfts (ks.take j) m))) = false) : (ks.all p && decide (0 ≤ lfts ks m)) = false := by
 cases hr : p t with
 | false =>
  have : ks.all p = false := by rw [List.all_eq_false]; exact ⟨t, List.mem_of_getElem? h, by rw [hr]; simp⟩
  rw [this, Bool.false_and]
 | true =>
  rw [hr, Bool.true_and, decide_eq_false_iff_not] at hs
  have : ¬ 0 ≤ lfts ks m := fun h0 => hs (by
   have h1 := lfts_take_nn ks (j + 1) m h0
   rw [take_next h, lfts_snoc _ _ _ hx] at h1
   exact h1)
  rw [decide_eq_false this, Bool.and_false]
theorem al_next {p : Tr → Bool} {ks : List Tr} {j : Nat} {t : Tr} {m : Int} (h : ks[j]? = some t) (ha : (ks.take j).all p = true) (hx : 0 ≤ lfts (ks.take j) m) (hs : (p t && decide (0 ≤ lft t (lfts (ks.take j) m))) = true) : (ks.take (j + 1)).all p = true ∧ 0 ≤ lfts (ks.take (j + 1)) m ∧ lfts (ks.take (j + 1)) m = lft t (lfts (ks.take j) m) := by
 simp only [Bool.and_eq_true, decide_eq_true_eq] at hs
 rw [take_next h, lfts_snoc _ _ _ hx]
 refine ⟨?_, hs.2, rfl⟩
 rw [List.all_append, ha, Bool.true_and]
 simp [hs.1]
theorem bsw_Sshow_writer_1 (w : World) (x0 : Value) (h0 : x0.cells = #[x0]) : ∃ w1 g, (Instr.buildSlice 65 1 #[(0, x0)]).run Tryz.prog w = .ok (.slice (some ⟨g, 0, none⟩) 1 1) w1 ∧ w1.heap[g]? = some (.cells #[x0] 36 (0, 0)) ∧ Below w.heap.size w w1 ∧ w.heap.size ≤ g := by
 refine ⟨w.alloc (.cells #[x0] 36), w.heap.size, ?_, heap_alloc_last w _, (Below.refl _ _).alloc (Nat.le_refl _) _, Nat.le_refl _⟩
 simp [Instr.buildSlice, Instr.fill, h0]
 go_simp
theorem bsw_show_row_2 (w : World) (x0 x1 : Value) (h0 : x0.cells = #[x0]) (h1 : x1.cells = #[x1]) : ∃ w1 g, (Instr.buildSlice 66 2 #[(0, x0), (1, x1)]).run Tryz.prog w = .ok (.slice (some ⟨g, 0, none⟩) 2 2) w1 ∧ w1.heap[g]? = some (.cells #[x0, x1] 36 (0, 0)) ∧ Below w.heap.size w w1 ∧ w.heap.size ≤ g := by
 refine ⟨w.alloc (.cells #[x0, x1] 36), w.heap.size, ?_, heap_alloc_last w _, (Below.refl _ _).alloc (Nat.le_refl _) _, Nat.le_refl _⟩
 simp [Instr.buildSlice, Instr.fill, h0, h1]
 go_simp
theorem bsw_show_row_4 (w : World) (x0 x1 x2 x3 : Value) (h0 : x0.cells = #[x0]) (h1 : x1.cells = #[x1]) (h2 : x2.cells = #[x2]) (h3 : x3.cells = #[x3]) : ∃ w1 g, (Instr.buildSlice 66 4 #[(0, x0), (1, x1), (2, x2), (3, x3)]).run Tryz.prog w = .ok (.slice (some ⟨g, 0, none⟩) 4 4) w1 ∧ w1.heap[g]? = some (.cells #[x0, x1, x2, x3] 36 (0, 0)) ∧ Below w.heap.size w w1 ∧ w.heap.size ≤ g := by
 refine ⟨w.alloc (.cells #[x0, x1, x2, x3] 36), w.heap.size, ?_, heap_alloc_last w _, (Below.refl _ _).alloc (Nat.le_refl _) _, Nat.le_refl _⟩
 simp [Instr.buildSlice, Instr.fill, h0, h1, h2, h3]
 go_simp
theorem bsw_show_rows_1 (w : World) (x0 : Value) (h0 : x0.cells = #[x0]) : ∃ w1 g, (Instr.buildSlice 67 1 #[(0, x0)]).run Tryz.prog w = .ok (.slice (some ⟨g, 0, none⟩) 1 1) w1 ∧ w1.heap[g]? = some (.cells #[x0] 36 (0, 0)) ∧ Below w.heap.size w w1 ∧ w.heap.size ≤ g := by
 refine ⟨w.alloc (.cells #[x0] 36), w.heap.size, ?_, heap_alloc_last w _, (Below.refl _ _).alloc (Nat.le_refl _) _, Nat.le_refl _⟩
 simp [Instr.buildSlice, Instr.fill, h0]
 go_simp
seal wpList in
theorem head_any {tx : List UInt8} {ps : List Tr} {m : Int} {p : Nat} {w : World} {sv : Value} (hk : Kds w sv ps) (hok : ∀ t ∈ ps, t.Ok) (h8 : ps.length ≤ 8) (h0 : 0 ≤ m) (h1 : m ≤ 8192) (hm : Mkr w p m) : Calls Tryz.prog 72 #[.pointer (some ⟨p, 0, none⟩), strV tx, sv] w fun e w' =>
 ((ps.all (brT 4) && decide (0 ≤ lfts ps m)) = true ∧ Fr [p] w w' ∧ ∃ u, e = .returned (.tuple #[u, .bool true]) ∧ Wx (fun b => b < w.heap.size) w' u (headW tx ps) ∧ Mkr w' p (lfts ps m)) ∨ ((ps.all (brT 4) && decide (0 ≤ lfts ps m)) = false ∧ Fr [p] w w' ∧ e = .returned (.tuple #[.nilIface, .bool false]) ∧ ∃ m', Mkr w' p m') := by
 obtain ⟨a, c, rfl, -, hk⟩ := hk
 obtain ⟨N, hN⟩ : ∃ N, ps.length = N := ⟨_, rfl⟩
 rw [hN] at h8 ⊢
 have HNN := hid hN
 have HK := hid hk
 have HOK := hid hok
 have HN8 := hid h8
 have HMM : Hid (0 ≤ m ∧ m ≤ 8192) := hid ⟨h0, h1⟩
 have HM := hid hm
 have HM0 := hid hm
 have HF0 := hid (Fr.refl [p] w)
 clear hN hk hok h8 h0 h1 hm
 go_enter Tryz.func72, Tryz.ntmps72
 go_upto_region 0 with fail
 refine rl ?_
 refine qv .nilIface ?_
 refine qv (.bool false) ?_
 simp only [nA, nB, nC]
 refine we ?_
 go_upto_region 1 with fail
 refine rl ?_
 refine qv (.slice none 0 0) ?_
 simp only [nA, nB, nC]
 refine we ?_
 go_upto_region 2 with fail
 refine rl ?_
 refine qv (.slice a N c) ?_
 simp only [nA, nB, nC]
 refine wp_y (v := (.int .i64 (((N : Nat) : Int)))) rfl rfl (y_lenT len_Sapi_Node (p := a) (n := N) (c := c) rfl (by kernel_rfl) (by kernel_rfl)) rfl ?_
 simp only [nA, nB, nC]
 refine qv (.int .i64 0) ?_
 simp only [nA, nB, nC]
 refine we ?_
 go_wp2_with fail
 go_loopw [13, 8] (fun v13 v8 wr => ∃ j : Nat, j ≤ N ∧ v13 = .int .i64 j ∧ Wo w.heap.size wr v8 ((ps.take j).map prmW) ∧ (ps.take j).all (brT 4) = true ∧ 0 ≤ lfts (ps.take j) m ∧ Mkr wr p (lfts (ps.take j) m) ∧ Fr [p] w wr) (fun v13 _ _ => N - (intOf v13).toNat)
 case atStart =>
  exact ⟨0, Nat.zero_le _, rfl, by simpa using Wo.nil _ _, by simp, by rw [List.take_zero, lfts]; exact HMM.out.1, by rw [List.take_zero, lfts]; exact HM.out, HF0.out⟩
 case round =>
  obtain ⟨j, hj, rfl, hw, ha, hn, hm, hF⟩ := hrel
  clear HM HF0
  have HWO := hid hw
  have HAL := hid ha
  have HNN0 := hid hn
  have HM := hid hm
  have HF0 := hid hF
  have HJJ := hid hj
  clear hw ha hn hm hF hj
  go_upto_region 3 with fail
  refine rl ?_
  rcases bt (decide (((j : Nat) : Int) < ((N : Nat) : Int))) with Hhb1 | Hhb1
  ·have HLT : Hid (j < N) := hid (by have := of_decide_eq_true Hhb1.out; omega)
   have HS1 := hid (wrap_next (N := N) HLT.out (by have := HN8.out; omega))
   obtain ⟨t, ht⟩ : ∃ t, ps[j]? = some t := ⟨_, List.getElem?_eq_getElem (by rw [HNN.out]; exact HLT.out)⟩
   obtain ⟨b, o, u, ha, hcl, hnd⟩ := HK.out j t ht
   have HOKK := hid (HOK.out t (List.mem_of_getElem? ht))
   obtain ⟨k', tx', n', ks', at'⟩ := t
   obtain ⟨a', c', rfl, -, -⟩ := hnd.open
   have HA := hid ha
   have HJ := hid ht
   have HCL := hid (load24 (hcl.fr HF0.out HM0.out))
   have HNK := hid (hnd.fr HF0.out HM0.out)
   obtain ⟨N', hN'⟩ : ∃ x, ks'.length = x := ⟨_, rfl⟩
   rw [hN'] at HCL HNK
   clear ha ht hcl hnd
   obtain ⟨MJ, hMJ⟩ : ∃ x, lfts (ps.take j) m = x := ⟨_, rfl⟩
   rw [hMJ] at HM
   have HMJ := hid hMJ
   have HM8 : Hid (0 ≤ MJ ∧ MJ ≤ 8192) := hid (by rw [← hMJ]; have h8 := (lfts_le (ps.take j) (fun t _ => lft_le t) m (by have := HMM.out; omega)).2; have := HMM.out; have := HNN0.out; omega)
   clear hMJ
   have HBA : Hid (∀ (w : World), Mkr w p MJ → Nd w (nv k' tx' n' (.slice a' N' c') at') (.mk k' tx' n' ks' at') → Calls Tryz.prog 46 #[.pointer (some ⟨p, 0, none⟩), (nv k' tx' n' (.slice a' N' c') at'), .int .i64 4] w fun e w' => e = .returned (.bool ((brT 4 (.mk k' tx' n' ks' at') && decide (0 ≤ lft (.mk k' tx' n' ks' at') MJ)))) ∧ Fr [p] w w' ∧ Mkr w' p (MJ - 1)) := hid (fun w h1 h2 => by have h3 := isBare_any h1 HM8.out.1 HM8.out.2 h2 HOKK.out.text 4; rw [bare_eq 4 k' tx' n' ks' at' MJ] at h3; exact h3)
   clear hN'
   refine qb (blss_int ((j : Nat) : Int) ((N : Nat) : Int) true Hhb1.out) ?_
   simp only [nA, nB, nC]
   refine we ?_
   go_upto_region 4 with fail
   refine rl ?_
   refine wp_y (v := (.pointer (some ⟨b, o + j * 5, none⟩))) rfl rfl (y_index (p := (.slice a N c)) (k := (.int .i64 (((j : Nat) : Int)))) rfl (by kernel_rfl) (by kernel_rfl) (by kernel_rfl) (fun w => by rw [HA.out]; exact idx24 b o N c j HLT.out w)) rfl ?_
   simp only [nA, nB, nC]
   refine wp_y (v := (nv k' tx' n' (.slice a' N' c') at')) rfl rfl (y_load rfl (hl := fun w' h => by rw [h]; exact HCL.out)) rfl ?_
   simp only [nA, nB, nC]
   obtain ⟨wv, w4, g2, hx1, hx2, hbk, hbb, hge⟩ := var_api_Node wr k' tx' n' a' N' c' at'
   have K3 := hid hbk
   have HBV := hid hbb
   have HX1 := hid hx1
   have HX2 := hid hx2
   have GV := hid hge
   clear hx1 hx2 hbk hbb hge
   refine wp_run (v := (.pointer (some ⟨g2, 0, none⟩))) rfl rfl (run_alOp rfl HX1.out) rfl ?_
   try simp only [nA, nB, nC]
   refine wp_do rfl rfl (run_storeOp rfl (by kernel_rfl) (by kernel_rfl) HX2.out) ?_
   try simp only [nA, nB, nC]
   clear HX1 HX2
   replace HF0 := kf HF0 HBV
   replace HM := ka HBV HM
   replace HWO := hid (HWO.out.keep (kx_below HBV.out))
   replace HNK := hid (HNK.out.later HBV.out)
   clear HBV GV
   refine we ?_
   go_upto_region 5 with fail
   refine rl ?_
   refine qv (.pointer (some ⟨p, 0, none⟩)) ?_
   refine qk (nv k' tx' n' (.slice a' N' c') at') Tryz.isAgg24 K3 ?_
   simp only [nA, nB, nC]
   rcases bt ((brT 4 (.mk k' tx' n' ks' at') && decide (0 ≤ lft (.mk k' tx' n' ks' at') MJ))) with Hhb5 | Hhb5
   ·have HR := hid (al_next (p := brT 4) HJ.out HAL.out HNN0.out (by rw [HMJ.out]; exact Hhb5.out))
    refine qc #[(.pointer (some ⟨p, 0, none⟩)), (nv k' tx' n' (.slice a' N' c') at'), (.int .i64 4)] ?_
    have HCA := hid (HBA.out w4 HM.out HNK.out)
    refine HCA.out.mono ?_
    rintro e w6 ⟨he, hF, hm⟩
    rw [Hhb5.out] at he
    subst he
    refine ⟨_, rfl, ?_⟩
    have HFF := hid hF
    clear hF
    replace K3 := hid (Fr.at HFF.out K3.out (not_mkr K3.out HM.out (by decide)))
    replace HWO := hid (HWO.out.keep (kx_fr HFF.out HM.out))
    replace HF0 := hid (HF0.out.trans HFF.out (by simp))
    replace HM := hid hm
    clear hm HFF
    try simp only [Act.put, nA, nB, nC]
    refine wp_y (v := (.bool false)) rfl rfl (y_un (p := .bool true) rfl (by kernel_rfl) (by kernel_rfl) (fun w => qnotB true w)) rfl ?_
    simp only [nA, nB, nC]
    refine we ?_
    go_upto_region 7 with fail
    refine rl ?_
    refine qv u8 ?_
    refine qf (fa_api_Node_1 g2 0) ?_
    refine ql (strV tx') Tryz.isAgg9 1 K3 ?_
    simp only [nA, nB, nC]
    refine wp_y (v := (.iface 64 (strV tx'))) rfl rfl (y_mkI rfl (by kernel_rfl) (by kernel_rfl) (fun w => mk_show_word _ w)) rfl ?_
    simp only [nA, nB, nC]
    obtain ⟨w9, g7, hbx, hbk, hbb, hge⟩ := bsw_Sshow_writer_1 w6 (.iface 64 (strV tx')) rfl
    have K8 := hid hbk
    have HB10 := hid hbb
    have HX := hid hbx
    have Gg7 : Hid (w6.heap.size ≤ g7) := hid hge
    have GWg7 : Hid (w.heap.size ≤ g7) := hid (Nat.le_trans HF0.out.size hge)
    clear hbx hbk hbb hge
    refine wp_run (v := (.slice (some ⟨g7, 0, none⟩) 1 1)) rfl rfl (run_bsOp rfl (by kernel_rfl) HX.out) rfl ?_
    try simp only [nA, nB, nC]
    replace K3 := ka HB10 K3
    replace HF0 := kf HF0 HB10
    replace HM := ka HB10 HM
    replace HWO := hid (HWO.out.keep (kx_below HB10.out))
    obtain ⟨v9, w9, ha1, ha2, ha3⟩ := HWO.out.app (Wx.word tx') (by rw [List.length_map]; have := HN8.out; have : (ps.take j).length ≤ ps.length := List.length_take ▸ Nat.min_le_right _ _; have := HNN.out; omega) HF0.out.size K8.out
    have HAP := hid ha1
    have HW9 := hid ha2
    have HF9 := hid ha3
    clear ha1 ha2 ha3
    refine wp_run (v := v9) rfl rfl (run_appOp rfl (by kernel_rfl) (by kernel_rfl) (HAP.out _)) rfl ?_
    try simp only [nA, nB, nC]
    replace HM := hid (Fr.at HF9.out HM.out (not_own HWO.out HM.out (by decide)))
    replace HF0 := hid (HF0.out.trans HF9.out (fun x hx => .inr (by obtain ⟨c9, h9, h8⟩ := HWO.out.own_lt (by simpa using hx); exact h8)))
    replace HWO := hid HW9.out
    clear HW9 HF9 HAP
    refine qv v9 ?_
    simp only [nA, nB, nC]
    refine we ?_
    go_upto_region 8 with fail
    refine rl ?_
    refine qb (badd_int ((j : Nat) : Int) 1 ((j + 1 : Nat) : Int) HS1.out) ?_
    refine qv (.int .i64 (((j + 1 : Nat) : Int))) ?_
    simp only [nA, nB, nC]
    refine we ?_
    go_wp2_with fail
    exact ⟨⟨j + 1, HLT.out, rfl, by rw [take_next HJ.out, List.map_append]; exact HWO.out, HR.out.1, HR.out.2.1, by rw [HR.out.2.2, HMJ.out, lft_bare (by have h9 := Hhb5.out; rw [Bool.and_eq_true] at h9; exact h9.1)]; exact HM.out, HF0.out⟩, by have := HLT.out; simp [intOf]; omega⟩
   ·have HR : Hid ((ps.all (brT 4) && decide (0 ≤ lfts ps m)) = false) := hid (al_no (p := brT 4) HJ.out HNN0.out (by rw [HMJ.out]; exact Hhb5.out))
    refine qc #[(.pointer (some ⟨p, 0, none⟩)), (nv k' tx' n' (.slice a' N' c') at'), (.int .i64 4)] ?_
    have HCA := hid (HBA.out w4 HM.out HNK.out)
    refine HCA.out.mono ?_
    rintro e w11 ⟨he, hF, hm⟩
    rw [Hhb5.out] at he
    subst he
    refine ⟨_, rfl, ?_⟩
    have HFF := hid hF
    clear hF
    replace K3 := hid (Fr.at HFF.out K3.out (not_mkr K3.out HM.out (by decide)))
    replace HWO := hid (HWO.out.keep (kx_fr HFF.out HM.out))
    replace HF0 := hid (HF0.out.trans HFF.out (by simp))
    replace HM := hid hm
    clear hm HFF
    try simp only [Act.put, nA, nB, nC]
    refine wp_y (v := (.bool true)) rfl rfl (y_un (p := .bool false) rfl (by kernel_rfl) (by kernel_rfl) (fun w => qnotB false w)) rfl ?_
    simp only [nA, nB, nC]
    refine we ?_
    go_upto_region 6 with fail
    refine rl ?_
    refine qv .nilIface ?_
    refine qv (.bool false) ?_
    simp only [nA, nB, nC]
    refine we ?_
    go_wp2_with fail
    go_ret2
    exact .inr ⟨HR.out, HF0.out, rfl, _, HM.out⟩
  ·have htk : ps.take j = ps := by rw [List.take_of_length_le (by rw [HNN.out]; have := of_decide_eq_false Hhb1.out; omega)]
   rw [htk] at HWO HAL HNN0 HM
   clear htk
   obtain ⟨a8, c8, he8⟩ := HWO.out.val
   rw [List.length_map, HNN.out] at he8
   subst he8
   refine qb (blss_int ((j : Nat) : Int) ((N : Nat) : Int) false Hhb1.out) ?_
   simp only [nA, nB, nC]
   refine we ?_
   go_upto_region 9 with fail
   refine rl ?_
   refine qv (.slice a8 N c8) ?_
   simp only [nA, nB, nC]
   refine wp_y (v := (.int .i64 (((N : Nat) : Int)))) rfl rfl (y_lenT len_Sshow_writer (p := a8) (n := N) (c := c8) rfl (by kernel_rfl) (by kernel_rfl)) rfl ?_
   simp only [nA, nB, nC]
   rcases bt ((((N : Nat) : Int) == (0 : Int))) with Hhb12 | Hhb12
   ·refine wp_y (v := (.bool true)) rfl rfl (y_bin (k := .i64) (k' := .i64) (m := ((N : Nat) : Int)) (n := 0) rfl (hr := beql_int ((N : Nat) : Int) 0 true Hhb12.out)) rfl ?_
    try simp only [nA, nB, nC]
    refine we ?_
    go_upto_region 10 with fail
    refine rl ?_
    refine qv (strV tx) ?_
    simp only [nA, nB, nC]
    refine wp_y (v := (.iface 64 (strV tx))) rfl rfl (y_mkI rfl (by kernel_rfl) (by kernel_rfl) (fun w => mk_show_word _ w)) rfl ?_
    simp only [nA, nB, nC]
    refine qv (.iface 64 (strV tx)) ?_
    refine qv (.bool true) ?_
    simp only [nA, nB, nC]
    refine we ?_
    go_wp2_with fail
    go_ret2
    exact .inl ⟨by rw [HAL.out, decide_eq_true HNN0.out]; rfl, HF0.out, _, rfl, by
       have h0 : ps = [] := List.length_eq_zero_iff.1 (by rw [HNN.out]; have h9 := Hhb12.out; simpa using h9)
       subst h0
       exact Wx.word tx, HM.out⟩
   ·refine wp_y (v := (.bool false)) rfl rfl (y_bin (k := .i64) (k' := .i64) (m := ((N : Nat) : Int)) (n := 0) rfl (hr := beql_int ((N : Nat) : Int) 0 false Hhb12.out)) rfl ?_
    try simp only [nA, nB, nC]
    refine we ?_
    go_upto_region 11 with fail
    refine rl ?_
    refine qv (strV tx) ?_
    refine qv (.slice a8 N c8) ?_
    simp only [nA, nB, nC]
    refine wp_y (v := (.agg #[(strV tx), (.slice a8 N c8)])) rfl rfl (y_val2 rfl (h := fun w' h => by rw [h]; exact run_buildOp rfl (by kernel_rfl) (bu_show_list_0_1 wr tx a8 N c8))) rfl ?_
    simp only [nA, nB, nC]
    refine wp_y (v := (.iface 123 (.agg #[(strV tx), (.slice a8 N c8)]))) rfl rfl (y_mkI rfl (by kernel_rfl) (by kernel_rfl) (fun w => mk_show_list _ w)) rfl ?_
    simp only [nA, nB, nC]
    refine qv (.iface 123 (.agg #[(strV tx), (.slice a8 N c8)])) ?_
    refine qv (.bool true) ?_
    simp only [nA, nB, nC]
    refine we ?_
    go_wp2_with fail
    go_ret2
    exact .inl ⟨by rw [HAL.out, decide_eq_true HNN0.out]; rfl, HF0.out, _, rfl, by
       have h0 : ps.isEmpty = false := by
        have h9 := Hhb12.out
        cases ps with
        | nil => exfalso; have := HNN.out; simp at this; subst this; simp at h9
        | cons a b => rfl
       rw [headW, h0, cond_false]
       have h1 := HWO.out.wsx (by rw [List.length_map, HNN.out]; have := HN8.out; omega)
       have e9 : N = (ps.map prmW).length := by rw [List.length_map, HNN.out]
       rw [e9] at h1 ⊢
       exact h1.list tx, HM.out⟩
theorem lft_one {k : Int} {tx : List UInt8} {n : Int} {ks : List Tr} {at_ m : Int} {L : Nat} {x : Tr} (hl : ks.length = L + 1) (hx : ks[L]? = some x) (h0 : 0 ≤ lfts (ks.take L) (m - 1)) : lft (.mk k tx n ks at_) m = lft x (lfts (ks.take L) (m - 1)) := by
 rw [lft, ← lfts_snoc _ _ _ h0, ← take_next hx, ← hl, List.take_length]
theorem let_eq {k : Int} {tx : List UInt8} {n : Int} {ks : List Tr} {at_ : Int} (m : Int) {L : Nat} {x : Tr} (hld : ldg 4 ks = L) (hl : ks.length = L + 1) (hL : L ≤ 8) (hx : ks[L]? = some x) (hn : nmd 3 k tx n = true) :
  (letS (.mk k tx n ks at_) && decide (0 ≤ lft (.mk k tx n ks at_) m)) = (((ks.take L).all (brT 4) && decide (0 ≤ lfts (ks.take L) (m - 1))) && (rt 100 x && decide (0 ≤ lft x (lfts (ks.take L) (m - 1))))) := by
 have e1 : letS (.mk k tx n ks at_) = ((ks.take L).all (brT 4) && rt 100 x) := by
  rw [letS, hn, hld, hl, hx, decide_eq_true hL]
  simp
 rw [e1]
 by_cases h0 : 0 ≤ lfts (ks.take L) (m - 1)
 ·rw [lft_one hl hx h0, decide_eq_true h0, Bool.and_true, Bool.and_assoc]
 ·have h1 : ¬ 0 ≤ lft (.mk k tx n ks at_) m := by rw [lft, lfts_over ks L (m - 1) (by omega)]; exact h0
  rw [decide_eq_false h0, decide_eq_false h1]
  simp
theorem lft_none {t : Tr} {m : Int} (h : ¬ 0 ≤ m - 1) : decide (0 ≤ lft t m) = false := by
 obtain ⟨k, tx, n, ks, at_⟩ := t
 rw [lft, lfts_neg _ _ (by omega)]
 exact decide_eq_false h
theorem let_named {k : Int} {tx : List UInt8} {n : Int} {ks : List Tr} {at_ m : Int} (h : (decide (0 ≤ m - 1) && nmd 3 k tx n) = false) : (letS (.mk k tx n ks at_) && decide (0 ≤ lft (.mk k tx n ks at_) m)) = false := by
 by_cases h0 : 0 ≤ m - 1
 ·rw [decide_eq_true h0, Bool.true_and] at h
  rw [letS, h]
  rfl
 ·rw [lft_none h0, Bool.and_false]
theorem let_many {k : Int} {tx : List UInt8} {n : Int} {ks : List Tr} {at_ m : Int} (h : ¬ (ldg 4 ks ≤ 8 ∧ ks.length = ldg 4 ks + 1)) : (letS (.mk k tx n ks at_) && decide (0 ≤ lft (.mk k tx n ks at_) m)) = false := by
 have : (decide (ldg 4 ks ≤ 8) && (ks.length == ldg 4 ks + 1)) = false := by
  rw [Bool.eq_false_iff]
  intro hc
  simp only [Bool.and_eq_true, decide_eq_true_eq, beq_iff_eq] at hc
  exact h hc
 rw [letS, this]
 simp
seal wpList in
theorem let_any {k : Int} {tx : List UInt8} {n : Int} {kids : List Tr} {at_ : Int} {B : Nat} {m : Int} {p : Nat} {w : World} {v : Value} (hok : Tr.Ok (.mk k tx n kids at_)) (h0 : 0 ≤ m) (h1 : m ≤ 8192) (hm : Mkr w p m) (hbp : B ≤ p) (hbw : B ≤ w.heap.size) (htb : Tb B w) (hnd : Nd w v (.mk k tx n kids at_)) : Calls Tryz.prog 47 #[.pointer (some ⟨p, 0, none⟩), v] w fun e w' =>
 ((letS (.mk k tx n kids at_) && decide (0 ≤ lft (.mk k tx n kids at_) m)) = true ∧ Fr [p] w w' ∧ ∃ u, e = .returned (.tuple #[u, .bool true]) ∧ Wx (fun b => b < w.heap.size) w' u (letW (.mk k tx n kids at_)) ∧ Mkr w' p (lft (.mk k tx n kids at_) m)) ∨ ((letS (.mk k tx n kids at_) && decide (0 ≤ lft (.mk k tx n kids at_) m)) = false ∧ Fr [p] w w' ∧ e = .returned (.tuple #[.nilIface, .bool false]) ∧ ∃ m', Mkr w' p m') := by
 have HOK := hid hok
 have HT := hid hok.text
 have HMM : Hid (0 ≤ m ∧ m ≤ 8192) := hid ⟨h0, h1⟩
 have HM := hid hm
 have HM0 := hid hm
 have HBP := hid hbp
 have HBW := hid hbw
 have HTB := hid htb
 have HN0 := hid hnd
 have HF0 := hid (Fr.refl [p] w)
 obtain ⟨a, c, rfl, -, -⟩ := hnd.open
 clear hok h0 h1 hm hbp hbw htb hnd
 obtain ⟨N, hN⟩ : ∃ N, kids.length = N := ⟨_, rfl⟩
 rw [hN] at HN0 ⊢
 have HNN := hid hN
 obtain ⟨L, hL⟩ : ∃ L, ldg 4 kids = L := ⟨_, rfl⟩
 have HLD := hid hL
 clear hN hL
 obtain ⟨Z, hZ⟩ : ∃ Z, (letS (.mk k tx n kids at_) && decide (0 ≤ lft (.mk k tx n kids at_) m)) = Z := ⟨_, rfl⟩
 rw [hZ]
 have HZ0 := hid hZ
 clear hZ
 go_enter Tryz.func47, Tryz.ntmps47
 go_upto_region 0 with fail
 refine rl ?_
 obtain ⟨w3, g1, (HX : Hid _), (K2 : Hid _), (HB4 : Hid _)⟩ := box_x 24 w #[(.int .i64 k), (strV tx), (.int .i64 n), (.slice a N c), (.int .i64 at_)]
 refine wp_run (v := (.pointer (some ⟨g1, 0, none⟩))) rfl rfl (run_boxOp rfl (by kernel_rfl) HX.out) rfl ?_
 try simp only [nA, nB, nC]
 replace HF0 := kf HF0 HB4
 replace HM := ka HB4 HM
 refine qv .nilIface ?_
 refine qv (.bool false) ?_
 simp only [nA, nB, nC]
 refine we ?_
 go_upto_region 1 with fail
 refine rl ?_
 refine qf (fa_api_Node_3 g1 0) ?_
 refine ql (.slice a N c) Tryz.isAgg22 3 K2 ?_
 simp only [nA, nB, nC]
 refine qc #[(.slice a N c), (.int .i64 4)] ?_
 have HCA := hid (leading_any (HN0.out.fr HF0.out HM0.out).kds 4)
 refine HCA.out.mono ?_
 rintro e wz ⟨he, hwz⟩
 rw [HLD.out] at he
 subst he
 refine ⟨_, rfl, ?_⟩
 obtain rfl := hwz.symm
 try simp only [Act.put, nA, nB, nC]
 refine qv (.int .i64 (((L : Nat) : Int))) ?_
 simp only [nA, nB, nC]
 refine we ?_
 go_upto_region 2 with fail
 refine rl ?_
 refine qv (.pointer (some ⟨p, 0, none⟩)) ?_
 refine qk (nv k tx n (.slice a N c) at_) Tryz.isAgg24 K2 ?_
 simp only [nA, nB, nC]
 rcases bt ((decide (0 ≤ m - 1) && nmd 3 k tx n)) with Hhb5 | Hhb5
 ·refine wp_call (f := 45) (args := #[(.pointer (some ⟨p, 0, none⟩)), (nv k tx n (.slice a N c) at_), (.int .i64 3)]) (by kernel_rfl) (fun w => by go_simp) ?_
  have HCA := hid (isNamed_any HM.out HMM.out.1 HMM.out.2 (HN0.out.fr HF0.out HM0.out) HT.out 3)
  refine HCA.out.mono ?_
  rintro e w6 ⟨he, hF, hm⟩
  rw [Hhb5.out] at he
  subst he
  refine ⟨_, rfl, ?_⟩
  have HFF := hid hF
  clear hF
  replace K2 := hid (Fr.at HFF.out K2.out (not_mkr K2.out HM.out (by decide)))
  replace HF0 := hid (HF0.out.trans HFF.out (by simp))
  replace HM := hid hm
  clear hm HFF
  try simp only [Act.put, nA, nB, nC]
  refine wp_y (v := (.bool false)) rfl rfl (y_un (p := .bool true) rfl (by kernel_rfl) (by kernel_rfl) (fun w => qnotB true w)) rfl ?_
  simp only [nA, nB, nC]
  refine qv (.bool false) ?_
  simp only [nA, nB, nC]
  refine qg (.int .i64 (((L : Nat) : Int))) rfl ?_
  simp only [nA, nB, nC]
  rcases bt (decide ((8 : Int) < ((L : Nat) : Int))) with Hhb7 | Hhb7
  ·refine wp_yg (v := (.bool true)) rfl (y_bin (k := .i64) (k' := .i64) (m := ((L : Nat) : Int)) (n := 8) rfl (hr := bgtr_int ((L : Nat) : Int) 8 true Hhb7.out)) rfl ?_
   try simp only [nA, nB, nC]
   refine qv (.bool true) ?_
   refine qv (.bool true) ?_
   simp only [nA, nB, nC]
   refine qs rfl ?_
   simp only [nA, nB, nC]
   refine qs rfl ?_
   simp only [nA, nB, nC]
   refine qs rfl ?_
   simp only [nA, nB, nC]
   refine qs rfl ?_
   simp only [nA, nB, nC]
   refine qs rfl ?_
   simp only [nA, nB, nC]
   refine qs rfl ?_
   simp only [nA, nB, nC]
   refine qv (.bool true) ?_
   simp only [nA, nB, nC]
   refine we ?_
   go_upto_region 3 with fail
   refine rl ?_
   refine qv .nilIface ?_
   refine qv (.bool false) ?_
   simp only [nA, nB, nC]
   refine we ?_
   go_wp2_with fail
   go_ret2
   exact .inr ⟨HZ0.out.symm.trans (let_many (by rw [HLD.out]; rintro ⟨h8, -⟩; have h9 := of_decide_eq_true Hhb7.out; omega)), HF0.out, rfl, _, HM.out⟩
  ·have HSU : Hid (IntKind.i64.wrap (((L : Nat) : Int) + 1) = ((L + 1 : Nat) : Int)) := hid (by have h9 := of_decide_eq_false Hhb7.out; rw [IntWalk.i64_in _ ⟨by omega, by omega⟩]; omega)
   refine wp_yg (v := (.bool false)) rfl (y_bin (k := .i64) (k' := .i64) (m := ((L : Nat) : Int)) (n := 8) rfl (hr := bgtr_int ((L : Nat) : Int) 8 false Hhb7.out)) rfl ?_
   try simp only [nA, nB, nC]
   refine qv (.bool false) ?_
   refine qv (.bool false) ?_
   simp only [nA, nB, nC]
   refine wp_yg (v := (.pointer (some ⟨g1, 3, none⟩))) rfl (y_faddr rfl (hf := fa_api_Node_3 g1 0)) rfl ?_
   try simp only [nA, nB, nC]
   refine wp_yg (v := (.slice a N c)) rfl (y_load rfl (hl := fun w' h => by rw [h]; exact load1 Tryz.isAgg22 (cell_at K2.out 3 rfl))) rfl ?_
   try simp only [nA, nB, nC]
   refine wp_yg (v := (.int .i64 (((N : Nat) : Int)))) rfl (y_lenT len_Sapi_Node (p := a) (n := N) (c := c) rfl (by kernel_rfl) (by kernel_rfl)) rfl ?_
   try simp only [nA, nB, nC]
   refine qg (.int .i64 (((L : Nat) : Int))) rfl ?_
   simp only [nA, nB, nC]
   refine wp_yg (v := (.int .i64 (((L + 1 : Nat) : Int)))) rfl (y_bin (k := .i64) (k' := .i64) (m := ((L : Nat) : Int)) (n := 1) rfl (hr := badd_int ((L : Nat) : Int) 1 ((L + 1 : Nat) : Int) HSU.out)) rfl ?_
   try simp only [nA, nB, nC]
   rcases bt ((((N : Nat) : Int) != ((L + 1 : Nat) : Int))) with Hhb8 | Hhb8
   ·refine wp_yg (v := (.bool true)) rfl (y_bin (k := .i64) (k' := .i64) (m := ((N : Nat) : Int)) (n := ((L + 1 : Nat) : Int)) rfl (hr := bneq_int ((N : Nat) : Int) ((L + 1 : Nat) : Int) true Hhb8.out)) rfl ?_
    try simp only [nA, nB, nC]
    refine qv (.bool true) ?_
    simp only [nA, nB, nC]
    refine we ?_
    go_upto_region 3 with fail
    refine rl ?_
    refine qv .nilIface ?_
    refine qv (.bool false) ?_
    simp only [nA, nB, nC]
    refine we ?_
    go_wp2_with fail
    go_ret2
    exact .inr ⟨HZ0.out.symm.trans (let_many (by rw [HLD.out, HNN.out]; rintro ⟨-, h8⟩; have h9 := Hhb8.out; simp at h9; omega)), HF0.out, rfl, _, HM.out⟩
   ·have hnl : N = L + 1 := by have h9 := Hhb8.out; simp at h9; omega
    have HNL := hid hnl
    obtain ⟨x, hx⟩ : ∃ x, kids[L]? = some x := ⟨_, List.getElem?_eq_getElem (by rw [HNN.out, hnl]; omega)⟩
    have HOKX := hid (HOK.out.kid hx)
    obtain ⟨b2, o2, k2, tx2, n2, xs2, at2, a2, c2, ha2, rfl, hcl2, hnd2⟩ := Nd.kid HN0.out hx
    have HA2 := hid ha2
    have HX0 := hid hx
    obtain ⟨N2, hN2⟩ : ∃ x, xs2.length = x := ⟨_, rfl⟩
    rw [hN2] at hcl2 hnd2
    have HCL2 := hid hcl2
    have HNX0 := hid hnd2
    clear ha2 hcl2 hnd2 hN2 hnl hx
    have HL8 : Hid (L ≤ 8) := hid (by have h9 := of_decide_eq_false Hhb7.out; omega)
    have HLT8 : Hid ((kids.take L).length ≤ 8) := hid (by rw [List.length_take]; have := HL8.out; omega)
    have HOKP : Hid (∀ t ∈ kids.take L, t.Ok) := hid (fun t ht => by obtain ⟨j, hj⟩ := List.getElem?_of_mem (List.mem_of_mem_take ht); exact HOK.out.kid hj)
    have hm1 := Hhb5.out
    rw [Bool.and_eq_true, decide_eq_true_eq] at hm1
    have HM1 : Hid (0 ≤ m - 1 ∧ m - 1 ≤ 8192) := hid ⟨hm1.1, by have := HMM.out; omega⟩
    have HLE := hid (let_eq (at_ := at_) m HLD.out (by rw [HNN.out]; exact HNL.out) HL8.out HX0.out hm1.2)
    clear hm1
    obtain ⟨a3, c3, a4, c4, hs1, -, hs3⟩ := Kds.split HN0.out.kds (L := L) (by have h1 := HNL.out; rw [HNN.out]; omega)
    have HSP := hid hs1
    have HSK := hid hs3
    clear hs1 hs3
    obtain ⟨M2, hM2⟩ : ∃ x, lfts (kids.take L) (m - 1) = x := ⟨_, rfl⟩
    have HME := hid hM2
    clear hM2
    refine wp_yg (v := (.bool false)) rfl (y_bin (k := .i64) (k' := .i64) (m := ((N : Nat) : Int)) (n := ((L + 1 : Nat) : Int)) rfl (hr := bneq_int ((N : Nat) : Int) ((L + 1 : Nat) : Int) false Hhb8.out)) rfl ?_
    try simp only [nA, nB, nC]
    refine qv (.bool false) ?_
    simp only [nA, nB, nC]
    refine we ?_
    go_upto_region 4 with fail
    obtain ⟨w9, hwd⟩ : ∃ x, x = w6.drew := ⟨_, rfl⟩
    have HB10 : Hid (Below w6.heap.size w6 w9) := hid (by rw [hwd]; exact ⟨rfl, rfl, rfl, Nat.le_refl _, fun _ _ => rfl⟩)
    refine h_openL (S := fun x => Fr [p] w9 x) (by kernel_rfl) (by kernel_rfl) (fun _ _ _ _ _ h => h) (L := #[false, false, false, false, false, false, false, false, false, false, false, false, false]) (by kernel_rfl) ?_
    intro Q' hns hP hN
    rw [← hwd]
    clear hwd
    replace K2 := ka HB10 K2
    replace HF0 := kf HF0 HB10
    replace HM := ka HB10 HM
    have hS : Fr [p] w9 w9 := Fr.refl _ _
    refine h_takeL (i := 0) (v := (.pointer (some ⟨p, 0, none⟩))) hns rfl rfl (by kernel_rfl) (by kernel_rfl) hP (y_move rfl) hS rfl (L' := #[true, false, false, false, false, false, false, false, false, false, false, false, false]) (by kernel_rfl) ?_
    try simp only [nA, nB, nC]
    refine h_takeL (i := 1) (v := (.pointer (some ⟨g1, 1, none⟩))) hns rfl rfl (by kernel_rfl) (by kernel_rfl) hP (y_faddr rfl (hf := fa_api_Node_1 g1 0)) hS rfl (L' := #[true, true, false, false, false, false, false, false, false, false, false, false, false]) (by kernel_rfl) ?_
    try simp only [nA, nB, nC]
    refine h_takeL (i := 2) (v := (strV tx)) hns rfl rfl (by kernel_rfl) (by kernel_rfl) hP (y_load rfl (hl := fun w' h => load1 Tryz.isAgg9 (cell_at (Fr.at h K2.out (not_mkr K2.out HM.out (by decide))) 1 rfl))) hS rfl (L' := #[true, true, true, false, false, false, false, false, false, false, false, false, false]) (by kernel_rfl) ?_
    try simp only [nA, nB, nC]
    refine h_takeL (i := 3) (v := (.pointer (some ⟨g1, 3, none⟩))) hns rfl rfl (by kernel_rfl) (by kernel_rfl) hP (y_faddr rfl (hf := fa_api_Node_3 g1 0)) hS rfl (L' := #[true, true, true, true, false, false, false, false, false, false, false, false, false]) (by kernel_rfl) ?_
    try simp only [nA, nB, nC]
    refine h_takeL (i := 4) (v := (.slice a N c)) hns rfl rfl (by kernel_rfl) (by kernel_rfl) hP (y_load rfl (hl := fun w' h => load1 Tryz.isAgg22 (cell_at (Fr.at h K2.out (not_mkr K2.out HM.out (by decide))) 3 rfl))) hS rfl (L' := #[true, true, true, true, true, false, false, false, false, false, false, false, false]) (by kernel_rfl) ?_
    try simp only [nA, nB, nC]
    refine h_takeL (i := 5) (v := (.int .i64 (((L : Nat) : Int)))) hns rfl rfl (by kernel_rfl) (by kernel_rfl) hP (y_move rfl) hS rfl (L' := #[true, true, true, true, true, true, false, false, false, false, false, false, false]) (by kernel_rfl) ?_
    try simp only [nA, nB, nC]
    refine h_takeL (i := 6) (v := (.slice a3 L c3)) hns rfl rfl (by kernel_rfl) (by kernel_rfl) hP (y_slice rfl (by kernel_rfl) (by kernel_rfl) (by kernel_rfl) (by kernel_rfl) (by kernel_rfl) HSP.out) hS rfl (L' := #[true, true, true, true, true, true, true, false, false, false, false, false, false]) (by kernel_rfl) ?_
    try simp only [nA, nB, nC]
    have HSZ1 : Hid (w.heap.size ≤ w9.heap.size) := hid HF0.out.size
    refine h_callL (i := 7) (f := 72) (args := #[(.pointer (some ⟨p, 0, none⟩)), (strV tx), (.slice a3 L c3)]) (by kernel_rfl) rfl rfl (by kernel_rfl) (enter_go rfl (by kernel_rfl) (fun w => by go_simp)) (L' := #[true, true, true, true, true, true, true, true, false, false, false, false, false]) (by kernel_rfl) ?_
    have HCA := hid (head_any (tx := tx) (HSK.out _ (HN0.out.fr HF0.out HM0.out).kds).1 HOKP.out HLT8.out HM1.out.1 HM1.out.2 HM.out)
    refine HCA.out.mono ?_
    rintro e w11 (⟨hR, hF, u1, he, hx, hm⟩ | ⟨hR, hF, he, m9, hm⟩)
    ·subst he
     replace hS := hS.trans hF (by simp)
     refine ⟨_, rfl, hS, ?_⟩
     rw [HME.out] at hm
     have HR1 := hid hR
     have HU1 := hid hx
     clear hR hx
     have HFF := hid hF
     clear hF
     replace K2 := hid (Fr.at HFF.out K2.out (not_mkr K2.out HM.out (by decide)))
     replace HF0 := hid (HF0.out.trans HFF.out (by simp))
     replace HM := hid hm
     clear hm HFF
     have HM2 : Hid (0 ≤ M2 ∧ M2 ≤ 8192) := hid (by have h9 := HR1.out; simp only [Bool.and_eq_true, decide_eq_true_eq] at h9; rw [HME.out] at h9; have h8 := (lfts_le (kids.take L) (fun t _ => lft_le t) (m - 1) (by have := HM1.out; omega)).2; rw [HME.out] at h8; have := HM1.out; omega)
     try simp only [nA, nB, nC]
     refine h_takeL (i := 8) (v := (.tuple #[u1, (.bool true)])) hns rfl rfl (by kernel_rfl) (by kernel_rfl) hP (y_move rfl) hS rfl (L' := #[true, true, true, true, true, true, true, true, true, false, false, false, false]) (by kernel_rfl) ?_
     try simp only [nA, nB, nC]
     refine h_takeL (i := 9) (v := u1) hns rfl rfl (by kernel_rfl) (by kernel_rfl) hP (y_ext rfl (hr := ext2_0 u1 (.bool true))) hS rfl (L' := #[true, true, true, true, true, true, true, true, true, true, false, false, false]) (by kernel_rfl) ?_
     try simp only [nA, nB, nC]
     refine h_takeL (i := 10) (v := (.bool true)) hns rfl rfl (by kernel_rfl) (by kernel_rfl) hP (y_ext rfl (hr := ext2_1 u1 (.bool true))) hS rfl (L' := #[true, true, true, true, true, true, true, true, true, true, true, false, false]) (by kernel_rfl) ?_
     try simp only [nA, nB, nC]
     refine h_takeL (i := 11) (v := u1) hns rfl rfl (by kernel_rfl) (by kernel_rfl) hP (y_assign rfl) hS rfl (L' := #[true, true, true, true, true, true, true, true, true, true, true, true, false]) (by kernel_rfl) ?_
     try simp only [nA, nB, nC]
     refine h_takeL (i := 12) (v := (.bool true)) hns rfl rfl (by kernel_rfl) (by kernel_rfl) hP (y_assign rfl) hS rfl (L' := #[true, true, true, true, true, true, true, true, true, true, true, true, true]) (by kernel_rfl) ?_
     try simp only [nA, nB, nC]
     refine wpAnyH_done (by kernel_rfl) ?_ _
     refine hN _ _ ?_
     clear hP hN hns hS
     go_upto_region 5 with fail
     refine rl ?_
     refine qv (.bool true) ?_
     simp only [nA, nB, nC]
     refine wp_y (v := (.bool false)) rfl rfl (y_un (p := .bool true) rfl (by kernel_rfl) (by kernel_rfl) (fun w => qnotB true w)) rfl ?_
     simp only [nA, nB, nC]
     refine we ?_
     go_upto_region 7 with fail
     refine rl ?_
     refine qv (.pointer (some ⟨p, 0, none⟩)) ?_
     refine qf (fa_api_Node_3 g1 0) ?_
     refine ql (.slice a N c) Tryz.isAgg22 3 K2 ?_
     refine qv (.int .i64 (((L : Nat) : Int))) ?_
     simp only [nA, nB, nC]
     refine wp_y (v := (.pointer (some ⟨b2, o2 + L * 5, none⟩))) rfl rfl (y_index (p := (.slice a N c)) (k := (.int .i64 (((L : Nat) : Int)))) rfl (by kernel_rfl) (by kernel_rfl) (by kernel_rfl) (fun w => by rw [HA2.out]; exact idx24 b2 o2 N c L (by have := HNL.out; omega) w)) rfl ?_
     simp only [nA, nB, nC]
     refine wp_y (v := (nv k2 tx2 n2 (.slice a2 N2 c2) at2)) rfl rfl (y_load rfl (hl := fun w' h => by rw [h]; exact load24 (HCL2.out.fr HF0.out HM0.out))) rfl ?_
     simp only [nA, nB, nC]
     have HSZ2 : Hid (w.heap.size ≤ w11.heap.size) := hid HF0.out.size
     refine qc #[(.pointer (some ⟨p, 0, none⟩)), (nv k2 tx2 n2 (.slice a2 N2 c2) at2)] ?_
     have HCA := hid (outer_any (.mk k2 tx2 n2 xs2 at2) (B := B) HOKX.out HM2.out.1 HM2.out.2 HM.out HBP.out (Nat.le_trans HBW.out HF0.out.size) (HTB.out.on (fr_below HF0.out HBW.out HBP.out)) (HNX0.out.fr HF0.out HM0.out))
     refine HCA.out.mono ?_
     rintro e w12 (⟨hR, hF, u2, he, hx, hm⟩ | ⟨hR, hF, he, m9, hm⟩)
     ·subst he
      refine ⟨_, rfl, ?_⟩
      have HR2 := hid hR
      have HU2 := hid hx
      clear hR hx
      have HFF := hid hF
      clear hF
      replace K2 := hid (Fr.at HFF.out K2.out (not_mkr K2.out HM.out (by decide)))
      replace HU1 := hid (HU1.out.keep (kx_fr HFF.out HM.out))
      replace HF0 := hid (HF0.out.trans HFF.out (by simp))
      replace HM := hid hm
      clear hm HFF
      try simp only [Act.put, nA, nB, nC]
      refine qv (.tuple #[u2, (.bool true)]) ?_
      refine qv u2 ?_
      refine qv (.bool true) ?_
      refine qv u2 ?_
      simp only [nA, nB, nC]
      refine qv (.bool true) ?_
      simp only [nA, nB, nC]
      refine we ?_
      go_upto_region 8 with fail
      refine rl ?_
      refine qv (.bool true) ?_
      simp only [nA, nB, nC]
      refine wp_y (v := (.bool false)) rfl rfl (y_un (p := .bool true) rfl (by kernel_rfl) (by kernel_rfl) (fun w => qnotB true w)) rfl ?_
      simp only [nA, nB, nC]
      refine we ?_
      go_upto_region 10 with fail
      refine rl ?_
      refine wp_y (v := (.iface 64 (strV [108, 101, 116, 32]))) rfl rfl (y_mkI rfl (by kernel_rfl) (by kernel_rfl) (fun w => mk_show_word _ w)) rfl ?_
      simp only [nA, nB, nC]
      refine qv u1 ?_
      simp only [nA, nB, nC]
      refine wp_y (v := (.iface 64 (strV [32, 61, 32]))) rfl rfl (y_mkI rfl (by kernel_rfl) (by kernel_rfl) (fun w => mk_show_word _ w)) rfl ?_
      simp only [nA, nB, nC]
      refine qv u2 ?_
      simp only [nA, nB, nC]
      obtain ⟨w15, g13, hbx, hbk, hbb, hge⟩ := bsw_show_row_4 w12 (.iface 64 (strV [108, 101, 116, 32])) u1 (.iface 64 (strV [32, 61, 32])) u2 rfl HU1.out.now.cl rfl HU2.out.now.cl
      have K14 := hid hbk
      have HB16 := hid hbb
      have HX := hid hbx
      have Gg13 : Hid (w12.heap.size ≤ g13) := hid hge
      have GWg13 : Hid (w.heap.size ≤ g13) := hid (Nat.le_trans HF0.out.size hge)
      clear hbx hbk hbb hge
      refine wp_run (v := (.slice (some ⟨g13, 0, none⟩) 4 4)) rfl rfl (run_bsOp rfl (by kernel_rfl) HX.out) rfl ?_
      try simp only [nA, nB, nC]
      replace K2 := ka HB16 K2
      replace HF0 := kf HF0 HB16
      replace HM := ka HB16 HM
      replace HU1 := hid (HU1.out.keep (kx_below HB16.out))
      replace HU2 := hid (HU2.out.keep (kx_below HB16.out))
      refine wp_y (v := (.iface 66 (.slice (some ⟨g13, 0, none⟩) 4 4))) rfl rfl (y_mkI rfl (by kernel_rfl) (by kernel_rfl) (fun w => mk_show_row _ w)) rfl ?_
      simp only [nA, nB, nC]
      refine qv (.iface 66 (.slice (some ⟨g13, 0, none⟩) 4 4)) ?_
      refine qv (.bool true) ?_
      simp only [nA, nB, nC]
      refine we ?_
      go_wp2_with fail
      go_ret2
      refine .inl ⟨?_, HF0.out, _, rfl, ?_, ?_⟩
      ·exact HZ0.out.symm.trans (by rw [HLE.out, HR1.out, HME.out, HR2.out]; rfl)
      ·rw [letW, HLD.out, show kids.getD L (.mk 0 [] 0 [] 0) = (.mk k2 tx2 n2 xs2 at2) from by rw [List.getD_eq_getElem?_getD, HX0.out]; rfl]
       exact Wsx.row (ks := [_, _, _, _]) (Wsx.four K14.out (by have := GWg13.out; omega) (Wx.word _) (HU1.out.less HSZ1.out) (Wx.word _) (HU2.out.less HSZ2.out))
      ·rw [lft_one (by rw [HNN.out]; exact HNL.out) HX0.out (by rw [HME.out]; exact HM2.out.1), HME.out]
       exact HM.out
     ·subst he
      refine ⟨_, rfl, ?_⟩
      have HR2 := hid hR
      clear hR
      have HFF := hid hF
      clear hF
      replace K2 := hid (Fr.at HFF.out K2.out (not_mkr K2.out HM.out (by decide)))
      replace HU1 := hid (HU1.out.keep (kx_fr HFF.out HM.out))
      replace HF0 := hid (HF0.out.trans HFF.out (by simp))
      replace HM := hid hm
      clear hm HFF
      try simp only [Act.put, nA, nB, nC]
      refine qv (.tuple #[.nilIface, (.bool false)]) ?_
      refine qv .nilIface ?_
      refine qv (.bool false) ?_
      refine qv .nilIface ?_
      simp only [nA, nB, nC]
      refine qv (.bool false) ?_
      simp only [nA, nB, nC]
      refine we ?_
      go_upto_region 8 with fail
      refine rl ?_
      refine qv (.bool false) ?_
      simp only [nA, nB, nC]
      refine wp_y (v := (.bool true)) rfl rfl (y_un (p := .bool false) rfl (by kernel_rfl) (by kernel_rfl) (fun w => qnotB false w)) rfl ?_
      simp only [nA, nB, nC]
      refine we ?_
      go_upto_region 9 with fail
      refine rl ?_
      refine qv .nilIface ?_
      refine qv (.bool false) ?_
      simp only [nA, nB, nC]
      refine we ?_
      go_wp2_with fail
      go_ret2
      exact .inr ⟨HZ0.out.symm.trans (by rw [HLE.out, HR1.out, HME.out, HR2.out]; rfl), HF0.out, rfl, _, HM.out⟩
    ·subst he
     replace hS := hS.trans hF (by simp)
     refine ⟨_, rfl, hS, ?_⟩
     have HR1 := hid hR
     clear hR
     have HFF := hid hF
     clear hF
     replace K2 := hid (Fr.at HFF.out K2.out (not_mkr K2.out HM.out (by decide)))
     replace HF0 := hid (HF0.out.trans HFF.out (by simp))
     replace HM := hid hm
     clear hm HFF
     try simp only [nA, nB, nC]
     refine h_takeL (i := 8) (v := (.tuple #[.nilIface, (.bool false)])) hns rfl rfl (by kernel_rfl) (by kernel_rfl) hP (y_move rfl) hS rfl (L' := #[true, true, true, true, true, true, true, true, true, false, false, false, false]) (by kernel_rfl) ?_
     try simp only [nA, nB, nC]
     refine h_takeL (i := 9) (v := .nilIface) hns rfl rfl (by kernel_rfl) (by kernel_rfl) hP (y_ext rfl (hr := ext2_0 .nilIface (.bool false))) hS rfl (L' := #[true, true, true, true, true, true, true, true, true, true, false, false, false]) (by kernel_rfl) ?_
     try simp only [nA, nB, nC]
     refine h_takeL (i := 10) (v := (.bool false)) hns rfl rfl (by kernel_rfl) (by kernel_rfl) hP (y_ext rfl (hr := ext2_1 .nilIface (.bool false))) hS rfl (L' := #[true, true, true, true, true, true, true, true, true, true, true, false, false]) (by kernel_rfl) ?_
     try simp only [nA, nB, nC]
     refine h_takeL (i := 11) (v := .nilIface) hns rfl rfl (by kernel_rfl) (by kernel_rfl) hP (y_assign rfl) hS rfl (L' := #[true, true, true, true, true, true, true, true, true, true, true, true, false]) (by kernel_rfl) ?_
     try simp only [nA, nB, nC]
     refine h_takeL (i := 12) (v := (.bool false)) hns rfl rfl (by kernel_rfl) (by kernel_rfl) hP (y_assign rfl) hS rfl (L' := #[true, true, true, true, true, true, true, true, true, true, true, true, true]) (by kernel_rfl) ?_
     try simp only [nA, nB, nC]
     refine wpAnyH_done (by kernel_rfl) ?_ _
     refine hN _ _ ?_
     clear hP hN hns hS
     go_upto_region 5 with fail
     refine rl ?_
     refine qv (.bool false) ?_
     simp only [nA, nB, nC]
     refine wp_y (v := (.bool true)) rfl rfl (y_un (p := .bool false) rfl (by kernel_rfl) (by kernel_rfl) (fun w => qnotB false w)) rfl ?_
     simp only [nA, nB, nC]
     refine we ?_
     go_upto_region 6 with fail
     refine rl ?_
     refine qv .nilIface ?_
     refine qv (.bool false) ?_
     simp only [nA, nB, nC]
     refine we ?_
     go_wp2_with fail
     go_ret2
     exact .inr ⟨HZ0.out.symm.trans (by rw [HLE.out, HR1.out]; rfl), HF0.out, rfl, _, HM.out⟩
 ·refine wp_call (f := 45) (args := #[(.pointer (some ⟨p, 0, none⟩)), (nv k tx n (.slice a N c) at_), (.int .i64 3)]) (by kernel_rfl) (fun w => by go_simp) ?_
  have HCA := hid (isNamed_any HM.out HMM.out.1 HMM.out.2 (HN0.out.fr HF0.out HM0.out) HT.out 3)
  refine HCA.out.mono ?_
  rintro e w17 ⟨he, hF, hm⟩
  rw [Hhb5.out] at he
  subst he
  refine ⟨_, rfl, ?_⟩
  have HFF := hid hF
  clear hF
  replace K2 := hid (Fr.at HFF.out K2.out (not_mkr K2.out HM.out (by decide)))
  replace HF0 := hid (HF0.out.trans HFF.out (by simp))
  replace HM := hid hm
  clear hm HFF
  try simp only [Act.put, nA, nB, nC]
  refine wp_y (v := (.bool true)) rfl rfl (y_un (p := .bool false) rfl (by kernel_rfl) (by kernel_rfl) (fun w => qnotB false w)) rfl ?_
  simp only [nA, nB, nC]
  refine qv (.bool true) ?_
  simp only [nA, nB, nC]
  refine qs rfl ?_
  simp only [nA, nB, nC]
  refine qs rfl ?_
  simp only [nA, nB, nC]
  refine qv (.bool true) ?_
  refine qv (.bool true) ?_
  simp only [nA, nB, nC]
  refine qs rfl ?_
  simp only [nA, nB, nC]
  refine qs rfl ?_
  simp only [nA, nB, nC]
  refine qs rfl ?_
  simp only [nA, nB, nC]
  refine qs rfl ?_
  simp only [nA, nB, nC]
  refine qs rfl ?_
  simp only [nA, nB, nC]
  refine qs rfl ?_
  simp only [nA, nB, nC]
  refine qv (.bool true) ?_
  simp only [nA, nB, nC]
  refine we ?_
  go_upto_region 3 with fail
  refine rl ?_
  refine qv .nilIface ?_
  refine qv (.bool false) ?_
  simp only [nA, nB, nC]
  refine we ?_
  go_wp2_with fail
  go_ret2
  exact .inr ⟨HZ0.out.symm.trans (let_named Hhb5.out), HF0.out, rfl, _, HM.out⟩
theorem Wo.one {n : Nat} {w : World} {g : Nat} {u : Value} {x : Wr} (hg : w.heap[g]? = some (.cells #[u] 36 (0, 0))) (hn : n ≤ g) (hx : Wx (fun b => b < n ∨ some g = some b) w u x) : Wo n w (.slice (some ⟨g, 0, none⟩) 1 1) [x] := by
 refine ⟨[u], ⟨rfl, .inr ⟨g, 1, #[u], rfl, hn, hg, Nat.le_refl _, by unfold maxLen; omega, rfl, rfl⟩⟩, fun i y hi => ?_⟩
 match i, hi with
 | 0, hi => cases hi; exact ⟨u, rfl, hx⟩
theorem Wo.appR {n : Nat} {w : World} {v u : Value} {xs : List Wr} {x : Wr} (h : Wo n w v xs) (hu : Wx (fun b => b < n ∨ v.ownBlock = some b) w u x) (hlen : xs.length + 1 ≤ 10000) (hn : n ≤ w.heap.size) {g : Nat} (hg : w.heap[g]? = some (.cells #[u] 36 (0, 0))) :
  ∃ v' w', (∀ ty, (Builtin.append_ #[67, 67] ty #[v, .slice (some ⟨g, 0, none⟩) 1 1]).run Tryz.prog w = .ok v' w') ∧ Wo n w' v' (xs ++ [x]) ∧ Fr v.ownBlock.toList w w' := by
 obtain ⟨vs, ho, hx⟩ := h
 obtain ⟨i0, hi, hz0, hz1, hz2⟩ := inf37
 obtain ⟨t, pv, rfl⟩ := hu.ifc
 have key := fun ty => run_append_own_at (P := Tryz.prog) (w := w) n 67 ty 36 i0 .nilIface 1 16 (by kernel_rfl) hi hz0 hz1 hz2 rfl (by decide) v _ vs ho ⟨g, 0, none⟩ 1 1 [.iface t pv] rfl (fun j u hj => by
  match j, hj with
  | 0, hj => cases hj; rw [add_lit]; exact cell_at hg 0 rfl) (fun u hu => by simp at hu; subst hu; rfl) (by unfold maxLen; omega) (by omega) hn
 obtain ⟨v', w', h1, h2, h3, -, h5⟩ := key 0
 have hF := grown_fr h3
 have hl : vs.length = xs.length := by simpa using ho.1
 have hK : Kx (fun b => b < n ∨ v.ownBlock = some b) w w' := fun b cs z hb hh => hF.at hh (fun hm => hb (.inr (by simpa using hm)))
 have hne : ∀ b cs z, w.heap[b]? = some (Obj.cells cs 36 z) → ¬ (b < n ∨ v.ownBlock = some b) → ¬ (b < n ∨ v'.ownBlock = some b) := by
  intro b cs z hb hc hd
  rcases hd with hd | hd
  ·exact hc (.inl hd)
  ·rcases h5 with h5 | h5
   ·exact hc (.inr (by rw [← h5]; exact hd))
   ·have := heap_lt hb
    rw [h5] at hd; cases hd; omega
 refine ⟨v', w', fun ty => h1, ⟨vs ++ [.iface t pv], by rw [List.length_append]; exact h2, fun i y hi => ?_⟩, hF⟩
 by_cases hlt : i < xs.length
 ·rw [List.getElem?_append_left hlt] at hi
  obtain ⟨u, e1, e2⟩ := hx i y hi
  exact ⟨u, by rw [List.getElem?_append_left (by omega)]; exact e1, e2.other hK hne⟩
 ·rw [List.getElem?_append_right (by omega)] at hi
  have hi0 : i = xs.length := by
   have := (List.getElem?_eq_some_iff.1 hi).1
   simp at this; omega
  subst hi0
  simp at hi
  subst hi
  exact ⟨_, by rw [List.getElem?_append_right (by omega)]; simp [hl], hu.other hK hne⟩
theorem lfts_app : ∀ (xs ys : List Tr) (m : Int), 0 ≤ lfts xs m → lfts (xs ++ ys) m = lfts ys (lfts xs m)
 | [], ys, m, _ => by rw [List.nil_append, lfts]
 | x :: r, ys, m, h => by
  obtain ⟨h0, h1, h2⟩ := lfts_cons_nn h
  rw [h2] at h ⊢
  rw [List.cons_append, ← lfts_app r ys _ h]
  rw [lfts, if_pos h0]
theorem mod_eq {k : Int} {tx : List UInt8} {n : Int} {ks : List Tr} {at_ : Int} (m : Int) {I : Nat} (hld : ldg 2 ks = I) (h1 : I ≤ 100) (h2 : ks.length - I ≤ 200) (hn : nmd 1 k tx n = true) :
  (modS (.mk k tx n ks at_) && decide (0 ≤ lft (.mk k tx n ks at_) m)) = (((ks.take I).all (brT 2) && decide (0 ≤ lfts (ks.take I) (m - 1))) && ((ks.drop I).all letS && decide (0 ≤ lfts (ks.drop I) (lfts (ks.take I) (m - 1))))) := by
 have e1 : modS (.mk k tx n ks at_) = ((ks.take I).all (brT 2) && (ks.drop I).all letS) := by
  rw [modS, hn, hld, decide_eq_true h1, decide_eq_true h2]
  rfl
 rw [e1]
 by_cases h0 : 0 ≤ lfts (ks.take I) (m - 1)
 ·rw [lft, ← lfts_app _ _ _ h0, List.take_append_drop, decide_eq_true h0, Bool.and_true, Bool.and_assoc]
 ·have h3 : ¬ 0 ≤ lft (.mk k tx n ks at_) m := by rw [lft, lfts_over ks I (m - 1) (by omega)]; exact h0
  rw [decide_eq_false h0, decide_eq_false h3]
  simp
theorem mod_named {k : Int} {tx : List UInt8} {n : Int} {ks : List Tr} {at_ m : Int} (h : (decide (0 ≤ m - 1) && nmd 1 k tx n) = false) : (modS (.mk k tx n ks at_) && decide (0 ≤ lft (.mk k tx n ks at_) m)) = false := by
 by_cases h0 : 0 ≤ m - 1
 ·rw [decide_eq_true h0, Bool.true_and] at h
  rw [modS, h]
  rfl
 ·rw [lft_none h0, Bool.and_false]
theorem mod_many {k : Int} {tx : List UInt8} {n : Int} {ks : List Tr} {at_ m : Int} (h : ¬ (ldg 2 ks ≤ 100 ∧ ks.length - ldg 2 ks ≤ 200)) : (modS (.mk k tx n ks at_) && decide (0 ≤ lft (.mk k tx n ks at_) m)) = false := by
 have : (decide (ldg 2 ks ≤ 100) && decide (ks.length - ldg 2 ks ≤ 200)) = false := by
  rw [Bool.eq_false_iff]
  intro hc
  simp only [Bool.and_eq_true, decide_eq_true_eq] at hc
  exact h hc
 rw [modS, this]
 simp
seal wpList in
theorem module_any {k : Int} {tx : List UInt8} {n : Int} {kids : List Tr} {at_ : Int} {B : Nat} {m : Int} {p : Nat} {w : World} {v : Value} (hok : Tr.Ok (.mk k tx n kids at_)) (h0 : 0 ≤ m) (h1 : m ≤ 8192) (hm : Mkr w p m) (hbp : B ≤ p) (hbw : B ≤ w.heap.size) (htb : Tb B w) (hnd : Nd w v (.mk k tx n kids at_)) : Calls Tryz.prog 27 #[.pointer (some ⟨p, 0, none⟩), v] w fun e w' =>
 ((modS (.mk k tx n kids at_) && decide (0 ≤ lft (.mk k tx n kids at_) m)) = true ∧ Fr [p] w w' ∧ ∃ u, e = .returned (.tuple #[u, .bool true]) ∧ Wx (fun b => b < w.heap.size) w' u (modW (.mk k tx n kids at_)) ∧ Mkr w' p (lft (.mk k tx n kids at_) m)) ∨ ((modS (.mk k tx n kids at_) && decide (0 ≤ lft (.mk k tx n kids at_) m)) = false ∧ Fr [p] w w' ∧ e = .returned (.tuple #[.nilIface, .bool false]) ∧ ∃ m', Mkr w' p m') := by
 have HOK := hid hok
 have HT := hid hok.text
 have HMM : Hid (0 ≤ m ∧ m ≤ 8192) := hid ⟨h0, h1⟩
 have HM := hid hm
 have HM0 := hid hm
 have HBP := hid hbp
 have HBW := hid hbw
 have HTB := hid htb
 have HN0 := hid hnd
 have HF0 := hid (Fr.refl [p] w)
 have hnl := nd_len hnd
 obtain ⟨a, c, rfl, -, -⟩ := hnd.open
 clear hok h0 h1 hm hbp hbw htb hnd
 have hld := ldg_le 2 kids
 obtain ⟨N, hN⟩ : ∃ N, kids.length = N := ⟨_, rfl⟩
 rw [hN] at HN0 hld hnl ⊢
 have HNN := hid hN
 obtain ⟨I, hI⟩ : ∃ I, ldg 2 kids = I := ⟨_, rfl⟩
 rw [hI] at hld
 have HLD := hid hI
 have HIN := hid hld
 have HSB : Hid (IntKind.i64.wrap (((N : Nat) : Int) - ((I : Nat) : Int)) = (((N - I : Nat)) : Int)) := hid (by rw [IntWalk.i64_in _ ⟨by omega, by omega⟩]; omega)
 clear hN hI hld hnl
 obtain ⟨Z, hZ⟩ : ∃ Z, (modS (.mk k tx n kids at_) && decide (0 ≤ lft (.mk k tx n kids at_) m)) = Z := ⟨_, rfl⟩
 rw [hZ]
 have HZ0 := hid hZ
 clear hZ
 go_enter Tryz.func27, Tryz.ntmps27
 go_upto_region 0 with fail
 refine rl ?_
 obtain ⟨w3, g1, (HX : Hid _), (K2 : Hid _), (HB4 : Hid _), (GV : Hid _)⟩ := box_g 24 w #[(.int .i64 k), (strV tx), (.int .i64 n), (.slice a N c), (.int .i64 at_)]
 refine wp_run (v := (.pointer (some ⟨g1, 0, none⟩))) rfl rfl (run_boxOp rfl (by kernel_rfl) HX.out) rfl ?_
 try simp only [nA, nB, nC]
 replace HF0 := kf HF0 HB4
 replace HM := ka HB4 HM
 refine qv .nilIface ?_
 refine qv (.bool false) ?_
 simp only [nA, nB, nC]
 refine we ?_
 go_upto_region 1 with fail
 refine rl ?_
 refine qf (fa_api_Node_3 g1 0) ?_
 refine ql (.slice a N c) Tryz.isAgg22 3 K2 ?_
 simp only [nA, nB, nC]
 refine qc #[(.slice a N c), (.int .i64 2)] ?_
 have HCA := hid (leading_any (HN0.out.fr HF0.out HM0.out).kds 2)
 refine HCA.out.mono ?_
 rintro e wz ⟨he, hwz⟩
 rw [HLD.out] at he
 subst he
 refine ⟨_, rfl, ?_⟩
 obtain rfl := hwz.symm
 try simp only [Act.put, nA, nB, nC]
 refine qv (.int .i64 (((I : Nat) : Int))) ?_
 simp only [nA, nB, nC]
 refine we ?_
 go_upto_region 2 with fail
 refine rl ?_
 refine qf (fa_api_Node_3 g1 0) ?_
 refine ql (.slice a N c) Tryz.isAgg22 3 K2 ?_
 simp only [nA, nB, nC]
 refine wp_y (v := (.int .i64 (((N : Nat) : Int)))) rfl rfl (y_lenT len_Sapi_Node (p := a) (n := N) (c := c) rfl (by kernel_rfl) (by kernel_rfl)) rfl ?_
 simp only [nA, nB, nC]
 refine qv (.int .i64 (((I : Nat) : Int))) ?_
 refine qb (bsub_int ((N : Nat) : Int) ((I : Nat) : Int) (((N - I : Nat)) : Int) HSB.out) ?_
 refine qv (.int .i64 ((((N - I : Nat)) : Int))) ?_
 simp only [nA, nB, nC]
 refine we ?_
 go_upto_region 3 with fail
 refine rl ?_
 refine qv (.pointer (some ⟨p, 0, none⟩)) ?_
 refine qk (nv k tx n (.slice a N c) at_) Tryz.isAgg24 K2 ?_
 simp only [nA, nB, nC]
 rcases bt ((decide (0 ≤ m - 1) && nmd 1 k tx n)) with Hhb5 | Hhb5
 ·refine wp_call (f := 45) (args := #[(.pointer (some ⟨p, 0, none⟩)), (nv k tx n (.slice a N c) at_), (.int .i64 1)]) (by kernel_rfl) (fun w => by go_simp) ?_
  have HCA := hid (isNamed_any HM.out HMM.out.1 HMM.out.2 (HN0.out.fr HF0.out HM0.out) HT.out 1)
  refine HCA.out.mono ?_
  rintro e w6 ⟨he, hF, hm⟩
  rw [Hhb5.out] at he
  subst he
  refine ⟨_, rfl, ?_⟩
  have HFF := hid hF
  clear hF
  replace K2 := hid (Fr.at HFF.out K2.out (not_mkr K2.out HM.out (by decide)))
  replace HF0 := hid (HF0.out.trans HFF.out (by simp))
  replace HM := hid hm
  clear hm HFF
  try simp only [Act.put, nA, nB, nC]
  refine wp_y (v := (.bool false)) rfl rfl (y_un (p := .bool true) rfl (by kernel_rfl) (by kernel_rfl) (fun w => qnotB true w)) rfl ?_
  simp only [nA, nB, nC]
  refine qv (.bool false) ?_
  simp only [nA, nB, nC]
  refine qg (.int .i64 (((I : Nat) : Int))) rfl ?_
  simp only [nA, nB, nC]
  rcases bt (decide ((100 : Int) < ((I : Nat) : Int))) with Hhb7 | Hhb7
  ·refine wp_yg (v := (.bool true)) rfl (y_bin (k := .i64) (k' := .i64) (m := ((I : Nat) : Int)) (n := 100) rfl (hr := bgtr_int ((I : Nat) : Int) 100 true Hhb7.out)) rfl ?_
   try simp only [nA, nB, nC]
   refine qv (.bool true) ?_
   refine qv (.bool true) ?_
   simp only [nA, nB, nC]
   refine qs rfl ?_
   simp only [nA, nB, nC]
   refine qs rfl ?_
   simp only [nA, nB, nC]
   refine qv (.bool true) ?_
   simp only [nA, nB, nC]
   refine we ?_
   go_upto_region 4 with fail
   refine rl ?_
   refine qv .nilIface ?_
   refine qv (.bool false) ?_
   simp only [nA, nB, nC]
   refine we ?_
   go_wp2_with fail
   go_ret2
   exact .inr ⟨HZ0.out.symm.trans (mod_many (by rw [HLD.out]; rintro ⟨h8, -⟩; have h9 := of_decide_eq_true Hhb7.out; omega)), HF0.out, rfl, _, HM.out⟩
  ·refine wp_yg (v := (.bool false)) rfl (y_bin (k := .i64) (k' := .i64) (m := ((I : Nat) : Int)) (n := 100) rfl (hr := bgtr_int ((I : Nat) : Int) 100 false Hhb7.out)) rfl ?_
   try simp only [nA, nB, nC]
   refine qv (.bool false) ?_
   refine qv (.bool false) ?_
   simp only [nA, nB, nC]
   refine qg (.int .i64 ((((N - I : Nat)) : Int))) rfl ?_
   simp only [nA, nB, nC]
   rcases bt (decide ((200 : Int) < (((N - I : Nat)) : Int))) with Hhb8 | Hhb8
   ·refine wp_yg (v := (.bool true)) rfl (y_bin (k := .i64) (k' := .i64) (m := (((N - I : Nat)) : Int)) (n := 200) rfl (by kernel_rfl) (by kernel_rfl) (by kernel_rfl) (bgtr_int (((N - I : Nat)) : Int) 200 true Hhb8.out)) rfl ?_
    try simp only [nA, nB, nC]
    refine qv (.bool true) ?_
    simp only [nA, nB, nC]
    refine we ?_
    go_upto_region 4 with fail
    refine rl ?_
    refine qv .nilIface ?_
    refine qv (.bool false) ?_
    simp only [nA, nB, nC]
    refine we ?_
    go_wp2_with fail
    go_ret2
    exact .inr ⟨HZ0.out.symm.trans (mod_many (by rw [HLD.out, HNN.out]; rintro ⟨-, h8⟩; have h9 := of_decide_eq_true Hhb8.out; omega)), HF0.out, rfl, _, HM.out⟩
   ·have HI1 : Hid (I ≤ 100) := hid (by have h9 := of_decide_eq_false Hhb7.out; omega)
    have HI2 : Hid (N - I ≤ 200) := hid (by have h9 := of_decide_eq_false Hhb8.out; omega)
    have hm1 := Hhb5.out
    rw [Bool.and_eq_true, decide_eq_true_eq] at hm1
    have HM1 : Hid (0 ≤ m - 1 ∧ m - 1 ≤ 8192) := hid ⟨hm1.1, by have := HMM.out; omega⟩
    have HLE := hid (mod_eq (at_ := at_) m HLD.out HI1.out (by rw [HNN.out]; exact HI2.out) hm1.2)
    clear hm1
    obtain ⟨a3, c3, a4, c4, hs1, hs2, hs3⟩ := Kds.split HN0.out.kds (L := I) (by rw [HNN.out]; exact HIN.out)
    rw [HNN.out] at hs2 hs3
    have HSP := hid hs1
    have HSQ := hid hs2
    obtain ⟨hk1, hk2⟩ := hs3 w HN0.out.kds
    obtain ⟨a5, c5, e5, -, hk1⟩ := hk1
    injection e5 with e6 e7 e8
    subst e6 e8
    have HK1 := hid hk1
    clear e7
    obtain ⟨a5, c5, e5, -, hk2⟩ := hk2
    injection e5 with e6 e7 e8
    subst e6 e8
    have HK2 := hid hk2
    clear hs1 hs2 hs3 hk1 hk2 e7
    have HL1 : Hid ((kids.take I).length = I) := hid (by rw [List.length_take, HNN.out]; have := HIN.out; omega)
    have HL2 : Hid ((kids.drop I).length = N - I) := hid (by rw [List.length_drop, HNN.out])
    refine wp_yg (v := (.bool false)) rfl (y_bin (k := .i64) (k' := .i64) (m := (((N - I : Nat)) : Int)) (n := 200) rfl (by kernel_rfl) (by kernel_rfl) (by kernel_rfl) (bgtr_int (((N - I : Nat)) : Int) 200 false Hhb8.out)) rfl ?_
    try simp only [nA, nB, nC]
    refine qv (.bool false) ?_
    simp only [nA, nB, nC]
    refine we ?_
    go_upto_region 5 with fail
    refine rl ?_
    refine wp_y (v := (.iface 64 (strV [109, 111, 100, 117, 108, 101, 32]))) rfl rfl (y_mkI rfl (by kernel_rfl) (by kernel_rfl) (fun w => mk_show_word _ w)) rfl ?_
    simp only [nA, nB, nC]
    refine qf (fa_api_Node_1 g1 0) ?_
    refine ql (strV tx) Tryz.isAgg9 1 K2 ?_
    simp only [nA, nB, nC]
    refine wp_y (v := (.iface 64 (strV tx))) rfl rfl (y_mkI rfl (by kernel_rfl) (by kernel_rfl) (fun w => mk_show_word _ w)) rfl ?_
    simp only [nA, nB, nC]
    obtain ⟨w11, g9, hbx, hbk, hbb, hge⟩ := bsw_show_row_2 w6 (.iface 64 (strV [109, 111, 100, 117, 108, 101, 32])) (.iface 64 (strV tx)) rfl rfl
    have K10 := hid hbk
    have HB12 := hid hbb
    have HX := hid hbx
    have Gg9 : Hid (w6.heap.size ≤ g9) := hid hge
    have GWg9 : Hid (w.heap.size ≤ g9) := hid (Nat.le_trans HF0.out.size hge)
    clear hbx hbk hbb hge
    refine wp_run (v := (.slice (some ⟨g9, 0, none⟩) 2 2)) rfl rfl (run_bsOp rfl (by kernel_rfl) HX.out) rfl ?_
    try simp only [nA, nB, nC]
    replace K2 := ka HB12 K2
    replace HF0 := kf HF0 HB12
    replace HM := ka HB12 HM
    refine wp_y (v := (.iface 66 (.slice (some ⟨g9, 0, none⟩) 2 2))) rfl rfl (y_mkI rfl (by kernel_rfl) (by kernel_rfl) (fun w => mk_show_row _ w)) rfl ?_
    simp only [nA, nB, nC]
    have HGR : Hid (g9 < w11.heap.size) := hid (heap_lt K10.out)
    obtain ⟨w15, g13, hbx, hbk, hbb, hge⟩ := bsw_show_rows_1 w11 (.iface 66 (.slice (some ⟨g9, 0, none⟩) 2 2)) rfl
    have K14 := hid hbk
    have HB16 := hid hbb
    have HX := hid hbx
    have Gg13 : Hid (w11.heap.size ≤ g13) := hid hge
    have GWg13 : Hid (w.heap.size ≤ g13) := hid (Nat.le_trans HF0.out.size hge)
    clear hbx hbk hbb hge
    refine wp_run (v := (.slice (some ⟨g13, 0, none⟩) 1 1)) rfl rfl (run_bsOp rfl (by kernel_rfl) HX.out) rfl ?_
    try simp only [nA, nB, nC]
    replace K2 := ka HB16 K2
    replace K10 := ka HB16 K10
    replace HF0 := kf HF0 HB16
    replace HM := ka HB16 HM
    have HW0 : Hid (Wo w.heap.size w15 (.slice (some ⟨g13, 0, none⟩) 1 1) [(.row [.word [109, 111, 100, 117, 108, 101, 32], .word tx])]) := hid (Wo.one K14.out GWg13.out (Wsx.row (ks := [_, _]) (Wsx.two K10.out (fun h => Or.elim (show _ ∨ _ from h) (fun h => by have := GWg9.out; omega) (fun h => by injection h with h; have := HGR.out; have := Gg13.out; omega)) (Wx.word _) (Wx.word _))))
    refine qv (.slice (some ⟨g13, 0, none⟩) 1 1) ?_
    simp only [nA, nB, nC]
    refine we ?_
    go_upto_region 6 with fail
    refine rl ?_
    refine qf (fa_api_Node_3 g1 0) ?_
    refine ql (.slice a N c) Tryz.isAgg22 3 K2 ?_
    refine qv (.int .i64 (((I : Nat) : Int))) ?_
    simp only [nA, nB, nC]
    refine wp_y (v := (.slice a3 I c3)) rfl rfl (y_slice rfl (by kernel_rfl) (by kernel_rfl) (by kernel_rfl) (by kernel_rfl) (by kernel_rfl) HSP.out) rfl ?_
    simp only [nA, nB, nC]
    refine wp_y (v := (.int .i64 (((I : Nat) : Int)))) rfl rfl (y_lenT len_Sapi_Node (p := a3) (n := I) (c := c3) rfl (by kernel_rfl) (by kernel_rfl)) rfl ?_
    simp only [nA, nB, nC]
    refine qv (.int .i64 0) ?_
    simp only [nA, nB, nC]
    refine we ?_
    go_wp2_with fail
    go_loopw [47, 8] (fun v47 v8 wr => ∃ j : Nat, j ≤ I ∧ v47 = .int .i64 j ∧ Wo w.heap.size wr v8 ((.row [.word [109, 111, 100, 117, 108, 101, 32], .word tx]) :: ((kids.take I).take j).map impW) ∧ ((kids.take I).take j).all (brT 2) = true ∧ 0 ≤ lfts ((kids.take I).take j) (m - 1) ∧ Mkr wr p (lfts ((kids.take I).take j) (m - 1)) ∧ Fr [p] w wr ∧ wr.heap[g1]? = some (.cells #[.int .i64 k, strV tx, .int .i64 n, .slice a N c, .int .i64 at_] 24 (0, 0))) (fun v47 _ _ => I - (intOf v47).toNat)
    case atStart =>
     exact ⟨0, Nat.zero_le _, rfl, by simpa using HW0.out, by simp, by rw [List.take_zero, lfts]; exact HM1.out.1, by rw [List.take_zero, lfts]; exact HM.out, HF0.out, K2.out⟩
    case round =>
     obtain ⟨j, hj, rfl, hw, ha, hn, hm, hF, hk⟩ := hrel
     clear HM HF0
     have HWO := hid hw
     have HAL := hid ha
     have HNN0 := hid hn
     have HM := hid hm
     have HF0 := hid hF
     have KN := hid hk
     have HJJ := hid hj
     clear hw ha hn hm hF hj hk
     go_upto_region 7 with fail
     refine rl ?_
     rcases bt (decide (((j : Nat) : Int) < ((I : Nat) : Int))) with Hhb17 | Hhb17
     ·have HLT : Hid (j < I) := hid (by have := of_decide_eq_true Hhb17.out; omega)
      have HS1 := hid (wrap_next (N := I) HLT.out (by have := HI1.out; have := HI2.out; omega))
      obtain ⟨t, ht⟩ : ∃ t, (kids.take I)[j]? = some t := ⟨_, List.getElem?_eq_getElem (by rw [HL1.out]; exact HLT.out)⟩
      obtain ⟨b, o, u, ha, hcl, hnd⟩ := HK1.out j t ht
      have HOKK : Hid (t.Ok) := hid (by obtain ⟨q, hq⟩ := List.getElem?_of_mem (List.mem_of_mem_take (List.mem_of_getElem? ht)); exact HOK.out.kid hq)
      obtain ⟨k', tx', n', ks', at'⟩ := t
      obtain ⟨a', c', rfl, -, -⟩ := hnd.open
      have HA := hid ha
      have HJ := hid ht
      have HCL := hid (load24 (hcl.fr HF0.out HM0.out))
      have HNK := hid (hnd.fr HF0.out HM0.out)
      obtain ⟨N', hN'⟩ : ∃ x, ks'.length = x := ⟨_, rfl⟩
      rw [hN'] at HCL HNK
      clear ha ht hcl hnd
      obtain ⟨MJ, hMJ⟩ : ∃ x, lfts ((kids.take I).take j) (m - 1) = x := ⟨_, rfl⟩
      rw [hMJ] at HM
      have HMJ := hid hMJ
      have HM8 : Hid (0 ≤ MJ ∧ MJ ≤ 8192) := hid (by rw [← hMJ]; have h8 := (lfts_le ((kids.take I).take j) (fun t _ => lft_le t) (m - 1) (by have := HM1.out; omega)).2; have := HM1.out; have := HNN0.out; omega)
      clear hMJ
      have HBA : Hid (∀ (w : World), Mkr w p MJ → Nd w (nv k' tx' n' (.slice a' N' c') at') (.mk k' tx' n' ks' at') → Calls Tryz.prog 46 #[.pointer (some ⟨p, 0, none⟩), (nv k' tx' n' (.slice a' N' c') at'), .int .i64 2] w fun e w' => e = .returned (.bool ((brT 2 (.mk k' tx' n' ks' at') && decide (0 ≤ lft (.mk k' tx' n' ks' at') MJ)))) ∧ Fr [p] w w' ∧ Mkr w' p (MJ - 1)) := hid (fun w h1 h2 => by have h3 := isBare_any h1 HM8.out.1 HM8.out.2 h2 HOKK.out.text 2; rw [bare_eq 2 k' tx' n' ks' at' MJ] at h3; exact h3)
      clear hN'
      refine qb (blss_int ((j : Nat) : Int) ((I : Nat) : Int) true Hhb17.out) ?_
      simp only [nA, nB, nC]
      refine we ?_
      go_upto_region 8 with fail
      refine rl ?_
      refine wp_y (v := (.pointer (some ⟨b, o + j * 5, none⟩))) rfl rfl (y_index (p := (.slice a3 I c3)) (k := (.int .i64 (((j : Nat) : Int)))) rfl (by kernel_rfl) (by kernel_rfl) (by kernel_rfl) (fun w => by rw [HA.out]; exact idx24 b o I c3 j HLT.out w)) rfl ?_
      simp only [nA, nB, nC]
      refine wp_y (v := (nv k' tx' n' (.slice a' N' c') at')) rfl rfl (y_load rfl (hl := fun w' h => by rw [h]; exact HCL.out)) rfl ?_
      simp only [nA, nB, nC]
      obtain ⟨wv, w20, g18, hx1, hx2, hbk, hbb, hge⟩ := var_api_Node wr k' tx' n' a' N' c' at'
      have K19 := hid hbk
      have HBV := hid hbb
      have HX1 := hid hx1
      have HX2 := hid hx2
      have GV := hid hge
      clear hx1 hx2 hbk hbb hge
      refine wp_run (v := (.pointer (some ⟨g18, 0, none⟩))) rfl rfl (run_alOp rfl HX1.out) rfl ?_
      try simp only [nA, nB, nC]
      refine wp_do rfl rfl (run_storeOp rfl (by kernel_rfl) (by kernel_rfl) HX2.out) ?_
      try simp only [nA, nB, nC]
      clear HX1 HX2
      replace KN := ka HBV KN
      replace HF0 := kf HF0 HBV
      replace HM := ka HBV HM
      replace HWO := hid (HWO.out.keep (kx_below HBV.out))
      replace HNK := hid (HNK.out.later HBV.out)
      clear HBV GV
      refine we ?_
      go_upto_region 9 with fail
      refine rl ?_
      refine qv (.pointer (some ⟨p, 0, none⟩)) ?_
      refine qk (nv k' tx' n' (.slice a' N' c') at') Tryz.isAgg24 K19 ?_
      simp only [nA, nB, nC]
      rcases bt ((brT 2 (.mk k' tx' n' ks' at') && decide (0 ≤ lft (.mk k' tx' n' ks' at') MJ))) with Hhb21 | Hhb21
      ·have HR := hid (al_next (p := brT 2) HJ.out HAL.out HNN0.out (by rw [HMJ.out]; exact Hhb21.out))
       refine qc #[(.pointer (some ⟨p, 0, none⟩)), (nv k' tx' n' (.slice a' N' c') at'), (.int .i64 2)] ?_
       have HCA := hid (HBA.out w20 HM.out HNK.out)
       refine HCA.out.mono ?_
       rintro e w22 ⟨he, hF, hm⟩
       rw [Hhb21.out] at he
       subst he
       refine ⟨_, rfl, ?_⟩
       have HFF := hid hF
       clear hF
       replace KN := hid (Fr.at HFF.out KN.out (not_mkr KN.out HM.out (by decide)))
       replace K19 := hid (Fr.at HFF.out K19.out (not_mkr K19.out HM.out (by decide)))
       replace HWO := hid (HWO.out.keep (kx_fr HFF.out HM.out))
       replace HF0 := hid (HF0.out.trans HFF.out (by simp))
       replace HM := hid hm
       clear hm HFF
       try simp only [Act.put, nA, nB, nC]
       refine wp_y (v := (.bool false)) rfl rfl (y_un (p := .bool true) rfl (by kernel_rfl) (by kernel_rfl) (fun w => qnotB true w)) rfl ?_
       simp only [nA, nB, nC]
       refine we ?_
       go_upto_region 11 with fail
       refine rl ?_
       refine qv u8 ?_
       simp only [nA, nB, nC]
       refine wp_y (v := (.iface 64 (strV [105, 109, 112, 111, 114, 116, 32]))) rfl rfl (y_mkI rfl (by kernel_rfl) (by kernel_rfl) (fun w => mk_show_word _ w)) rfl ?_
       simp only [nA, nB, nC]
       refine qf (fa_api_Node_1 g18 0) ?_
       refine ql (strV tx') Tryz.isAgg9 1 K19 ?_
       simp only [nA, nB, nC]
       refine wp_y (v := (.iface 64 (strV tx'))) rfl rfl (y_mkI rfl (by kernel_rfl) (by kernel_rfl) (fun w => mk_show_word _ w)) rfl ?_
       simp only [nA, nB, nC]
       have HOB : Hid (∀ b, u8.ownBlock = some b → b < w22.heap.size) := hid (fun b hb => by obtain ⟨c9, h9, -⟩ := HWO.out.own_lt hb; exact heap_lt h9)
       obtain ⟨w25, g23, hbx, hbk, hbb, hge⟩ := bsw_show_row_2 w22 (.iface 64 (strV [105, 109, 112, 111, 114, 116, 32])) (.iface 64 (strV tx')) rfl rfl
       have K24 := hid hbk
       have HB26 := hid hbb
       have HX := hid hbx
       have Gg23 : Hid (w22.heap.size ≤ g23) := hid hge
       have GWg23 : Hid (w.heap.size ≤ g23) := hid (Nat.le_trans HF0.out.size hge)
       clear hbx hbk hbb hge
       refine wp_run (v := (.slice (some ⟨g23, 0, none⟩) 2 2)) rfl rfl (run_bsOp rfl (by kernel_rfl) HX.out) rfl ?_
       try simp only [nA, nB, nC]
       replace KN := ka HB26 KN
       replace K19 := ka HB26 K19
       replace HF0 := kf HF0 HB26
       replace HM := ka HB26 HM
       replace HWO := hid (HWO.out.keep (kx_below HB26.out))
       refine wp_y (v := (.iface 66 (.slice (some ⟨g23, 0, none⟩) 2 2))) rfl rfl (y_mkI rfl (by kernel_rfl) (by kernel_rfl) (fun w => mk_show_row _ w)) rfl ?_
       simp only [nA, nB, nC]
       obtain ⟨w29, g27, hbx, hbk, hbb, hge⟩ := bsw_show_rows_1 w25 (.iface 66 (.slice (some ⟨g23, 0, none⟩) 2 2)) rfl
       have K28 := hid hbk
       have HB30 := hid hbb
       have HX := hid hbx
       have Gg27 : Hid (w25.heap.size ≤ g27) := hid hge
       have GWg27 : Hid (w.heap.size ≤ g27) := hid (Nat.le_trans HF0.out.size hge)
       clear hbx hbk hbb hge
       refine wp_run (v := (.slice (some ⟨g27, 0, none⟩) 1 1)) rfl rfl (run_bsOp rfl (by kernel_rfl) HX.out) rfl ?_
       try simp only [nA, nB, nC]
       replace KN := ka HB30 KN
       replace K19 := ka HB30 K19
       replace K24 := ka HB30 K24
       replace HF0 := kf HF0 HB30
       replace HM := ka HB30 HM
       replace HWO := hid (HWO.out.keep (kx_below HB30.out))
       obtain ⟨v9, w9, ha1, ha2, ha3⟩ := HWO.out.appR (Wsx.row (ks := [_, _]) (Wsx.two K24.out (fun h => Or.elim (show _ ∨ _ from h) (fun h => by have := GWg23.out; omega) (fun h => by have := HOB.out _ h; have := Gg23.out; omega)) (Wx.word _) (Wx.word _))) (by rw [List.length_cons, List.length_map, List.length_take, HL1.out]; have := HI1.out; omega) HF0.out.size K28.out
       have HAP := hid ha1
       have HW9 := hid ha2
       have HF9 := hid ha3
       clear ha1 ha2 ha3
       refine wp_run (v := v9) rfl rfl (run_appOp rfl (by kernel_rfl) (by kernel_rfl) (HAP.out _)) rfl ?_
       try simp only [nA, nB, nC]
       replace KN := hid (Fr.at HF9.out KN.out (not_own HWO.out KN.out (by decide)))
       replace HM := hid (Fr.at HF9.out HM.out (not_own HWO.out HM.out (by decide)))
       replace HF0 := hid (HF0.out.trans HF9.out (fun x hx => .inr (by obtain ⟨c9, h9, h8⟩ := HWO.out.own_lt (by simpa using hx); exact h8)))
       replace HWO := hid HW9.out
       clear HW9 HF9 HAP
       refine qv v9 ?_
       simp only [nA, nB, nC]
       refine we ?_
       go_upto_region 12 with fail
       refine rl ?_
       refine qb (badd_int ((j : Nat) : Int) 1 ((j + 1 : Nat) : Int) HS1.out) ?_
       refine qv (.int .i64 (((j + 1 : Nat) : Int))) ?_
       simp only [nA, nB, nC]
       refine we ?_
       go_wp2_with fail
       exact ⟨⟨j + 1, HLT.out, rfl, by rw [take_next HJ.out, List.map_append, ← List.cons_append]; exact HWO.out, HR.out.1, HR.out.2.1, by rw [HR.out.2.2, HMJ.out, lft_bare (by have h9 := Hhb21.out; rw [Bool.and_eq_true] at h9; exact h9.1)]; exact HM.out, HF0.out, KN.out⟩, by have := HLT.out; simp [intOf]; omega⟩
      ·have HR : Hid (((kids.take I).all (brT 2) && decide (0 ≤ lfts (kids.take I) (m - 1))) = false) := hid (al_no (p := brT 2) HJ.out HNN0.out (by rw [HMJ.out]; exact Hhb21.out))
       refine qc #[(.pointer (some ⟨p, 0, none⟩)), (nv k' tx' n' (.slice a' N' c') at'), (.int .i64 2)] ?_
       have HCA := hid (HBA.out w20 HM.out HNK.out)
       refine HCA.out.mono ?_
       rintro e w31 ⟨he, hF, hm⟩
       rw [Hhb21.out] at he
       subst he
       refine ⟨_, rfl, ?_⟩
       have HFF := hid hF
       clear hF
       replace KN := hid (Fr.at HFF.out KN.out (not_mkr KN.out HM.out (by decide)))
       replace K19 := hid (Fr.at HFF.out K19.out (not_mkr K19.out HM.out (by decide)))
       replace HWO := hid (HWO.out.keep (kx_fr HFF.out HM.out))
       replace HF0 := hid (HF0.out.trans HFF.out (by simp))
       replace HM := hid hm
       clear hm HFF
       try simp only [Act.put, nA, nB, nC]
       refine wp_y (v := (.bool true)) rfl rfl (y_un (p := .bool false) rfl (by kernel_rfl) (by kernel_rfl) (fun w => qnotB false w)) rfl ?_
       simp only [nA, nB, nC]
       refine we ?_
       go_upto_region 10 with fail
       refine rl ?_
       refine qv .nilIface ?_
       refine qv (.bool false) ?_
       simp only [nA, nB, nC]
       refine we ?_
       go_wp2_with fail
       go_ret2
       exact .inr ⟨HZ0.out.symm.trans (by rw [HLE.out, HR.out]; rfl), HF0.out, rfl, _, HM.out⟩
     ·have htk : (kids.take I).take j = kids.take I := by rw [List.take_of_length_le (by rw [HL1.out]; have := of_decide_eq_false Hhb17.out; omega)]
      rw [htk] at HWO HAL HNN0 HM
      clear htk
      obtain ⟨M1, hM1⟩ : ∃ x, lfts (kids.take I) (m - 1) = x := ⟨_, rfl⟩
      rw [hM1] at HNN0 HM HLE
      have HM1E := hid hM1
      have HM2 : Hid (0 ≤ M1 ∧ M1 ≤ 8192) := hid (by have h8 := (lfts_le (kids.take I) (fun t _ => lft_le t) (m - 1) (by have := HM1.out; omega)).2; rw [hM1] at h8; have := HM1.out; have := HNN0.out; omega)
      clear hM1
      refine qb (blss_int ((j : Nat) : Int) ((I : Nat) : Int) false Hhb17.out) ?_
      simp only [nA, nB, nC]
      refine we ?_
      go_upto_region 13 with fail
      refine rl ?_
      refine qf (fa_api_Node_3 g1 0) ?_
      refine ql (.slice a N c) Tryz.isAgg22 3 KN ?_
      refine qv (.int .i64 (((I : Nat) : Int))) ?_
      simp only [nA, nB, nC]
      refine wp_y (v := (.slice a4 (N - I) c4)) rfl rfl (y_slice rfl (by kernel_rfl) (by kernel_rfl) (by kernel_rfl) (by kernel_rfl) (by kernel_rfl) HSQ.out) rfl ?_
      simp only [nA, nB, nC]
      refine wp_y (v := (.int .i64 (((N - I : Nat) : Int)))) rfl rfl (y_lenT len_Sapi_Node (p := a4) (n := N - I) (c := c4) rfl (by kernel_rfl) (by kernel_rfl)) rfl ?_
      simp only [nA, nB, nC]
      refine qv (.int .i64 0) ?_
      simp only [nA, nB, nC]
      refine we ?_
      go_wp2_with fail
      have HR1 : Hid (((kids.take I).all (brT 2) && decide (0 ≤ M1)) = true) := hid (by rw [HAL.out, decide_eq_true HNN0.out]; rfl)
      go_loopw [70, 8] (fun v70 v8 wq => ∃ i : Nat, i ≤ N - I ∧ v70 = .int .i64 i ∧ Wo w.heap.size wq v8 ((.row [.word [109, 111, 100, 117, 108, 101, 32], .word tx]) :: ((kids.take I).map impW ++ ((kids.drop I).take i).map letW)) ∧ ((kids.drop I).take i).all letS = true ∧ 0 ≤ lfts ((kids.drop I).take i) M1 ∧ Mkr wq p (lfts ((kids.drop I).take i) M1) ∧ Fr [p] w wq ∧ wq.heap[g1]? = some (.cells #[.int .i64 k, strV tx, .int .i64 n, .slice a N c, .int .i64 at_] 24 (0, 0))) (fun v70 _ _ => (N - I) - (intOf v70).toNat)
      case atStart =>
       exact ⟨0, Nat.zero_le _, rfl, by rw [List.take_zero, List.map_nil, List.append_nil]; exact HWO.out, by simp, by rw [List.take_zero, lfts]; exact HNN0.out, by rw [List.take_zero, lfts]; exact HM.out, HF0.out, KN.out⟩
      case round =>
       obtain ⟨i, hi, rfl, hw, ha, hn, hm, hF, hk⟩ := hrel
       clear HM HF0 HWO KN HAL HNN0
       have HWO := hid hw
       have HAL := hid ha
       have HNN0 := hid hn
       have HM := hid hm
       have HF0 := hid hF
       have KN := hid hk
       have HII := hid hi
       clear hw ha hn hm hF hi hk
       go_upto_region 14 with fail
       refine rl ?_
       rcases bt (decide (((i : Nat) : Int) < ((N - I : Nat) : Int))) with Hhb32 | Hhb32
       ·have HLT : Hid (i < N - I) := hid (by have := of_decide_eq_true Hhb32.out; omega)
        have HS1 := hid (wrap_next (N := N - I) HLT.out (by have := HI1.out; have := HI2.out; omega))
        obtain ⟨t, ht⟩ : ∃ t, (kids.drop I)[i]? = some t := ⟨_, List.getElem?_eq_getElem (by rw [HL2.out]; exact HLT.out)⟩
        obtain ⟨b, o, u, ha, hcl, hnd⟩ := HK2.out i t ht
        have HOKK : Hid (t.Ok) := hid (by obtain ⟨q, hq⟩ := List.getElem?_of_mem (List.mem_of_mem_drop (List.mem_of_getElem? ht)); exact HOK.out.kid hq)
        obtain ⟨k', tx', n', ks', at'⟩ := t
        obtain ⟨a', c', rfl, -, -⟩ := hnd.open
        have HA := hid ha
        have HJ := hid ht
        have HCL := hid (load24 (hcl.fr HF0.out HM0.out))
        have HNK := hid (hnd.fr HF0.out HM0.out)
        obtain ⟨N', hN'⟩ : ∃ x, ks'.length = x := ⟨_, rfl⟩
        rw [hN'] at HCL HNK
        clear ha ht hcl hnd
        obtain ⟨MJ, hMJ⟩ : ∃ x, lfts ((kids.drop I).take i) (M1) = x := ⟨_, rfl⟩
        rw [hMJ] at HM
        have HMJ := hid hMJ
        have HM8 : Hid (0 ≤ MJ ∧ MJ ≤ 8192) := hid (by rw [← hMJ]; have h8 := (lfts_le ((kids.drop I).take i) (fun t _ => lft_le t) (M1) (by have := HM2.out; omega)).2; have := HM2.out; have := HNN0.out; omega)
        clear hMJ
        clear hN'
        refine qb (blss_int ((i : Nat) : Int) ((N - I : Nat) : Int) true Hhb32.out) ?_
        simp only [nA, nB, nC]
        refine we ?_
        go_upto_region 15 with fail
        refine rl ?_
        refine wp_y (v := (.pointer (some ⟨b, o + i * 5, none⟩))) rfl rfl (y_index (p := (.slice a4 (N - I) c4)) (k := (.int .i64 (((i : Nat) : Int)))) rfl (by kernel_rfl) (by kernel_rfl) (by kernel_rfl) (fun w => by rw [HA.out]; exact idx24 b o (N - I) c4 i HLT.out w)) rfl ?_
        simp only [nA, nB, nC]
        refine wp_y (v := (nv k' tx' n' (.slice a' N' c') at')) rfl rfl (y_load rfl (hl := fun w' h => by rw [h]; exact HCL.out)) rfl ?_
        simp only [nA, nB, nC]
        obtain ⟨wv, w35, g33, hx1, hx2, hbk, hbb, hge⟩ := var_api_Node wr k' tx' n' a' N' c' at'
        have K34 := hid hbk
        have HBV := hid hbb
        have HX1 := hid hx1
        have HX2 := hid hx2
        have GV := hid hge
        clear hx1 hx2 hbk hbb hge
        refine wp_run (v := (.pointer (some ⟨g33, 0, none⟩))) rfl rfl (run_alOp rfl HX1.out) rfl ?_
        try simp only [nA, nB, nC]
        refine wp_do rfl rfl (run_storeOp rfl (by kernel_rfl) (by kernel_rfl) HX2.out) ?_
        try simp only [nA, nB, nC]
        clear HX1 HX2
        replace KN := ka HBV KN
        replace HF0 := kf HF0 HBV
        replace HM := ka HBV HM
        replace HWO := hid (HWO.out.keep (kx_below HBV.out))
        replace HNK := hid (HNK.out.later HBV.out)
        clear HBV GV
        refine we ?_
        go_upto_region 16 with fail
        refine rl ?_
        refine qv (.pointer (some ⟨p, 0, none⟩)) ?_
        refine qk (nv k' tx' n' (.slice a' N' c') at') Tryz.isAgg24 K34 ?_
        simp only [nA, nB, nC]
        have HOB : Hid (∀ b, u8.ownBlock = some b → b < w35.heap.size) := hid (fun b hb => by obtain ⟨c9, h9, -⟩ := HWO.out.own_lt hb; exact heap_lt h9)
        have HSZ : Hid (w.heap.size ≤ w35.heap.size) := hid HF0.out.size
        refine qc #[(.pointer (some ⟨p, 0, none⟩)), (nv k' tx' n' (.slice a' N' c') at')] ?_
        have HCA := hid (let_any (B := B) HOKK.out HM8.out.1 HM8.out.2 HM.out HBP.out (Nat.le_trans HBW.out HF0.out.size) (HTB.out.on (fr_below HF0.out HBW.out HBP.out)) HNK.out)
        refine HCA.out.mono ?_
        rintro e w36 (⟨hR, hF, u, he, hx, hm⟩ | ⟨hR, hF, he, m9, hm⟩)
        ·subst he
         refine ⟨_, rfl, ?_⟩
         have HUX : Hid (Wx (fun b => b < w.heap.size ∨ u8.ownBlock = some b) w36 u (letW (.mk k' tx' n' ks' at'))) := hid (hx.other (Kx.refl _ _) (fun b cs zz _ hnb hc => by
            rcases hc with hc | hc
            ·have := HSZ.out; omega
            ·exact hnb (HOB.out b hc)))
         have HR := hid (al_next (p := letS) HJ.out HAL.out HNN0.out (by rw [HMJ.out]; exact hR))
         clear hx hR
         have HFF := hid hF
         clear hF
         replace KN := hid (Fr.at HFF.out KN.out (not_mkr KN.out HM.out (by decide)))
         replace K34 := hid (Fr.at HFF.out K34.out (not_mkr K34.out HM.out (by decide)))
         replace HWO := hid (HWO.out.keep (kx_fr HFF.out HM.out))
         replace HF0 := hid (HF0.out.trans HFF.out (by simp))
         replace HM := hid hm
         clear hm HFF
         try simp only [Act.put, nA, nB, nC]
         refine qv (.tuple #[u, (.bool true)]) ?_
         refine qv u ?_
         refine qv (.bool true) ?_
         refine qv u ?_
         simp only [nA, nB, nC]
         refine qv (.bool true) ?_
         simp only [nA, nB, nC]
         refine we ?_
         go_upto_region 17 with fail
         refine rl ?_
         refine qv (.bool true) ?_
         simp only [nA, nB, nC]
         refine wp_y (v := (.bool false)) rfl rfl (y_un (p := .bool true) rfl (by kernel_rfl) (by kernel_rfl) (fun w => qnotB true w)) rfl ?_
         simp only [nA, nB, nC]
         refine we ?_
         go_upto_region 19 with fail
         refine rl ?_
         refine qv u8 ?_
         refine qv u ?_
         simp only [nA, nB, nC]
         obtain ⟨w39, g37, hbx, hbk, hbb, hge⟩ := bsw_show_rows_1 w36 u HUX.out.now.cl
         have K38 := hid hbk
         have HB40 := hid hbb
         have HX := hid hbx
         have Gg37 : Hid (w36.heap.size ≤ g37) := hid hge
         have GWg37 : Hid (w.heap.size ≤ g37) := hid (Nat.le_trans HF0.out.size hge)
         clear hbx hbk hbb hge
         refine wp_run (v := (.slice (some ⟨g37, 0, none⟩) 1 1)) rfl rfl (run_bsOp rfl (by kernel_rfl) HX.out) rfl ?_
         try simp only [nA, nB, nC]
         replace KN := ka HB40 KN
         replace K34 := ka HB40 K34
         replace HF0 := kf HF0 HB40
         replace HM := ka HB40 HM
         replace HWO := hid (HWO.out.keep (kx_below HB40.out))
         replace HUX := hid (HUX.out.keep (kx_below HB40.out))
         obtain ⟨v9, w9, ha1, ha2, ha3⟩ := HWO.out.appR HUX.out (by rw [List.length_cons, List.length_append, List.length_map, List.length_map, HL1.out, List.length_take, HL2.out]; have := HI1.out; have := HI2.out; omega) HF0.out.size K38.out
         have HAP := hid ha1
         have HW9 := hid ha2
         have HF9 := hid ha3
         clear ha1 ha2 ha3
         refine wp_run (v := v9) rfl rfl (run_appOp rfl (by kernel_rfl) (by kernel_rfl) (HAP.out _)) rfl ?_
         try simp only [nA, nB, nC]
         replace KN := hid (Fr.at HF9.out KN.out (not_own HWO.out KN.out (by decide)))
         replace HM := hid (Fr.at HF9.out HM.out (not_own HWO.out HM.out (by decide)))
         replace HF0 := hid (HF0.out.trans HF9.out (fun x hx => .inr (by obtain ⟨c9, h9, h8⟩ := HWO.out.own_lt (by simpa using hx); exact h8)))
         replace HWO := hid HW9.out
         clear HW9 HF9 HAP
         refine qv v9 ?_
         simp only [nA, nB, nC]
         refine we ?_
         go_upto_region 20 with fail
         refine rl ?_
         refine qb (badd_int ((i : Nat) : Int) 1 ((i + 1 : Nat) : Int) HS1.out) ?_
         refine qv (.int .i64 (((i + 1 : Nat) : Int))) ?_
         simp only [nA, nB, nC]
         refine we ?_
         go_wp2_with fail
         exact ⟨⟨i + 1, HLT.out, rfl, by rw [take_next HJ.out, List.map_append, ← List.append_assoc, ← List.cons_append]; exact HWO.out, HR.out.1, HR.out.2.1, by rw [HR.out.2.2, HMJ.out]; exact HM.out, HF0.out, KN.out⟩, by have := HLT.out; simp [intOf]; omega⟩
        ·subst he
         refine ⟨_, rfl, ?_⟩
         have HR : Hid (((kids.drop I).all letS && decide (0 ≤ lfts (kids.drop I) M1)) = false) := hid (al_no (p := letS) HJ.out HNN0.out (by rw [HMJ.out]; exact hR))
         clear hR
         have HFF := hid hF
         clear hF
         replace KN := hid (Fr.at HFF.out KN.out (not_mkr KN.out HM.out (by decide)))
         replace K34 := hid (Fr.at HFF.out K34.out (not_mkr K34.out HM.out (by decide)))
         replace HWO := hid (HWO.out.keep (kx_fr HFF.out HM.out))
         replace HF0 := hid (HF0.out.trans HFF.out (by simp))
         replace HM := hid hm
         clear hm HFF
         try simp only [Act.put, nA, nB, nC]
         refine qv (.tuple #[.nilIface, (.bool false)]) ?_
         refine qv .nilIface ?_
         refine qv (.bool false) ?_
         refine qv .nilIface ?_
         simp only [nA, nB, nC]
         refine qv (.bool false) ?_
         simp only [nA, nB, nC]
         refine we ?_
         go_upto_region 17 with fail
         refine rl ?_
         refine qv (.bool false) ?_
         simp only [nA, nB, nC]
         refine wp_y (v := (.bool true)) rfl rfl (y_un (p := .bool false) rfl (by kernel_rfl) (by kernel_rfl) (fun w => qnotB false w)) rfl ?_
         simp only [nA, nB, nC]
         refine we ?_
         go_upto_region 18 with fail
         refine rl ?_
         refine qv .nilIface ?_
         refine qv (.bool false) ?_
         simp only [nA, nB, nC]
         refine we ?_
         go_wp2_with fail
         go_ret2
         exact .inr ⟨HZ0.out.symm.trans (by rw [HLE.out, HR.out, Bool.and_false]), HF0.out, rfl, _, HM.out⟩
       ·have htk : (kids.drop I).take i = kids.drop I := by rw [List.take_of_length_le (by rw [HL2.out]; have := of_decide_eq_false Hhb32.out; omega)]
        rw [htk] at HWO HAL HNN0 HM
        clear htk
        refine qb (blss_int ((i : Nat) : Int) ((N - I : Nat) : Int) false Hhb32.out) ?_
        simp only [nA, nB, nC]
        refine we ?_
        go_upto_region 21 with fail
        refine rl ?_
        refine qv u8 ?_
        simp only [nA, nB, nC]
        refine wp_y (v := (.iface 67 u8)) rfl rfl (y_mkI rfl (by kernel_rfl) (by kernel_rfl) (fun w => mk_show_rows _ w)) rfl ?_
        simp only [nA, nB, nC]
        refine qv (.iface 67 u8) ?_
        refine qv (.bool true) ?_
        simp only [nA, nB, nC]
        refine we ?_
        go_wp2_with fail
        go_ret2
        refine .inl ⟨HZ0.out.symm.trans (by rw [HLE.out, HR1.out, HAL.out, decide_eq_true HNN0.out]; rfl), HF0.out, _, rfl, ?_, ?_⟩
        ·rw [modW, HLD.out]
         have h1 := HWO.out.wsx (by rw [List.length_cons, List.length_append, List.length_map, List.length_map, HL1.out, HL2.out]; have := HI1.out; have := HI2.out; omega)
         obtain ⟨a8, c8, he8⟩ := HWO.out.val
         rw [he8] at h1 ⊢
         exact h1.rows
        ·rw [lft, ← List.take_append_drop I kids, lfts_app _ _ _ (by rw [HM1E.out]; exact HM2.out.1), HM1E.out]
         exact HM.out
 ·refine wp_call (f := 45) (args := #[(.pointer (some ⟨p, 0, none⟩)), (nv k tx n (.slice a N c) at_), (.int .i64 1)]) (by kernel_rfl) (fun w => by go_simp) ?_
  have HCA := hid (isNamed_any HM.out HMM.out.1 HMM.out.2 (HN0.out.fr HF0.out HM0.out) HT.out 1)
  refine HCA.out.mono ?_
  rintro e w41 ⟨he, hF, hm⟩
  rw [Hhb5.out] at he
  subst he
  refine ⟨_, rfl, ?_⟩
  have HFF := hid hF
  clear hF
  replace K2 := hid (Fr.at HFF.out K2.out (not_mkr K2.out HM.out (by decide)))
  replace HF0 := hid (HF0.out.trans HFF.out (by simp))
  replace HM := hid hm
  clear hm HFF
  try simp only [Act.put, nA, nB, nC]
  refine wp_y (v := (.bool true)) rfl rfl (y_un (p := .bool false) rfl (by kernel_rfl) (by kernel_rfl) (fun w => qnotB false w)) rfl ?_
  simp only [nA, nB, nC]
  refine qv (.bool true) ?_
  simp only [nA, nB, nC]
  refine qs rfl ?_
  simp only [nA, nB, nC]
  refine qs rfl ?_
  simp only [nA, nB, nC]
  refine qv (.bool true) ?_
  refine qv (.bool true) ?_
  simp only [nA, nB, nC]
  refine qs rfl ?_
  simp only [nA, nB, nC]
  refine qs rfl ?_
  simp only [nA, nB, nC]
  refine qv (.bool true) ?_
  simp only [nA, nB, nC]
  refine we ?_
  go_upto_region 4 with fail
  refine rl ?_
  refine qv .nilIface ?_
  refine qv (.bool false) ?_
  simp only [nA, nB, nC]
  refine we ?_
  go_wp2_with fail
  go_ret2
  exact .inr ⟨HZ0.out.symm.trans (mod_named Hhb5.out), HF0.out, rfl, _, HM.out⟩
seal wpList in
theorem sright_any {k : Int} {tx : List UInt8} {n : Int} {kids : List Tr} {at_ : Int} {w : World} {v : Value} (hok : Tr.Ok (.mk k tx n kids at_)) (htb : Tb w.heap.size w) (hnd : Nd w v (.mk k tx n kids at_)) : Calls Tryz.prog 14 #[v] w fun e w' => e = .returned (.bool (modS (.mk k tx n kids at_) && decide (0 ≤ lft (.mk k tx n kids at_) 8192))) ∧ Below w.heap.size w w' := by
 have HOK := hid hok
 have HTB := hid htb
 have HN := hid hnd
 obtain ⟨a, c, rfl, -, -⟩ := hnd.open
 clear hok htb hnd
 generalize kids.length = N at *
 have HB0 := hid (Below.refl w.heap.size w)
 obtain ⟨Z, hZ⟩ : ∃ Z, (modS (.mk k tx n kids at_) && decide (0 ≤ lft (.mk k tx n kids at_) 8192)) = Z := ⟨_, rfl⟩
 rw [hZ]
 have HZ0 := hid hZ
 clear hZ
 go_enter Tryz.func14, Tryz.ntmps14
 go_upto_region 0 with fail
 refine rl ?_
 obtain ⟨w3, g1, (HX : Hid _), (K2 : Hid _), (HB4 : Hid _)⟩ := box_x 24 w #[(.int .i64 k), (strV tx), (.int .i64 n), (.slice a N c), (.int .i64 at_)]
 refine wp_run (v := (.pointer (some ⟨g1, 0, none⟩))) rfl rfl (run_boxOp rfl (by kernel_rfl) HX.out) rfl ?_
 try simp only [nA, nB, nC]
 replace HTB := hid (HTB.out.below HB4.out)
 replace HN := hid (HN.out.later HB4.out)
 replace HB0 := kb HB0 HB4
 refine qv (.bool false) ?_
 simp only [nA, nB, nC]
 refine we ?_
 go_upto_region 1 with fail
 obtain ⟨w5, hwd⟩ : ∃ x, x = w3.drew := ⟨_, rfl⟩
 have HB6 : Hid (Below w3.heap.size w3 w5) := hid (by rw [hwd]; exact ⟨rfl, rfl, rfl, Nat.le_refl _, fun _ _ => rfl⟩)
 refine h_openL (S := fun x => Below w5.heap.size w5 x) (by kernel_rfl) (by kernel_rfl) (fun _ _ _ _ _ h => h) (L := #[false, false, false, false, false, false, false, false]) (by kernel_rfl) ?_
 intro Q' hns hP hN
 rw [← hwd]
 clear hwd
 replace K2 := ka HB6 K2
 replace HTB := hid (HTB.out.below HB6.out)
 replace HN := hid (HN.out.later HB6.out)
 replace HB0 := kb HB0 HB6
 have hS : Below w5.heap.size w5 w5 := Below.refl _ _
 refine h_takeL (i := 1) (v := (nv k tx n (.slice a N c) at_)) hns rfl rfl (by kernel_rfl) (by kernel_rfl) hP (y_load rfl (hl := fun w' h => load_blk Tryz.isAgg24 (by kernel_rfl) rfl (below_at h K2.out (heap_lt K2.out)))) hS rfl (L' := #[false, true, false, false, false, false, false, false]) (by kernel_rfl) ?_
 try simp only [nA, nB, nC]
 refine h_callL (i := 0) (f := 26) (args := #[]) (by kernel_rfl) rfl rfl (by kernel_rfl) (enter_go rfl (by kernel_rfl) (fun w => by go_simp)) (L' := #[true, true, false, false, false, false, false, false]) (by kernel_rfl) ?_
 have HCA := hid (newMaker_any w5)
 refine HCA.out.mono ?_
 rintro e w7 ⟨p, he, hm, hb, hge⟩
 ·subst he
  replace hS := hS.trans (hb.mono hS.size)
  refine ⟨_, rfl, hS, ?_⟩
  have HB00 : Hid (w.heap.size ≤ w5.heap.size) := hid HB0.out.size
  have HM := hid hm
  have HBN := hid hb
  have HGS := hid hge
  clear hm hge hb
  replace K2 := ka HBN K2
  replace HTB := hid (HTB.out.below HBN.out)
  replace HN := hid (HN.out.later HBN.out)
  replace HB0 := kb HB0 HBN
  try simp only [nA, nB, nC]
  refine h_callL (i := 2) (f := 27) (args := #[(.pointer (some ⟨p, 0, none⟩)), (nv k tx n (.slice a N c) at_)]) (by kernel_rfl) rfl rfl (by kernel_rfl) (enter_go rfl (by kernel_rfl) (fun w => by go_simp)) (L' := #[true, true, true, false, false, false, false, false]) (by kernel_rfl) ?_
  have HCA := hid (module_any (B := w.heap.size) HOK.out (by decide) (by decide) HM.out (by have := HGS.out; have := HB00.out; omega) HB0.out.size HTB.out HN.out)
  refine HCA.out.mono ?_
  rintro e w8 (⟨hR, hF, u, he, hx, hm⟩ | ⟨hR, hF, he, m9, hm⟩)
  ·subst he
   replace hS := hS.trans (hF.below hS.size (by have := HGS.out; simpa using this))
   refine ⟨_, rfl, hS, ?_⟩
   have HBF : Hid (Below w.heap.size w w8) := hid (HB0.out.trans (hF.below HB0.out.size (by have := HGS.out; have := HB00.out; simp; omega)))
   have HR := hid hR
   have HXX := hid hx
   clear hF hR hx hm
   try simp only [nA, nB, nC]
   refine h_takeL (i := 3) (v := (.tuple #[u, (.bool true)])) hns rfl rfl (by kernel_rfl) (by kernel_rfl) hP (y_move rfl) hS rfl (L' := #[true, true, true, true, false, false, false, false]) (by kernel_rfl) ?_
   try simp only [nA, nB, nC]
   refine h_takeL (i := 4) (v := u) hns rfl rfl (by kernel_rfl) (by kernel_rfl) hP (y_ext rfl (hr := ext2_0 u (.bool true))) hS rfl (L' := #[true, true, true, true, true, false, false, false]) (by kernel_rfl) ?_
   try simp only [nA, nB, nC]
   refine h_takeL (i := 5) (v := (.bool true)) hns rfl rfl (by kernel_rfl) (by kernel_rfl) hP (y_ext rfl (hr := ext2_1 u (.bool true))) hS rfl (L' := #[true, true, true, true, true, true, false, false]) (by kernel_rfl) ?_
   try simp only [nA, nB, nC]
   refine h_takeL (i := 6) (v := u) hns rfl rfl (by kernel_rfl) (by kernel_rfl) hP (y_assign rfl) hS rfl (L' := #[true, true, true, true, true, true, true, false]) (by kernel_rfl) ?_
   try simp only [nA, nB, nC]
   refine h_takeL (i := 7) (v := (.bool true)) hns rfl rfl (by kernel_rfl) (by kernel_rfl) hP (y_assign rfl) hS rfl (L' := #[true, true, true, true, true, true, true, true]) (by kernel_rfl) ?_
   try simp only [nA, nB, nC]
   refine wpAnyH_done (by kernel_rfl) ?_ _
   refine hN _ _ ?_
   clear hP hN hns hS
   go_upto_region 2 with fail
   refine rl ?_
   refine qv (.bool true) ?_
   refine qv (.bool true) ?_
   simp only [nA, nB, nC]
   refine we ?_
   go_wp2_with fail
   go_ret
   exact ⟨congrArg (fun b => Ending.returned (.bool b)) (HR.out.symm.trans HZ0.out), HBF.out⟩
  ·subst he
   replace hS := hS.trans (hF.below hS.size (by have := HGS.out; simpa using this))
   refine ⟨_, rfl, hS, ?_⟩
   have HBF : Hid (Below w.heap.size w w8) := hid (HB0.out.trans (hF.below HB0.out.size (by have := HGS.out; have := HB00.out; simp; omega)))
   have HR := hid hR
   clear hF hR hm
   try simp only [nA, nB, nC]
   refine h_takeL (i := 3) (v := (.tuple #[.nilIface, (.bool false)])) hns rfl rfl (by kernel_rfl) (by kernel_rfl) hP (y_move rfl) hS rfl (L' := #[true, true, true, true, false, false, false, false]) (by kernel_rfl) ?_
   try simp only [nA, nB, nC]
   refine h_takeL (i := 4) (v := .nilIface) hns rfl rfl (by kernel_rfl) (by kernel_rfl) hP (y_ext rfl (hr := ext2_0 .nilIface (.bool false))) hS rfl (L' := #[true, true, true, true, true, false, false, false]) (by kernel_rfl) ?_
   try simp only [nA, nB, nC]
   refine h_takeL (i := 5) (v := (.bool false)) hns rfl rfl (by kernel_rfl) (by kernel_rfl) hP (y_ext rfl (hr := ext2_1 .nilIface (.bool false))) hS rfl (L' := #[true, true, true, true, true, true, false, false]) (by kernel_rfl) ?_
   try simp only [nA, nB, nC]
   refine h_takeL (i := 6) (v := .nilIface) hns rfl rfl (by kernel_rfl) (by kernel_rfl) hP (y_assign rfl) hS rfl (L' := #[true, true, true, true, true, true, true, false]) (by kernel_rfl) ?_
   try simp only [nA, nB, nC]
   refine h_takeL (i := 7) (v := (.bool false)) hns rfl rfl (by kernel_rfl) (by kernel_rfl) hP (y_assign rfl) hS rfl (L' := #[true, true, true, true, true, true, true, true]) (by kernel_rfl) ?_
   try simp only [nA, nB, nC]
   refine wpAnyH_done (by kernel_rfl) ?_ _
   refine hN _ _ ?_
   clear hP hN hns hS
   go_upto_region 2 with fail
   refine rl ?_
   refine qv (.bool false) ?_
   refine qv (.bool false) ?_
   simp only [nA, nB, nC]
   refine we ?_
   go_wp2_with fail
   go_ret
   exact ⟨congrArg (fun b => Ending.returned (.bool b)) (HR.out.symm.trans HZ0.out), HBF.out⟩
seal wpList in
theorem smodule_any {k : Int} {tx : List UInt8} {n : Int} {kids : List Tr} {at_ : Int} {w : World} {v : Value} (hok : Tr.Ok (.mk k tx n kids at_)) (htb : Tb w.heap.size w) (hnd : Nd w v (.mk k tx n kids at_)) : Calls Tryz.prog 10 #[v] w fun e w' => e = .returned (bif (modS (.mk k tx n kids at_) && decide (0 ≤ lft (.mk k tx n kids at_) 8192)) then .tuple #[strV (fw (modW (.mk k tx n kids at_))), .int .i64 0] else .tuple #[strV [], .int .i64 90]) ∧ Below w.heap.size w w' := by
 have HOK := hid hok
 have HTB := hid htb
 have HN := hid hnd
 obtain ⟨a, c, rfl, -, -⟩ := hnd.open
 clear hok htb hnd
 generalize kids.length = N at *
 have HB0 := hid (Below.refl w.heap.size w)
 obtain ⟨Z, hZ⟩ : ∃ Z, (modS (.mk k tx n kids at_) && decide (0 ≤ lft (.mk k tx n kids at_) 8192)) = Z := ⟨_, rfl⟩
 rw [hZ]
 have HZ0 := hid hZ
 clear hZ
 go_enter Tryz.func10, Tryz.ntmps10
 go_upto_region 0 with fail
 refine rl ?_
 obtain ⟨w3, g1, (HX : Hid _), (K2 : Hid _), (HB4 : Hid _)⟩ := box_x 24 w #[(.int .i64 k), (strV tx), (.int .i64 n), (.slice a N c), (.int .i64 at_)]
 refine wp_run (v := (.pointer (some ⟨g1, 0, none⟩))) rfl rfl (run_boxOp rfl (by kernel_rfl) HX.out) rfl ?_
 try simp only [nA, nB, nC]
 replace HTB := hid (HTB.out.below HB4.out)
 replace HN := hid (HN.out.later HB4.out)
 replace HB0 := kb HB0 HB4
 refine qv (strV []) ?_
 refine qv (.int .i64 0) ?_
 simp only [nA, nB, nC]
 refine we ?_
 go_upto_region 1 with fail
 obtain ⟨w5, hwd⟩ : ∃ x, x = w3.drew := ⟨_, rfl⟩
 have HB6 : Hid (Below w3.heap.size w3 w5) := hid (by rw [hwd]; exact ⟨rfl, rfl, rfl, Nat.le_refl _, fun _ _ => rfl⟩)
 refine h_openL (S := fun x => Below w5.heap.size w5 x) (by kernel_rfl) (by kernel_rfl) (fun _ _ _ _ _ h => h) (L := #[false, false, false, false, false, false, false, false, false, false]) (by kernel_rfl) ?_
 intro Q' hns hP hN
 rw [← hwd]
 clear hwd
 replace K2 := ka HB6 K2
 replace HTB := hid (HTB.out.below HB6.out)
 replace HN := hid (HN.out.later HB6.out)
 replace HB0 := kb HB0 HB6
 have hS : Below w5.heap.size w5 w5 := Below.refl _ _
 refine h_takeL (i := 1) (v := (nv k tx n (.slice a N c) at_)) hns rfl rfl (by kernel_rfl) (by kernel_rfl) hP (y_load rfl (hl := fun w' h => load_blk Tryz.isAgg24 (by kernel_rfl) rfl (below_at h K2.out (heap_lt K2.out)))) hS rfl (L' := #[false, true, false, false, false, false, false, false, false, false]) (by kernel_rfl) ?_
 try simp only [nA, nB, nC]
 refine h_callL (i := 0) (f := 26) (args := #[]) (by kernel_rfl) rfl rfl (by kernel_rfl) (enter_go rfl (by kernel_rfl) (fun w => by go_simp)) (L' := #[true, true, false, false, false, false, false, false, false, false]) (by kernel_rfl) ?_
 have HCA := hid (newMaker_any w5)
 refine HCA.out.mono ?_
 rintro e w7 ⟨p, he, hm, hb, hge⟩
 ·subst he
  replace hS := hS.trans (hb.mono hS.size)
  refine ⟨_, rfl, hS, ?_⟩
  have HB00 : Hid (w.heap.size ≤ w5.heap.size) := hid HB0.out.size
  have HM := hid hm
  have HBN := hid hb
  have HGS := hid hge
  clear hm hge hb
  replace K2 := ka HBN K2
  replace HTB := hid (HTB.out.below HBN.out)
  replace HN := hid (HN.out.later HBN.out)
  replace HB0 := kb HB0 HBN
  try simp only [nA, nB, nC]
  refine h_callL (i := 2) (f := 27) (args := #[(.pointer (some ⟨p, 0, none⟩)), (nv k tx n (.slice a N c) at_)]) (by kernel_rfl) rfl rfl (by kernel_rfl) (enter_go rfl (by kernel_rfl) (fun w => by go_simp)) (L' := #[true, true, true, false, false, false, false, false, false, false]) (by kernel_rfl) ?_
  have HCA := hid (module_any (B := w.heap.size) HOK.out (by decide) (by decide) HM.out (by have := HGS.out; have := HB00.out; omega) HB0.out.size HTB.out HN.out)
  refine HCA.out.mono ?_
  rintro e w8 (⟨hR, hF, u, he, hx, hm⟩ | ⟨hR, hF, he, m9, hm⟩)
  ·subst he
   replace hS := hS.trans (hF.below hS.size (by have := HGS.out; simpa using this))
   refine ⟨_, rfl, hS, ?_⟩
   have HBF : Hid (Below w.heap.size w w8) := hid (HB0.out.trans (hF.below HB0.out.size (by have := HGS.out; have := HB00.out; simp; omega)))
   have HR := hid hR
   have HXX := hid hx
   clear hF hR hx hm
   try simp only [nA, nB, nC]
   refine h_takeL (i := 3) (v := u) hns rfl rfl (by kernel_rfl) (by kernel_rfl) hP (y_ext rfl (hr := ext2_0 u (.bool true))) hS rfl (L' := #[true, true, true, true, false, false, false, false, false, false]) (by kernel_rfl) ?_
   try simp only [nA, nB, nC]
   refine h_takeL (i := 4) (v := (.bool true)) hns rfl rfl (by kernel_rfl) (by kernel_rfl) hP (y_ext rfl (hr := ext2_1 u (.bool true))) hS rfl (L' := #[true, true, true, true, true, false, false, false, false, false]) (by kernel_rfl) ?_
   try simp only [nA, nB, nC]
   refine h_callL (i := 5) (f := 25) (args := #[u, (.bool true)]) (by kernel_rfl) rfl rfl (by kernel_rfl) (enter_go rfl (by kernel_rfl) (fun w => by go_simp)) (L' := #[true, true, true, true, true, true, false, false, false, false]) (by kernel_rfl) ?_
   have HCA := hid (whole_yes HXX.out (modW_len HR.out))
   refine HCA.out.mono ?_
   rintro e w9 ⟨rfl, hq⟩
   replace hS := hS.trans (hq.mono hS.size)
   refine ⟨_, rfl, hS, ?_⟩
   replace HBF : Hid (Below w.heap.size w w9) := hid (HBF.out.trans (hq.mono HBF.out.size))
   clear hq
   try simp only [nA, nB, nC]
   refine h_takeL (i := 6) (v := (strV (fw (modW (.mk k tx n kids at_))))) hns rfl rfl (by kernel_rfl) (by kernel_rfl) hP (y_ext rfl (hr := ext2_0 (strV (fw (modW (.mk k tx n kids at_)))) (.int .i64 0))) hS rfl (L' := #[true, true, true, true, true, true, true, false, false, false]) (by kernel_rfl) ?_
   try simp only [nA, nB, nC]
   refine h_takeL (i := 7) (v := (.int .i64 0)) hns rfl rfl (by kernel_rfl) (by kernel_rfl) hP (y_ext rfl (hr := ext2_1 (strV (fw (modW (.mk k tx n kids at_)))) (.int .i64 0))) hS rfl (L' := #[true, true, true, true, true, true, true, true, false, false]) (by kernel_rfl) ?_
   try simp only [nA, nB, nC]
   refine h_takeL (i := 8) (v := (strV (fw (modW (.mk k tx n kids at_))))) hns rfl rfl (by kernel_rfl) (by kernel_rfl) hP (y_assign rfl) hS rfl (L' := #[true, true, true, true, true, true, true, true, true, false]) (by kernel_rfl) ?_
   try simp only [nA, nB, nC]
   refine h_takeL (i := 9) (v := (.int .i64 0)) hns rfl rfl (by kernel_rfl) (by kernel_rfl) hP (y_assign rfl) hS rfl (L' := #[true, true, true, true, true, true, true, true, true, true]) (by kernel_rfl) ?_
   try simp only [nA, nB, nC]
   refine wpAnyH_done (by kernel_rfl) ?_ _
   refine hN _ _ ?_
   clear hP hN hns hS
   go_wp2_with fail
   go_ret2
   exact ⟨by rw [← HZ0.out, HR.out]; rfl, HBF.out⟩
  ·subst he
   replace hS := hS.trans (hF.below hS.size (by have := HGS.out; simpa using this))
   refine ⟨_, rfl, hS, ?_⟩
   have HBF : Hid (Below w.heap.size w w8) := hid (HB0.out.trans (hF.below HB0.out.size (by have := HGS.out; have := HB00.out; simp; omega)))
   have HR := hid hR
   clear hF hR hm
   try simp only [nA, nB, nC]
   refine h_takeL (i := 3) (v := .nilIface) hns rfl rfl (by kernel_rfl) (by kernel_rfl) hP (y_ext rfl (hr := ext2_0 .nilIface (.bool false))) hS rfl (L' := #[true, true, true, true, false, false, false, false, false, false]) (by kernel_rfl) ?_
   try simp only [nA, nB, nC]
   refine h_takeL (i := 4) (v := (.bool false)) hns rfl rfl (by kernel_rfl) (by kernel_rfl) hP (y_ext rfl (hr := ext2_1 .nilIface (.bool false))) hS rfl (L' := #[true, true, true, true, true, false, false, false, false, false]) (by kernel_rfl) ?_
   try simp only [nA, nB, nC]
   refine h_callL (i := 5) (f := 25) (args := #[.nilIface, (.bool false)]) (by kernel_rfl) rfl rfl (by kernel_rfl) (enter_go rfl (by kernel_rfl) (fun w => by go_simp)) (L' := #[true, true, true, true, true, true, false, false, false, false]) (by kernel_rfl) ?_
   have HCA := hid (whole_no w8)
   refine HCA.out.mono ?_
   rintro e wz ⟨rfl, hwz⟩
   refine ⟨_, rfl, by rw [hwz]; exact hS, ?_⟩
   obtain rfl := hwz.symm
   try simp only [nA, nB, nC]
   refine h_takeL (i := 6) (v := (strV [])) hns rfl rfl (by kernel_rfl) (by kernel_rfl) hP (y_ext rfl (hr := ext2_0 (strV []) (.int .i64 90))) hS rfl (L' := #[true, true, true, true, true, true, true, false, false, false]) (by kernel_rfl) ?_
   try simp only [nA, nB, nC]
   refine h_takeL (i := 7) (v := (.int .i64 90)) hns rfl rfl (by kernel_rfl) (by kernel_rfl) hP (y_ext rfl (hr := ext2_1 (strV []) (.int .i64 90))) hS rfl (L' := #[true, true, true, true, true, true, true, true, false, false]) (by kernel_rfl) ?_
   try simp only [nA, nB, nC]
   refine h_takeL (i := 8) (v := (strV [])) hns rfl rfl (by kernel_rfl) (by kernel_rfl) hP (y_assign rfl) hS rfl (L' := #[true, true, true, true, true, true, true, true, true, false]) (by kernel_rfl) ?_
   try simp only [nA, nB, nC]
   refine h_takeL (i := 9) (v := (.int .i64 90)) hns rfl rfl (by kernel_rfl) (by kernel_rfl) hP (y_assign rfl) hS rfl (L' := #[true, true, true, true, true, true, true, true, true, true]) (by kernel_rfl) ?_
   try simp only [nA, nB, nC]
   refine wpAnyH_done (by kernel_rfl) ?_ _
   refine hN _ _ ?_
   clear hP hN hns hS
   go_wp2_with fail
   go_ret2
   exact ⟨by rw [← HZ0.out, HR.out]; rfl, HBF.out⟩
end Go.Proofs.YtgpkcjpanpbhdaaGreatDoor
