/- the text SApartW -/
import Derived.Test.YtmdpccjhjhkpgaaGreatDoorSApartRC
namespace Go.Proofs.YtmdpccjhjhkpgaaGreatDoor
open Go Go.RowKit

theorem eqlB (a b : Bool) (w : World) : (binOp .eql 4 (.bool a) (.bool b)).run Tryz.prog w = .ok (.bool (a == b)) w := by go_simp
theorem y_eqlB {ops : Array Oper} {S : World → Prop} {o : Oper} {a : Act} {x y : Operand} {t' : TypeId} {l m r : Bool} (hop : o.op = .binOp .eql 4 x y t') (hw : Region.wanted o (yielded ops a.tmps) = true) (hx : a.eval x = .bool l) (hy : a.eval y = .bool m) (hr : (l == m) = r) : YieldsIf Tryz.prog ops S o (.bool r) a :=
  .inl ⟨hw, fun w _ => by
    unfold execOp; rw [hop]; simp only [hx, hy, Sem.run_bind]
    have : (eqGuard .eql 4 x y (.bool l) (.bool m)).run Tryz.prog w = .ok () w := by
      unfold eqGuard; go_simp
    rw [this]; simp only [Result.andThen_ok, eqlB, hr]; rfl⟩
set_option maxRecDepth 100000 in
set_option maxHeartbeats 1000000 in
seal wpList in
theorem showApart_any {t0 t1 : Tr} {w : World} {v u : Value} (htb : Tb w.heap.size w) (hn : Nd w v t0) (hok : t0.Ok) (hm : Nd w u t1) (hok1 : t1.Ok) : Calls Tryz.prog 3 #[v, u] w fun e w' => e = .returned (.bool true) ∧ Below w.heap.size w w' := by
  have HOK0 := hid hok
  have HOK1 := hid hok1
  have HTB := hid htb
  have HN := hid hn
  have HM := hid hm
  have HB0 := hid (Below.refl w.heap.size w)
  obtain ⟨k, tx, n, kids, at_⟩ := t0
  obtain ⟨k', tx', n', kids', at'⟩ := t1
  obtain ⟨a, c, rfl, -, -⟩ := hn.open
  obtain ⟨a', c', rfl, -, -⟩ := hm.open
  clear hok hok1 htb hn hm
  generalize kids.length = N at *
  generalize kids'.length = N' at *
  obtain ⟨t0, ht⟩ : ∃ t, Tr.mk k tx n kids at_ = t := ⟨_, rfl⟩
  obtain ⟨t1, ht1⟩ : ∃ t, Tr.mk k' tx' n' kids' at' = t := ⟨_, rfl⟩
  rw [ht] at HOK0 HN
  rw [ht1] at HOK1 HM
  clear ht ht1
  go_enter Tryz.func3, Tryz.ntmps3
  go_upto_region 0 with fail
  refine wp_region_lit ?_
  obtain ⟨w3, g1, hbx, hbk, hbb⟩ := box_x 24 w #[(.int .i64 k), (strV tx), (.int .i64 n), (.slice a N c), (.int .i64 at_)]
  have K2 := hid hbk
  have HB4 := hid hbb
  have HX := hid hbx
  clear hbx hbk hbb
  refine wp_run (v := (.pointer (some ⟨g1, 0, none⟩))) rfl rfl (run_boxOp rfl (by kernel_rfl) HX.out) rfl ?_
  try simp only [nmA, nmB, nmC]
  clear HX
  replace HTB := hid (HTB.out.below HB4.out)
  replace HN := hid (HN.out.later HB4.out)
  replace HM := hid (HM.out.later HB4.out)
  replace HB0 := hid (HB0.out.trans (HB4.out.mono HB0.out.size))
  obtain ⟨w7, g5, hbx, hbk, hbb⟩ := box_x 24 w3 #[(.int .i64 k'), (strV tx'), (.int .i64 n'), (.slice (a') N' c'), (.int .i64 at')]
  have K6 := hid hbk
  have HB8 := hid hbb
  have HX := hid hbx
  clear hbx hbk hbb
  refine wp_run (v := (.pointer (some ⟨g5, 0, none⟩))) rfl rfl (run_boxOp rfl (by kernel_rfl) HX.out) rfl ?_
  try simp only [nmA, nmB, nmC]
  clear HX
  replace K2 := hid (below_at HB8.out K2.out (heap_lt K2.out))
  replace HTB := hid (HTB.out.below HB8.out)
  replace HN := hid (HN.out.later HB8.out)
  replace HM := hid (HM.out.later HB8.out)
  replace HB0 := hid (HB0.out.trans (HB8.out.mono HB0.out.size))
  refine wp_y (v := (.bool false)) rfl rfl (y_assign rfl) rfl ?_
  try simp only [nmA, nmB, nmC]
  refine wp_end ?_
  go_upto_region 1 with fail
  refine wp_region_lit ?_
  refine wp_call (f := 9) (args := #[]) (by kernel_rfl) (fun w => by go_simp) ?_
  have HCA := hid (shown_any (HTB.out.mono HB0.out.size))
  refine HCA.out.mono ?_
  clear HCA
  rintro e w9 ⟨he, hq⟩
  subst he
  refine ⟨_, rfl, ?_⟩
  have HB10 := hid hq
  clear hq
  replace K2 := hid (below_at HB10.out K2.out (heap_lt K2.out))
  replace K6 := hid (below_at HB10.out K6.out (heap_lt K6.out))
  replace HTB := hid (HTB.out.below HB10.out)
  replace HN := hid (HN.out.later HB10.out)
  replace HM := hid (HM.out.later HB10.out)
  replace HB0 := hid (HB0.out.trans (HB10.out.mono HB0.out.size))
  dsimp only [Act.put]
  try simp only [nmA, nmB, nmC]
  refine wp_y (v := (.bool true)) rfl rfl (y_assign rfl) rfl ?_
  try simp only [nmA, nmB, nmC]
  refine wp_end ?_
  go_upto_region 2 with fail
  refine wp_region_lit ?_
  refine wp_y (v := (nv k tx n (.slice a N c) at_)) rfl rfl (y_load rfl (hl := fun w' h => by rw [h]; exact load_blk Tryz.isAgg24 (by kernel_rfl) rfl K2.out)) rfl ?_
  try simp only [nmA, nmB, nmC]
  refine wp_call (f := 10) (args := #[(nv k tx n (.slice a N c) at_)]) (by kernel_rfl) (fun w => by go_simp) ?_
  have HCA := hid (sexpr_any HOK0.out (HTB.out.mono HB0.out.size) HN.out)
  refine HCA.out.mono ?_
  clear HCA
  rintro e w11 (⟨hR, he, hb⟩ | ⟨hR, he, hb⟩)
  · subst he
    refine ⟨_, rfl, ?_⟩
    have HR0 := hid hR
    have HB12 := hid hb
    clear hR hb
    replace K2 := hid (below_at HB12.out K2.out (heap_lt K2.out))
    replace K6 := hid (below_at HB12.out K6.out (heap_lt K6.out))
    replace HTB := hid (HTB.out.below HB12.out)
    replace HN := hid (HN.out.later HB12.out)
    replace HM := hid (HM.out.later HB12.out)
    replace HB0 := hid (HB0.out.trans (HB12.out.mono HB0.out.size))
    dsimp only [Act.put]
    try simp only [nmA, nmB, nmC]
    refine wp_y (v := (.tuple #[(strV (fw (wrOf t0))), (.int .i64 0)])) rfl rfl (y_move rfl) rfl ?_
    try simp only [nmA, nmB, nmC]
    refine wp_y (v := (strV (fw (wrOf t0)))) rfl rfl (y_ext rfl (hr := ext2_0 (strV (fw (wrOf t0))) (.int .i64 0))) rfl ?_
    try simp only [nmA, nmB, nmC]
    refine wp_y (v := (.int .i64 0)) rfl rfl (y_ext rfl (hr := ext2_1 (strV (fw (wrOf t0))) (.int .i64 0))) rfl ?_
    try simp only [nmA, nmB, nmC]
    refine wp_y (v := (strV (fw (wrOf t0)))) rfl rfl (y_assign rfl) rfl ?_
    try simp only [nmA, nmB, nmC]
    refine wp_y (v := (.int .i64 0)) rfl rfl (y_assign rfl) rfl ?_
    try simp only [nmA, nmB, nmC]
    refine wp_end ?_
    go_upto_region 3 with fail
    refine wp_region_lit ?_
    refine wp_y (v := (nv k' tx' n' (.slice a' N' c') at')) rfl rfl (y_load rfl (hl := fun w' h => by rw [h]; exact load_blk Tryz.isAgg24 (by kernel_rfl) rfl K6.out)) rfl ?_
    try simp only [nmA, nmB, nmC]
    refine wp_call (f := 10) (args := #[(nv k' tx' n' (.slice a' N' c') at')]) (by kernel_rfl) (fun w => by go_simp) ?_
    have HCA := hid (sexpr_any HOK1.out (HTB.out.mono HB0.out.size) HM.out)
    refine HCA.out.mono ?_
    clear HCA
    rintro e w13 (⟨hR, he, hb⟩ | ⟨hR, he, hb⟩)
    · subst he
      refine ⟨_, rfl, ?_⟩
      have HR1 := hid hR
      have HB14 := hid hb
      clear hR hb
      replace K2 := hid (below_at HB14.out K2.out (heap_lt K2.out))
      replace K6 := hid (below_at HB14.out K6.out (heap_lt K6.out))
      replace HTB := hid (HTB.out.below HB14.out)
      replace HN := hid (HN.out.later HB14.out)
      replace HM := hid (HM.out.later HB14.out)
      replace HB0 := hid (HB0.out.trans (HB14.out.mono HB0.out.size))
      dsimp only [Act.put]
      try simp only [nmA, nmB, nmC]
      refine wp_y (v := (.tuple #[(strV (fw (wrOf t1))), (.int .i64 0)])) rfl rfl (y_move rfl) rfl ?_
      try simp only [nmA, nmB, nmC]
      refine wp_y (v := (strV (fw (wrOf t1)))) rfl rfl (y_ext rfl (hr := ext2_0 (strV (fw (wrOf t1))) (.int .i64 0))) rfl ?_
      try simp only [nmA, nmB, nmC]
      refine wp_y (v := (.int .i64 0)) rfl rfl (y_ext rfl (hr := ext2_1 (strV (fw (wrOf t1))) (.int .i64 0))) rfl ?_
      try simp only [nmA, nmB, nmC]
      refine wp_y (v := (strV (fw (wrOf t1)))) rfl rfl (y_assign rfl) rfl ?_
      try simp only [nmA, nmB, nmC]
      refine wp_y (v := (.int .i64 0)) rfl rfl (y_assign rfl) rfl ?_
      try simp only [nmA, nmB, nmC]
      refine wp_end ?_
      go_upto_region 4 with fail
      refine wp_region_lit ?_
      refine wp_y (v := (.int .i64 0)) rfl rfl (y_move rfl) rfl ?_
      try simp only [nmA, nmB, nmC]
      refine wp_y (v := (.bool false)) rfl rfl (y_bin (k := .i64) (k' := .i64) (m := 0) (n := 0) rfl (hr := bneq_api_Errno 0 0 false (by decide))) rfl ?_
      try simp only [nmA, nmB, nmC]
      refine wp_y (v := (.bool false)) rfl rfl (y_move rfl) rfl ?_
      try simp only [nmA, nmB, nmC]
      refine wp_yg (v := (.int .i64 0)) rfl (y_move rfl) rfl ?_
      try simp only [nmA, nmB, nmC]
      refine wp_yg (v := (.bool false)) rfl (y_bin (k := .i64) (k' := .i64) (m := 0) (n := 0) rfl (hr := bneq_api_Errno 0 0 false (by decide))) rfl ?_
      try simp only [nmA, nmB, nmC]
      refine wp_y (v := (.bool false)) rfl rfl (y_pick (b := false) rfl) rfl ?_
      try simp only [nmA, nmB, nmC]
      refine wp_end ?_
      go_upto_region 6 with fail
      refine wp_region_lit ?_
      refine wp_y (v := (.bool true)) rfl rfl (y_move rfl) rfl ?_
      try simp only [nmA, nmB, nmC]
      refine wp_y (v := (.bool true)) rfl rfl (y_move rfl) rfl ?_
      try simp only [nmA, nmB, nmC]
      refine wp_yg (v := (strV (fw (wrOf t0)))) rfl (y_move rfl) rfl ?_
      try simp only [nmA, nmB, nmC]
      refine wp_yg (v := (strV (fw (wrOf t1)))) rfl (y_move rfl) rfl ?_
      try simp only [nmA, nmB, nmC]
      rcases Bool.eq_false_or_eq_true (decide (fw (wrOf t0) = fw (wrOf t1))) with hb15 | hb15
      · have Hhb15 := hid hb15
        clear hb15
        have HSL : Hid (samL t0 t1 8192 = true) := hid (by rw [← apart_iff HR0.out HR1.out]; exact Hhb15.out)
        refine wp_yg (v := (.bool true)) rfl (y_eqlS (l := fw (wrOf t0)) (m := fw (wrOf t1)) rfl (by kernel_rfl) (by kernel_rfl) (by kernel_rfl) (Hhb15.out)) rfl ?_
        try simp only [nmA, nmB, nmC]
        refine wp_yg (v := (nv k tx n (.slice a N c) at_)) rfl (y_load rfl (hl := fun w' h => by rw [h]; exact load_blk Tryz.isAgg24 (by kernel_rfl) rfl K2.out)) rfl ?_
        try simp only [nmA, nmB, nmC]
        refine wp_yg (v := (nv k' tx' n' (.slice a' N' c') at')) rfl (y_load rfl (hl := fun w' h => by rw [h]; exact load_blk Tryz.isAgg24 (by kernel_rfl) rfl K6.out)) rfl ?_
        try simp only [nmA, nmB, nmC]
        refine wp_callg (f := 11) (args := #[(nv k tx n (.slice a N c) at_), (nv k' tx' n' (.slice a' N' c') at')]) rfl (by kernel_rfl) (enter_go rfl (by kernel_rfl) (fun w => by go_simp)) ?_
        have HCA := hid (same18 HN.out HM.out)
        refine HCA.out.mono ?_
        clear HCA
        rintro e w16 ⟨he, hq⟩
        rw [HSL.out] at he
        subst he
        refine ⟨_, rfl, ?_⟩
        have HB17 := hid hq
        clear hq
        replace K2 := hid (below_at HB17.out K2.out (heap_lt K2.out))
        replace K6 := hid (below_at HB17.out K6.out (heap_lt K6.out))
        replace HTB := hid (HTB.out.below HB17.out)
        replace HN := hid (HN.out.later HB17.out)
        replace HM := hid (HM.out.later HB17.out)
        replace HB0 := hid (HB0.out.trans (HB17.out.mono HB0.out.size))
        try simp only [nmA, nmB, nmC]
        refine wp_yg (v := (.bool true)) rfl (y_eqlB (l := true) (m := true) rfl (by kernel_rfl) (by kernel_rfl) (by kernel_rfl) rfl) rfl ?_
        try simp only [nmA, nmB, nmC]
        refine wp_y (v := (.bool true)) rfl rfl (y_pick (b := true) rfl) rfl ?_
        try simp only [nmA, nmB, nmC]
        refine wp_y (v := (.bool true)) rfl rfl (y_assign rfl) rfl ?_
        try simp only [nmA, nmB, nmC]
        refine wp_end ?_
        go_wp2_with fail
        go_ret
        exact ⟨rfl, HB0.out⟩
      · have Hhb15 := hid hb15
        clear hb15
        have HSL : Hid (samL t0 t1 8192 = false) := hid (by rw [← apart_iff HR0.out HR1.out]; exact Hhb15.out)
        refine wp_yg (v := (.bool false)) rfl (y_eqlS (l := fw (wrOf t0)) (m := fw (wrOf t1)) rfl (by kernel_rfl) (by kernel_rfl) (by kernel_rfl) (Hhb15.out)) rfl ?_
        try simp only [nmA, nmB, nmC]
        refine wp_yg (v := (nv k tx n (.slice a N c) at_)) rfl (y_load rfl (hl := fun w' h => by rw [h]; exact load_blk Tryz.isAgg24 (by kernel_rfl) rfl K2.out)) rfl ?_
        try simp only [nmA, nmB, nmC]
        refine wp_yg (v := (nv k' tx' n' (.slice a' N' c') at')) rfl (y_load rfl (hl := fun w' h => by rw [h]; exact load_blk Tryz.isAgg24 (by kernel_rfl) rfl K6.out)) rfl ?_
        try simp only [nmA, nmB, nmC]
        refine wp_callg (f := 11) (args := #[(nv k tx n (.slice a N c) at_), (nv k' tx' n' (.slice a' N' c') at')]) rfl (by kernel_rfl) (enter_go rfl (by kernel_rfl) (fun w => by go_simp)) ?_
        have HCA := hid (same18 HN.out HM.out)
        refine HCA.out.mono ?_
        clear HCA
        rintro e w18 ⟨he, hq⟩
        rw [HSL.out] at he
        subst he
        refine ⟨_, rfl, ?_⟩
        have HB19 := hid hq
        clear hq
        replace K2 := hid (below_at HB19.out K2.out (heap_lt K2.out))
        replace K6 := hid (below_at HB19.out K6.out (heap_lt K6.out))
        replace HTB := hid (HTB.out.below HB19.out)
        replace HN := hid (HN.out.later HB19.out)
        replace HM := hid (HM.out.later HB19.out)
        replace HB0 := hid (HB0.out.trans (HB19.out.mono HB0.out.size))
        try simp only [nmA, nmB, nmC]
        refine wp_yg (v := (.bool true)) rfl (y_eqlB (l := false) (m := false) rfl (by kernel_rfl) (by kernel_rfl) (by kernel_rfl) rfl) rfl ?_
        try simp only [nmA, nmB, nmC]
        refine wp_y (v := (.bool true)) rfl rfl (y_pick (b := true) rfl) rfl ?_
        try simp only [nmA, nmB, nmC]
        refine wp_y (v := (.bool true)) rfl rfl (y_assign rfl) rfl ?_
        try simp only [nmA, nmB, nmC]
        refine wp_end ?_
        go_wp2_with fail
        go_ret
        exact ⟨rfl, HB0.out⟩
    · subst he
      refine ⟨_, rfl, ?_⟩
      have HR1 := hid hR
      have HB20 := hid hb
      clear hR hb
      replace K2 := hid (below_at HB20.out K2.out (heap_lt K2.out))
      replace K6 := hid (below_at HB20.out K6.out (heap_lt K6.out))
      replace HTB := hid (HTB.out.below HB20.out)
      replace HN := hid (HN.out.later HB20.out)
      replace HM := hid (HM.out.later HB20.out)
      replace HB0 := hid (HB0.out.trans (HB20.out.mono HB0.out.size))
      dsimp only [Act.put]
      try simp only [nmA, nmB, nmC]
      refine wp_y (v := (.tuple #[(strV []), (.int .i64 90)])) rfl rfl (y_move rfl) rfl ?_
      try simp only [nmA, nmB, nmC]
      refine wp_y (v := (strV [])) rfl rfl (y_ext rfl (hr := ext2_0 (strV []) (.int .i64 90))) rfl ?_
      try simp only [nmA, nmB, nmC]
      refine wp_y (v := (.int .i64 90)) rfl rfl (y_ext rfl (hr := ext2_1 (strV []) (.int .i64 90))) rfl ?_
      try simp only [nmA, nmB, nmC]
      refine wp_y (v := (strV [])) rfl rfl (y_assign rfl) rfl ?_
      try simp only [nmA, nmB, nmC]
      refine wp_y (v := (.int .i64 90)) rfl rfl (y_assign rfl) rfl ?_
      try simp only [nmA, nmB, nmC]
      refine wp_end ?_
      go_upto_region 4 with fail
      refine wp_region_lit ?_
      refine wp_y (v := (.int .i64 0)) rfl rfl (y_move rfl) rfl ?_
      try simp only [nmA, nmB, nmC]
      refine wp_y (v := (.bool false)) rfl rfl (y_bin (k := .i64) (k' := .i64) (m := 0) (n := 0) rfl (hr := bneq_api_Errno 0 0 false (by decide))) rfl ?_
      try simp only [nmA, nmB, nmC]
      refine wp_y (v := (.bool false)) rfl rfl (y_move rfl) rfl ?_
      try simp only [nmA, nmB, nmC]
      refine wp_yg (v := (.int .i64 90)) rfl (y_move rfl) rfl ?_
      try simp only [nmA, nmB, nmC]
      refine wp_yg (v := (.bool true)) rfl (y_bin (k := .i64) (k' := .i64) (m := 90) (n := 0) rfl (hr := bneq_api_Errno 90 0 true (by decide))) rfl ?_
      try simp only [nmA, nmB, nmC]
      refine wp_y (v := (.bool true)) rfl rfl (y_pick (b := false) rfl) rfl ?_
      try simp only [nmA, nmB, nmC]
      refine wp_end ?_
      go_upto_region 5 with fail
      refine wp_region_lit ?_
      refine wp_y (v := (.bool true)) rfl rfl (y_move rfl) rfl ?_
      try simp only [nmA, nmB, nmC]
      refine wp_y (v := (.bool true)) rfl rfl (y_move rfl) rfl ?_
      try simp only [nmA, nmB, nmC]
      refine wp_yg (v := (.int .i64 0)) rfl (y_move rfl) rfl ?_
      try simp only [nmA, nmB, nmC]
      refine wp_yg (v := (.bool false)) rfl (y_bin (k := .i64) (k' := .i64) (m := 0) (n := 90) rfl (hr := beql_api_Errno 0 90 false (by decide))) rfl ?_
      try simp only [nmA, nmB, nmC]
      refine wp_yg (v := (.bool false)) rfl (y_move rfl) rfl ?_
      try simp only [nmA, nmB, nmC]
      refine wp_yg (v := (.int .i64 90)) rfl (y_move rfl) rfl ?_
      try simp only [nmA, nmB, nmC]
      refine wp_yg (v := (.bool true)) rfl (y_bin (k := .i64) (k' := .i64) (m := 90) (n := 90) rfl (hr := beql_api_Errno 90 90 true (by decide))) rfl ?_
      try simp only [nmA, nmB, nmC]
      refine wp_yg (v := (.bool true)) rfl (y_pick (b := false) rfl) rfl ?_
      try simp only [nmA, nmB, nmC]
      refine wp_y (v := (.bool true)) rfl rfl (y_pick (b := true) rfl) rfl ?_
      try simp only [nmA, nmB, nmC]
      refine wp_y (v := (.bool true)) rfl rfl (y_assign rfl) rfl ?_
      try simp only [nmA, nmB, nmC]
      refine wp_end ?_
      go_wp2_with fail
      go_ret
      exact ⟨rfl, HB0.out⟩
  · subst he
    refine ⟨_, rfl, ?_⟩
    have HR0 := hid hR
    have HB21 := hid hb
    clear hR hb
    replace K2 := hid (below_at HB21.out K2.out (heap_lt K2.out))
    replace K6 := hid (below_at HB21.out K6.out (heap_lt K6.out))
    replace HTB := hid (HTB.out.below HB21.out)
    replace HN := hid (HN.out.later HB21.out)
    replace HM := hid (HM.out.later HB21.out)
    replace HB0 := hid (HB0.out.trans (HB21.out.mono HB0.out.size))
    dsimp only [Act.put]
    try simp only [nmA, nmB, nmC]
    refine wp_y (v := (.tuple #[(strV []), (.int .i64 90)])) rfl rfl (y_move rfl) rfl ?_
    try simp only [nmA, nmB, nmC]
    refine wp_y (v := (strV [])) rfl rfl (y_ext rfl (hr := ext2_0 (strV []) (.int .i64 90))) rfl ?_
    try simp only [nmA, nmB, nmC]
    refine wp_y (v := (.int .i64 90)) rfl rfl (y_ext rfl (hr := ext2_1 (strV []) (.int .i64 90))) rfl ?_
    try simp only [nmA, nmB, nmC]
    refine wp_y (v := (strV [])) rfl rfl (y_assign rfl) rfl ?_
    try simp only [nmA, nmB, nmC]
    refine wp_y (v := (.int .i64 90)) rfl rfl (y_assign rfl) rfl ?_
    try simp only [nmA, nmB, nmC]
    refine wp_end ?_
    go_upto_region 3 with fail
    refine wp_region_lit ?_
    refine wp_y (v := (nv k' tx' n' (.slice a' N' c') at')) rfl rfl (y_load rfl (hl := fun w' h => by rw [h]; exact load_blk Tryz.isAgg24 (by kernel_rfl) rfl K6.out)) rfl ?_
    try simp only [nmA, nmB, nmC]
    refine wp_call (f := 10) (args := #[(nv k' tx' n' (.slice a' N' c') at')]) (by kernel_rfl) (fun w => by go_simp) ?_
    have HCA := hid (sexpr_any HOK1.out (HTB.out.mono HB0.out.size) HM.out)
    refine HCA.out.mono ?_
    clear HCA
    rintro e w22 (⟨hR, he, hb⟩ | ⟨hR, he, hb⟩)
    · subst he
      refine ⟨_, rfl, ?_⟩
      have HR1 := hid hR
      have HB23 := hid hb
      clear hR hb
      replace K2 := hid (below_at HB23.out K2.out (heap_lt K2.out))
      replace K6 := hid (below_at HB23.out K6.out (heap_lt K6.out))
      replace HTB := hid (HTB.out.below HB23.out)
      replace HN := hid (HN.out.later HB23.out)
      replace HM := hid (HM.out.later HB23.out)
      replace HB0 := hid (HB0.out.trans (HB23.out.mono HB0.out.size))
      dsimp only [Act.put]
      try simp only [nmA, nmB, nmC]
      refine wp_y (v := (.tuple #[(strV (fw (wrOf t1))), (.int .i64 0)])) rfl rfl (y_move rfl) rfl ?_
      try simp only [nmA, nmB, nmC]
      refine wp_y (v := (strV (fw (wrOf t1)))) rfl rfl (y_ext rfl (hr := ext2_0 (strV (fw (wrOf t1))) (.int .i64 0))) rfl ?_
      try simp only [nmA, nmB, nmC]
      refine wp_y (v := (.int .i64 0)) rfl rfl (y_ext rfl (hr := ext2_1 (strV (fw (wrOf t1))) (.int .i64 0))) rfl ?_
      try simp only [nmA, nmB, nmC]
      refine wp_y (v := (strV (fw (wrOf t1)))) rfl rfl (y_assign rfl) rfl ?_
      try simp only [nmA, nmB, nmC]
      refine wp_y (v := (.int .i64 0)) rfl rfl (y_assign rfl) rfl ?_
      try simp only [nmA, nmB, nmC]
      refine wp_end ?_
      go_upto_region 4 with fail
      refine wp_region_lit ?_
      refine wp_y (v := (.int .i64 90)) rfl rfl (y_move rfl) rfl ?_
      try simp only [nmA, nmB, nmC]
      refine wp_y (v := (.bool true)) rfl rfl (y_bin (k := .i64) (k' := .i64) (m := 90) (n := 0) rfl (hr := bneq_api_Errno 90 0 true (by decide))) rfl ?_
      try simp only [nmA, nmB, nmC]
      refine wp_y (v := (.bool true)) rfl rfl (y_move rfl) rfl ?_
      try simp only [nmA, nmB, nmC]
      refine wp_sk rfl (by kernel_rfl) rfl ?_
      try simp only [nmA, nmB, nmC]
      refine wp_sk rfl (by kernel_rfl) rfl ?_
      try simp only [nmA, nmB, nmC]
      refine wp_y (v := (.bool true)) rfl rfl (y_pick (b := true) rfl) rfl ?_
      try simp only [nmA, nmB, nmC]
      refine wp_end ?_
      go_upto_region 5 with fail
      refine wp_region_lit ?_
      refine wp_y (v := (.bool true)) rfl rfl (y_move rfl) rfl ?_
      try simp only [nmA, nmB, nmC]
      refine wp_y (v := (.bool true)) rfl rfl (y_move rfl) rfl ?_
      try simp only [nmA, nmB, nmC]
      refine wp_yg (v := (.int .i64 90)) rfl (y_move rfl) rfl ?_
      try simp only [nmA, nmB, nmC]
      refine wp_yg (v := (.bool true)) rfl (y_bin (k := .i64) (k' := .i64) (m := 90) (n := 90) rfl (hr := beql_api_Errno 90 90 true (by decide))) rfl ?_
      try simp only [nmA, nmB, nmC]
      refine wp_yg (v := (.bool true)) rfl (y_move rfl) rfl ?_
      try simp only [nmA, nmB, nmC]
      refine wp_sk rfl (by kernel_rfl) rfl ?_
      try simp only [nmA, nmB, nmC]
      refine wp_sk rfl (by kernel_rfl) rfl ?_
      try simp only [nmA, nmB, nmC]
      refine wp_yg (v := (.bool true)) rfl (y_pick (b := true) rfl) rfl ?_
      try simp only [nmA, nmB, nmC]
      refine wp_y (v := (.bool true)) rfl rfl (y_pick (b := true) rfl) rfl ?_
      try simp only [nmA, nmB, nmC]
      refine wp_y (v := (.bool true)) rfl rfl (y_assign rfl) rfl ?_
      try simp only [nmA, nmB, nmC]
      refine wp_end ?_
      go_wp2_with fail
      go_ret
      exact ⟨rfl, HB0.out⟩
    · subst he
      refine ⟨_, rfl, ?_⟩
      have HR1 := hid hR
      have HB24 := hid hb
      clear hR hb
      replace K2 := hid (below_at HB24.out K2.out (heap_lt K2.out))
      replace K6 := hid (below_at HB24.out K6.out (heap_lt K6.out))
      replace HTB := hid (HTB.out.below HB24.out)
      replace HN := hid (HN.out.later HB24.out)
      replace HM := hid (HM.out.later HB24.out)
      replace HB0 := hid (HB0.out.trans (HB24.out.mono HB0.out.size))
      dsimp only [Act.put]
      try simp only [nmA, nmB, nmC]
      refine wp_y (v := (.tuple #[(strV []), (.int .i64 90)])) rfl rfl (y_move rfl) rfl ?_
      try simp only [nmA, nmB, nmC]
      refine wp_y (v := (strV [])) rfl rfl (y_ext rfl (hr := ext2_0 (strV []) (.int .i64 90))) rfl ?_
      try simp only [nmA, nmB, nmC]
      refine wp_y (v := (.int .i64 90)) rfl rfl (y_ext rfl (hr := ext2_1 (strV []) (.int .i64 90))) rfl ?_
      try simp only [nmA, nmB, nmC]
      refine wp_y (v := (strV [])) rfl rfl (y_assign rfl) rfl ?_
      try simp only [nmA, nmB, nmC]
      refine wp_y (v := (.int .i64 90)) rfl rfl (y_assign rfl) rfl ?_
      try simp only [nmA, nmB, nmC]
      refine wp_end ?_
      go_upto_region 4 with fail
      refine wp_region_lit ?_
      refine wp_y (v := (.int .i64 90)) rfl rfl (y_move rfl) rfl ?_
      try simp only [nmA, nmB, nmC]
      refine wp_y (v := (.bool true)) rfl rfl (y_bin (k := .i64) (k' := .i64) (m := 90) (n := 0) rfl (hr := bneq_api_Errno 90 0 true (by decide))) rfl ?_
      try simp only [nmA, nmB, nmC]
      refine wp_y (v := (.bool true)) rfl rfl (y_move rfl) rfl ?_
      try simp only [nmA, nmB, nmC]
      refine wp_sk rfl (by kernel_rfl) rfl ?_
      try simp only [nmA, nmB, nmC]
      refine wp_sk rfl (by kernel_rfl) rfl ?_
      try simp only [nmA, nmB, nmC]
      refine wp_y (v := (.bool true)) rfl rfl (y_pick (b := true) rfl) rfl ?_
      try simp only [nmA, nmB, nmC]
      refine wp_end ?_
      go_upto_region 5 with fail
      refine wp_region_lit ?_
      refine wp_y (v := (.bool true)) rfl rfl (y_move rfl) rfl ?_
      try simp only [nmA, nmB, nmC]
      refine wp_y (v := (.bool true)) rfl rfl (y_move rfl) rfl ?_
      try simp only [nmA, nmB, nmC]
      refine wp_yg (v := (.int .i64 90)) rfl (y_move rfl) rfl ?_
      try simp only [nmA, nmB, nmC]
      refine wp_yg (v := (.bool true)) rfl (y_bin (k := .i64) (k' := .i64) (m := 90) (n := 90) rfl (hr := beql_api_Errno 90 90 true (by decide))) rfl ?_
      try simp only [nmA, nmB, nmC]
      refine wp_yg (v := (.bool true)) rfl (y_move rfl) rfl ?_
      try simp only [nmA, nmB, nmC]
      refine wp_sk rfl (by kernel_rfl) rfl ?_
      try simp only [nmA, nmB, nmC]
      refine wp_sk rfl (by kernel_rfl) rfl ?_
      try simp only [nmA, nmB, nmC]
      refine wp_yg (v := (.bool true)) rfl (y_pick (b := true) rfl) rfl ?_
      try simp only [nmA, nmB, nmC]
      refine wp_y (v := (.bool true)) rfl rfl (y_pick (b := true) rfl) rfl ?_
      try simp only [nmA, nmB, nmC]
      refine wp_y (v := (.bool true)) rfl rfl (y_assign rfl) rfl ?_
      try simp only [nmA, nmB, nmC]
      refine wp_end ?_
      go_wp2_with fail
      go_ret
      exact ⟨rfl, HB0.out⟩
end Go.Proofs.YtmdpccjhjhkpgaaGreatDoor
