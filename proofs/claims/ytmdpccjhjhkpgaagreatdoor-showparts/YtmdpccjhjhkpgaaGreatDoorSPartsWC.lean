/- the text SPartsW -/
import Derived.Test.YtmdpccjhjhkpgaaGreatDoorSPartsMC
namespace Go.Proofs.YtmdpccjhjhkpgaaGreatDoor
open Go Go.RowKit

theorem idxS (b n cap k : Nat) (h : k < n) (w : World) : (Instr.indexAt 34 (.slice (some ⟨b, 0, none⟩) n cap) (.int .i64 k)).run Tryz.prog w = .ok (.pointer (some ⟨b, k, none⟩)) w := by
  have := idx70 b 0 n cap k h w
  rw [Nat.zero_add] at this
  exact this
theorem sexpr_no {t : Tr} {w : World} {v : Value} (hok : t.Ok) (htb : Tb w.heap.size w) (hnd : Nd w v t) (hr : (rt 100 t && decide (0 ≤ lft t 8192)) = false) : Calls Tryz.prog 10 #[v] w fun e w' => e = .returned (.tuple #[strV [], .int .i64 90]) ∧ Below w.heap.size w w' := by
  refine (expr12_any hok htb hnd (fun h => fw_len h)).mono fun e w' h => ?_
  rw [hr] at h
  exact h
theorem So.blk {n : Nat} {w : World} {v : Value} {ls : List (List UInt8)} (h : So n w v ls) (h0 : 0 < ls.length) : ∃ g cap cur, v = .slice (some ⟨g, 0, none⟩) ls.length cap ∧ w.heap[g]? = some (.cells cur 9 (0, 0)) ∧ ∀ (i : Nat) (s : List UInt8), ls[i]? = some s → cur[i]? = some (strV s) := by
  rcases h.2 with ⟨h, h1⟩ | ⟨g, cap, cur, e, hb, hg, h3, h4, h5, h6⟩
  · omega
  · refine ⟨g, cap, cur, e, hg, fun i s hi => ?_⟩
    have hlt := (List.getElem?_eq_some_iff.1 hi).1
    have h7 : (ls.map strV)[i]? = some (strV s) := by rw [List.getElem?_map, hi]; rfl
    rw [← h7, ← h6, List.getElem?_take_of_lt (by omega), Array.getElem?_toList]
theorem so_not {n : Nat} {w : World} {v : Value} {ls : List (List UInt8)} (h : So n w v ls) {g : Nat} {c : Array Value} {t : TypeId} {z : Nat × Nat} (hg : w.heap[g]? = some (.cells c t z)) (ht : t ≠ 9) : g ∉ v.ownBlock.toList := fun hm => by
  obtain ⟨c', h', -⟩ := h.own_lt (by simpa using hm)
  rw [hg] at h'
  injection h' with h'
  injection h' with _ h' _
  exact ht h'
theorem fws_ls {ks : List Tr} {j : Nat} {t : Tr} (h : ks[j]? = some t) : (wrsOf (ks.take (j + 1))).map fw = (wrsOf (ks.take j)).map fw ++ [fw (wrOf t)] := by rw [take_next h, wrsOf_snoc, List.map_append]; rfl
theorem ls_at {ps : List Wr} {j : Nat} {x : Wr} (h : ps[j]? = some x) : (ps.map fw)[j]? = some (fw x) := by rw [List.getElem?_map, h]; rfl
theorem bs_Sstring_1 (w : World) (x0 : Value) (h0 : x0.cells = #[x0]) : ∃ w1 g, (Instr.buildSlice 34 1 #[(0, x0)]).run Tryz.prog w = .ok (.slice (some ⟨g, 0, none⟩) 1 1) w1 ∧ w1.heap[g]? = some (.cells #[x0] 9 (0, 0)) ∧ Below w.heap.size w w1 := by
  refine ⟨w.alloc (.cells #[x0] 9), w.heap.size, ?_, heap_alloc_last w _, (Below.refl _ _).alloc (Nat.le_refl _) _⟩
  simp [Instr.buildSlice, Instr.fill, h0]
  go_simp
set_option maxRecDepth 100000 in
set_option maxHeartbeats 1000000 in
seal wpList in
theorem pw_no {k : Int} {tx : List UInt8} {n : Int} {kids : List Tr} {at_ : Int} {w : World} {v : Value} (hok : Tr.Ok (.mk k tx n kids at_)) (htb : Tb w.heap.size w) (hnd : Nd w v (.mk k tx n kids at_)) (hr : (rt 100 (.mk k tx n kids at_) && decide (0 ≤ lft (.mk k tx n kids at_) 8192)) = false) : Calls Tryz.prog 6 #[v] w fun e w' => e = .returned (.bool true) ∧ Below w.heap.size w w' := by
  have HOK := hid hok
  have HTB := hid htb
  have HN := hid hnd
  have HN0 := hid hnd
  have HR := hid hr
  have HB0 := hid (Below.refl w.heap.size w)
  obtain ⟨a, c, rfl, -, -⟩ := hnd.open
  clear hok htb hnd hr
  obtain ⟨N, hN⟩ : ∃ N, kids.length = N := ⟨_, rfl⟩
  rw [hN] at HN HN0 ⊢
  have HNN := hid hN
  clear hN
  go_enter Tryz.func6, Tryz.ntmps6
  go_upto_region 0 with fail
  refine wp_region_lit ?_
  obtain ⟨w3, g1, hbx, hbk, hbb⟩ := box_x 24 w #[(.int .i64 k), (strV tx), (.int .i64 n), (.slice a N c), (.int .i64 at_)]
  have K2 := hid hbk
  have HB4 := hid hbb
  have HX := hid hbx
  clear hbx hbk hbb
  refine wp_run (v := (.pointer (some ⟨g1, 0, none⟩))) rfl rfl (run_boxOp rfl (by kernel_rfl) HX.out) rfl ?_
  try simp only [nmA, nmB, nmC]
  clear HX
  replace HTB := hid (HTB.out.below HB4.out)
  replace HN := hid (HN.out.later HB4.out)
  replace HB0 := hid (HB0.out.trans (HB4.out.mono HB0.out.size))
  refine wp_y (v := (.bool false)) rfl rfl (y_assign rfl) rfl ?_
  try simp only [nmA, nmB, nmC]
  refine wp_end ?_
  go_upto_region 1 with fail
  refine wp_region_lit ?_
  refine wp_call (f := 9) (args := #[]) (by kernel_rfl) (fun w => by go_simp) ?_
  have HCA := hid (shown_any (HTB.out.mono HB0.out.size))
  refine HCA.out.mono ?_
  clear HCA
  rintro e w5 ⟨he, hq⟩
  subst he
  refine ⟨_, rfl, ?_⟩
  have HB6 := hid hq
  clear hq
  replace K2 := hid (below_at HB6.out K2.out (heap_lt K2.out))
  replace HTB := hid (HTB.out.below HB6.out)
  replace HN := hid (HN.out.later HB6.out)
  replace HB0 := hid (HB0.out.trans (HB6.out.mono HB0.out.size))
  dsimp only [Act.put]
  try simp only [nmA, nmB, nmC]
  refine wp_y (v := (.bool true)) rfl rfl (y_assign rfl) rfl ?_
  try simp only [nmA, nmB, nmC]
  refine wp_end ?_
  go_upto_region 2 with fail
  refine wp_region_lit ?_
  refine wp_y (v := (nv k tx n (.slice a N c) at_)) rfl rfl (y_load rfl (hl := fun w' h => by rw [h]; exact load_blk Tryz.isAgg24 (by kernel_rfl) rfl K2.out)) rfl ?_
  try simp only [nmA, nmB, nmC]
  refine wp_call (f := 10) (args := #[(nv k tx n (.slice a N c) at_)]) (by kernel_rfl) (fun w => by go_simp) ?_
  have HCA := hid (sexpr_no HOK.out (HTB.out.mono HB0.out.size) HN.out HR.out)
  refine HCA.out.mono ?_
  clear HCA
  rintro e w7 ⟨he, hq⟩
  subst he
  refine ⟨_, rfl, ?_⟩
  have HB8 := hid hq
  clear hq
  replace K2 := hid (below_at HB8.out K2.out (heap_lt K2.out))
  replace HTB := hid (HTB.out.below HB8.out)
  replace HN := hid (HN.out.later HB8.out)
  replace HB0 := hid (HB0.out.trans (HB8.out.mono HB0.out.size))
  dsimp only [Act.put]
  try simp only [nmA, nmB, nmC]
  refine wp_y (v := (.tuple #[(strV []), (.int .i64 90)])) rfl rfl (y_move rfl) rfl ?_
  try simp only [nmA, nmB, nmC]
  refine wp_y (v := (strV [])) rfl rfl (y_ext rfl (hr := ext2_0 (strV []) (.int .i64 90))) rfl ?_
  try simp only [nmA, nmB, nmC]
  refine wp_y (v := (.int .i64 90)) rfl rfl (y_ext rfl (hr := ext2_1 (strV []) (.int .i64 90))) rfl ?_
  try simp only [nmA, nmB, nmC]
  refine wp_y (v := (strV [])) rfl rfl (y_assign rfl) rfl ?_
  try simp only [nmA, nmB, nmC]
  refine wp_y (v := (.int .i64 90)) rfl rfl (y_assign rfl) rfl ?_
  try simp only [nmA, nmB, nmC]
  refine wp_end ?_
  go_upto_region 3 with fail
  refine wp_region_lit ?_
  refine wp_y (v := (.int .i64 90)) rfl rfl (y_move rfl) rfl ?_
  try simp only [nmA, nmB, nmC]
  refine wp_y (v := (.bool true)) rfl rfl (y_bin (k := .i64) (k' := .i64) (m := 90) (n := 0) rfl (by kernel_rfl) (by kernel_rfl) (by kernel_rfl) (bneq_api_Errno 90 0 true (by decide))) rfl ?_
  try simp only [nmA, nmB, nmC]
  refine wp_y (v := (.bool true)) rfl rfl (y_move rfl) rfl ?_
  try simp only [nmA, nmB, nmC]
  refine wp_sk rfl (by kernel_rfl) rfl ?_
  try simp only [nmA, nmB, nmC]
  refine wp_sk rfl (by kernel_rfl) rfl ?_
  try simp only [nmA, nmB, nmC]
  refine wp_sk rfl (by kernel_rfl) rfl ?_
  try simp only [nmA, nmB, nmC]
  refine wp_sk rfl (by kernel_rfl) rfl ?_
  try simp only [nmA, nmB, nmC]
  refine wp_sk rfl (by kernel_rfl) rfl ?_
  try simp only [nmA, nmB, nmC]
  refine wp_sk rfl (by kernel_rfl) rfl ?_
  try simp only [nmA, nmB, nmC]
  refine wp_sk rfl (by kernel_rfl) rfl ?_
  try simp only [nmA, nmB, nmC]
  refine wp_sk rfl (by kernel_rfl) rfl ?_
  try simp only [nmA, nmB, nmC]
  refine wp_y (v := (.bool true)) rfl rfl (y_pick (b := true) rfl) rfl ?_
  try simp only [nmA, nmB, nmC]
  refine wp_end ?_
  go_upto_region 4 with fail
  refine wp_region_lit ?_
  refine wp_y (v := (.bool true)) rfl rfl (y_move rfl) rfl ?_
  try simp only [nmA, nmB, nmC]
  refine wp_y (v := (.bool true)) rfl rfl (y_assign rfl) rfl ?_
  try simp only [nmA, nmB, nmC]
  refine wp_end ?_
  go_wp2_with fail
  go_ret
  exact ⟨rfl, HB0.out⟩
set_option maxRecDepth 100000 in
set_option maxHeartbeats 1000000 in
seal wpList in
theorem pw_else {k : Int} {tx : List UInt8} {n : Int} {kids : List Tr} {at_ : Int} {w : World} {v : Value} (hok : Tr.Ok (.mk k tx n kids at_)) (htb : Tb w.heap.size w) (hnd : Nd w v (.mk k tx n kids at_)) (hr : (rt 100 (.mk k tx n kids at_) && decide (0 ≤ lft (.mk k tx n kids at_) 8192)) = true) (h1 : k ≠ 11) (h2 : k ≠ 14) : Calls Tryz.prog 6 #[v] w fun e w' => e = .returned (.bool true) ∧ Below w.heap.size w w' := by
  have HOK := hid hok
  have HTB := hid htb
  have HN := hid hnd
  have HN0 := hid hnd
  have HR := hid hr
  have HB0 := hid (Below.refl w.heap.size w)
  obtain ⟨a, c, rfl, -, -⟩ := hnd.open
  clear hok htb hnd hr
  obtain ⟨N, hN⟩ : ∃ N, kids.length = N := ⟨_, rfl⟩
  rw [hN] at HN HN0 ⊢
  have HNN := hid hN
  clear hN
  obtain ⟨sx, hsx⟩ : ∃ sx, fw (wrOf (.mk k tx n kids at_)) = sx := ⟨_, rfl⟩
  have HSX := hid hsx
  clear hsx
  have HK1 : Hid ((k != (11 : Int)) = true) := hid (by simpa using h1)
  have HK2 : Hid ((k != (14 : Int)) = true) := hid (by simpa using h2)
  clear h1 h2
  go_enter Tryz.func6, Tryz.ntmps6
  go_upto_region 0 with fail
  refine wp_region_lit ?_
  obtain ⟨w3, g1, hbx, hbk, hbb⟩ := box_x 24 w #[(.int .i64 k), (strV tx), (.int .i64 n), (.slice a N c), (.int .i64 at_)]
  have K2 := hid hbk
  have HB4 := hid hbb
  have HX := hid hbx
  clear hbx hbk hbb
  refine wp_run (v := (.pointer (some ⟨g1, 0, none⟩))) rfl rfl (run_boxOp rfl (by kernel_rfl) HX.out) rfl ?_
  try simp only [nmA, nmB, nmC]
  clear HX
  replace HTB := hid (HTB.out.below HB4.out)
  replace HN := hid (HN.out.later HB4.out)
  replace HB0 := hid (HB0.out.trans (HB4.out.mono HB0.out.size))
  refine wp_y (v := (.bool false)) rfl rfl (y_assign rfl) rfl ?_
  try simp only [nmA, nmB, nmC]
  refine wp_end ?_
  go_upto_region 1 with fail
  refine wp_region_lit ?_
  refine wp_call (f := 9) (args := #[]) (by kernel_rfl) (fun w => by go_simp) ?_
  have HCA := hid (shown_any (HTB.out.mono HB0.out.size))
  refine HCA.out.mono ?_
  clear HCA
  rintro e w5 ⟨he, hq⟩
  subst he
  refine ⟨_, rfl, ?_⟩
  have HB6 := hid hq
  clear hq
  replace K2 := hid (below_at HB6.out K2.out (heap_lt K2.out))
  replace HTB := hid (HTB.out.below HB6.out)
  replace HN := hid (HN.out.later HB6.out)
  replace HB0 := hid (HB0.out.trans (HB6.out.mono HB0.out.size))
  dsimp only [Act.put]
  try simp only [nmA, nmB, nmC]
  refine wp_y (v := (.bool true)) rfl rfl (y_assign rfl) rfl ?_
  try simp only [nmA, nmB, nmC]
  refine wp_end ?_
  go_upto_region 2 with fail
  refine wp_region_lit ?_
  refine wp_y (v := (nv k tx n (.slice a N c) at_)) rfl rfl (y_load rfl (hl := fun w' h => by rw [h]; exact load_blk Tryz.isAgg24 (by kernel_rfl) rfl K2.out)) rfl ?_
  try simp only [nmA, nmB, nmC]
  refine wp_call (f := 10) (args := #[(nv k tx n (.slice a N c) at_)]) (by kernel_rfl) (fun w => by go_simp) ?_
  have HCA := hid (sexpr_yes HOK.out (HTB.out.mono HB0.out.size) HN.out HR.out)
  refine HCA.out.mono ?_
  clear HCA
  rintro e w7 ⟨he, hq⟩
  rw [HSX.out] at he
  subst he
  refine ⟨_, rfl, ?_⟩
  have HB8 := hid hq
  clear hq
  replace K2 := hid (below_at HB8.out K2.out (heap_lt K2.out))
  replace HTB := hid (HTB.out.below HB8.out)
  replace HN := hid (HN.out.later HB8.out)
  replace HB0 := hid (HB0.out.trans (HB8.out.mono HB0.out.size))
  dsimp only [Act.put]
  try simp only [nmA, nmB, nmC]
  refine wp_y (v := (.tuple #[(strV sx), (.int .i64 0)])) rfl rfl (y_move rfl) rfl ?_
  try simp only [nmA, nmB, nmC]
  refine wp_y (v := (strV sx)) rfl rfl (y_ext rfl (hr := ext2_0 (strV sx) (.int .i64 0))) rfl ?_
  try simp only [nmA, nmB, nmC]
  refine wp_y (v := (.int .i64 0)) rfl rfl (y_ext rfl (hr := ext2_1 (strV sx) (.int .i64 0))) rfl ?_
  try simp only [nmA, nmB, nmC]
  refine wp_y (v := (strV sx)) rfl rfl (y_assign rfl) rfl ?_
  try simp only [nmA, nmB, nmC]
  refine wp_y (v := (.int .i64 0)) rfl rfl (y_assign rfl) rfl ?_
  try simp only [nmA, nmB, nmC]
  refine wp_end ?_
  go_upto_region 3 with fail
  refine wp_region_lit ?_
  refine wp_y (v := (.int .i64 0)) rfl rfl (y_move rfl) rfl ?_
  try simp only [nmA, nmB, nmC]
  refine wp_y (v := (.bool false)) rfl rfl (y_bin (k := .i64) (k' := .i64) (m := 0) (n := 0) rfl (by kernel_rfl) (by kernel_rfl) (by kernel_rfl) (bneq_api_Errno 0 0 false (by decide))) rfl ?_
  try simp only [nmA, nmB, nmC]
  refine wp_y (v := (.bool false)) rfl rfl (y_move rfl) rfl ?_
  try simp only [nmA, nmB, nmC]
  refine wp_yg (v := (.pointer (some ⟨g1, 0, none⟩))) rfl (y_faddr rfl (hf := fa_api_Node_0 g1 0)) rfl ?_
  try simp only [nmA, nmB, nmC]
  refine wp_yg (v := (.int .i64 k)) rfl (y_load rfl (hl := fun w' h => by rw [h]; exact load1 Tryz.isAgg3 (cell_at K2.out 0 rfl))) rfl ?_
  try simp only [nmA, nmB, nmC]
  refine wp_yg (v := (.bool true)) rfl (y_bin (k := .i64) (k' := .i64) (m := k) (n := 11) rfl (by kernel_rfl) (by kernel_rfl) (by kernel_rfl) (bneq_int k 11 true HK1.out)) rfl ?_
  try simp only [nmA, nmB, nmC]
  refine wp_yg (v := (.bool true)) rfl (y_move rfl) rfl ?_
  try simp only [nmA, nmB, nmC]
  refine wp_yg (v := (.pointer (some ⟨g1, 0, none⟩))) rfl (y_faddr rfl (hf := fa_api_Node_0 g1 0)) rfl ?_
  try simp only [nmA, nmB, nmC]
  refine wp_yg (v := (.int .i64 k)) rfl (y_load rfl (hl := fun w' h => by rw [h]; exact load1 Tryz.isAgg3 (cell_at K2.out 0 rfl))) rfl ?_
  try simp only [nmA, nmB, nmC]
  refine wp_yg (v := (.bool true)) rfl (y_bin (k := .i64) (k' := .i64) (m := k) (n := 14) rfl (by kernel_rfl) (by kernel_rfl) (by kernel_rfl) (bneq_int k 14 true HK2.out)) rfl ?_
  try simp only [nmA, nmB, nmC]
  refine wp_yg (v := (.bool true)) rfl (y_pick (b := true) rfl) rfl ?_
  try simp only [nmA, nmB, nmC]
  refine wp_y (v := (.bool true)) rfl rfl (y_pick (b := false) rfl) rfl ?_
  try simp only [nmA, nmB, nmC]
  refine wp_end ?_
  go_upto_region 4 with fail
  refine wp_region_lit ?_
  refine wp_y (v := (.bool true)) rfl rfl (y_move rfl) rfl ?_
  try simp only [nmA, nmB, nmC]
  refine wp_y (v := (.bool true)) rfl rfl (y_assign rfl) rfl ?_
  try simp only [nmA, nmB, nmC]
  refine wp_end ?_
  go_wp2_with fail
  go_ret
  exact ⟨rfl, HB0.out⟩
theorem kids_some {k : Int} {tx : List UInt8} {n : Int} {ks : List Tr} {at_ : Int} (h : (rt 100 (.mk k tx n ks at_) && decide (0 ≤ lft (.mk k tx n ks at_) 8192)) = true) (hk : 1 ≤ (kidsOf k).1) : 0 < ks.length := by
  simp only [Bool.and_eq_true] at h
  have h1 := h.1
  rw [rt] at h1
  simp only [Bool.and_eq_true] at h1
  have h2 := h1.1.2
  unfold kidsOk at h2
  simp only [Bool.and_eq_true, decide_eq_true_eq] at h2
  omega
set_option maxRecDepth 100000 in
set_option maxHeartbeats 1000000 in
seal wpList in
theorem pw_call {tx : List UInt8} {n : Int} {kids : List Tr} {at_ : Int} {w : World} {v : Value} (hok : Tr.Ok (.mk 11 tx n kids at_)) (htb : Tb w.heap.size w) (hnd : Nd w v (.mk 11 tx n kids at_)) (hr : (rt 100 (.mk 11 tx n kids at_) && decide (0 ≤ lft (.mk 11 tx n kids at_) 8192)) = true) : Calls Tryz.prog 6 #[v] w fun e w' => e = .returned (.bool true) ∧ Below w.heap.size w w' := by
  have HOK := hid hok
  have HTB := hid htb
  have HN := hid hnd
  have HN0 := hid hnd
  have HR := hid hr
  have HB0 := hid (Below.refl w.heap.size w)
  obtain ⟨a, c, rfl, -, -⟩ := hnd.open
  clear hok htb hnd hr
  obtain ⟨N, hN⟩ : ∃ N, kids.length = N := ⟨_, rfl⟩
  rw [hN] at HN HN0 ⊢
  have HNN := hid hN
  clear hN
  obtain ⟨sx, hsx⟩ : ∃ sx, fw (wrOf (.mk 11 tx n kids at_)) = sx := ⟨_, rfl⟩
  have HSX := hid hsx
  clear hsx
  have HN8 : Hid (N ≤ 8) := hid (by rw [← HNN.out]; exact call_kids HR.out)
  have HN1 : Hid (0 < N) := hid (by rw [← HNN.out]; exact kids_some HR.out (by decide))
  go_enter Tryz.func6, Tryz.ntmps6
  go_upto_region 0 with fail
  refine wp_region_lit ?_
  obtain ⟨w3, g1, hbx, hbk, hbb⟩ := box_x 24 w #[(.int .i64 11), (strV tx), (.int .i64 n), (.slice a N c), (.int .i64 at_)]
  have K2 := hid hbk
  have HB4 := hid hbb
  have HX := hid hbx
  clear hbx hbk hbb
  refine wp_run (v := (.pointer (some ⟨g1, 0, none⟩))) rfl rfl (run_boxOp rfl (by kernel_rfl) HX.out) rfl ?_
  try simp only [nmA, nmB, nmC]
  clear HX
  replace HTB := hid (HTB.out.below HB4.out)
  replace HN := hid (HN.out.later HB4.out)
  replace HB0 := hid (HB0.out.trans (HB4.out.mono HB0.out.size))
  refine wp_y (v := (.bool false)) rfl rfl (y_assign rfl) rfl ?_
  try simp only [nmA, nmB, nmC]
  refine wp_end ?_
  go_upto_region 1 with fail
  refine wp_region_lit ?_
  refine wp_call (f := 9) (args := #[]) (by kernel_rfl) (fun w => by go_simp) ?_
  have HCA := hid (shown_any (HTB.out.mono HB0.out.size))
  refine HCA.out.mono ?_
  clear HCA
  rintro e w5 ⟨he, hq⟩
  subst he
  refine ⟨_, rfl, ?_⟩
  have HB6 := hid hq
  clear hq
  replace K2 := hid (below_at HB6.out K2.out (heap_lt K2.out))
  replace HTB := hid (HTB.out.below HB6.out)
  replace HN := hid (HN.out.later HB6.out)
  replace HB0 := hid (HB0.out.trans (HB6.out.mono HB0.out.size))
  dsimp only [Act.put]
  try simp only [nmA, nmB, nmC]
  refine wp_y (v := (.bool true)) rfl rfl (y_assign rfl) rfl ?_
  try simp only [nmA, nmB, nmC]
  refine wp_end ?_
  go_upto_region 2 with fail
  refine wp_region_lit ?_
  refine wp_y (v := (nv 11 tx n (.slice a N c) at_)) rfl rfl (y_load rfl (hl := fun w' h => by rw [h]; exact load_blk Tryz.isAgg24 (by kernel_rfl) rfl K2.out)) rfl ?_
  try simp only [nmA, nmB, nmC]
  refine wp_call (f := 10) (args := #[(nv 11 tx n (.slice a N c) at_)]) (by kernel_rfl) (fun w => by go_simp) ?_
  have HCA := hid (sexpr_yes HOK.out (HTB.out.mono HB0.out.size) HN.out HR.out)
  refine HCA.out.mono ?_
  clear HCA
  rintro e w7 ⟨he, hq⟩
  rw [HSX.out] at he
  subst he
  refine ⟨_, rfl, ?_⟩
  have HB8 := hid hq
  clear hq
  replace K2 := hid (below_at HB8.out K2.out (heap_lt K2.out))
  replace HTB := hid (HTB.out.below HB8.out)
  replace HN := hid (HN.out.later HB8.out)
  replace HB0 := hid (HB0.out.trans (HB8.out.mono HB0.out.size))
  dsimp only [Act.put]
  try simp only [nmA, nmB, nmC]
  refine wp_y (v := (.tuple #[(strV sx), (.int .i64 0)])) rfl rfl (y_move rfl) rfl ?_
  try simp only [nmA, nmB, nmC]
  refine wp_y (v := (strV sx)) rfl rfl (y_ext rfl (hr := ext2_0 (strV sx) (.int .i64 0))) rfl ?_
  try simp only [nmA, nmB, nmC]
  refine wp_y (v := (.int .i64 0)) rfl rfl (y_ext rfl (hr := ext2_1 (strV sx) (.int .i64 0))) rfl ?_
  try simp only [nmA, nmB, nmC]
  refine wp_y (v := (strV sx)) rfl rfl (y_assign rfl) rfl ?_
  try simp only [nmA, nmB, nmC]
  refine wp_y (v := (.int .i64 0)) rfl rfl (y_assign rfl) rfl ?_
  try simp only [nmA, nmB, nmC]
  refine wp_end ?_
  go_upto_region 3 with fail
  refine wp_region_lit ?_
  refine wp_y (v := (.int .i64 0)) rfl rfl (y_move rfl) rfl ?_
  try simp only [nmA, nmB, nmC]
  refine wp_y (v := (.bool false)) rfl rfl (y_bin (k := .i64) (k' := .i64) (m := 0) (n := 0) rfl (by kernel_rfl) (by kernel_rfl) (by kernel_rfl) (bneq_api_Errno 0 0 false (by decide))) rfl ?_
  try simp only [nmA, nmB, nmC]
  refine wp_y (v := (.bool false)) rfl rfl (y_move rfl) rfl ?_
  try simp only [nmA, nmB, nmC]
  refine wp_yg (v := (.pointer (some ⟨g1, 0, none⟩))) rfl (y_faddr rfl (hf := fa_api_Node_0 g1 0)) rfl ?_
  try simp only [nmA, nmB, nmC]
  refine wp_yg (v := (.int .i64 11)) rfl (y_load rfl (hl := fun w' h => by rw [h]; exact load1 Tryz.isAgg3 (cell_at K2.out 0 rfl))) rfl ?_
  try simp only [nmA, nmB, nmC]
  refine wp_yg (v := (.bool false)) rfl (y_bin (k := .i64) (k' := .i64) (m := 11) (n := 11) rfl (by kernel_rfl) (by kernel_rfl) (by kernel_rfl) (bneq_int 11 11 false (by decide))) rfl ?_
  try simp only [nmA, nmB, nmC]
  refine wp_yg (v := (.bool false)) rfl (y_move rfl) rfl ?_
  try simp only [nmA, nmB, nmC]
  refine wp_sk rfl (by kernel_rfl) rfl ?_
  try simp only [nmA, nmB, nmC]
  refine wp_sk rfl (by kernel_rfl) rfl ?_
  try simp only [nmA, nmB, nmC]
  refine wp_sk rfl (by kernel_rfl) rfl ?_
  try simp only [nmA, nmB, nmC]
  refine wp_yg (v := (.bool false)) rfl (y_pick (b := false) rfl) rfl ?_
  try simp only [nmA, nmB, nmC]
  refine wp_y (v := (.bool false)) rfl rfl (y_pick (b := false) rfl) rfl ?_
  try simp only [nmA, nmB, nmC]
  refine wp_end ?_
  go_upto_region 5 with fail
  refine wp_region_lit ?_
  refine wp_y (v := (.slice none 0 0)) rfl rfl (y_assign rfl) rfl ?_
  try simp only [nmA, nmB, nmC]
  refine wp_end ?_
  go_upto_region 6 with fail
  refine wp_region_lit ?_
  refine wp_y (v := (.int .i64 0)) rfl rfl (y_assign rfl) rfl ?_
  try simp only [nmA, nmB, nmC]
  refine wp_end ?_
  go_wp2_with fail
  go_loopw [7, 6] (fun v7 v6 wr => ∃ j : Nat, j ≤ N ∧ v7 = .int .i64 j ∧ So w.heap.size wr v6 ((wrsOf (kids.take j)).map fw) ∧ Below w.heap.size w wr ∧ Tb w.heap.size wr ∧ wr.heap[g1]? = some (.cells #[.int .i64 11, strV tx, .int .i64 n, .slice a N c, .int .i64 at_] 24 (0, 0))) (fun v7 _ _ => N - (intOf v7).toNat)
  case atStart =>
    exact ⟨0, Nat.zero_le _, rfl, by simpa [wrsOf] using So.nil _ _, HB0.out, HTB.out, K2.out⟩
  case round =>
    obtain ⟨j, hj, rfl, hso, hB, hT, hk⟩ := hrel
    clear HB0 HTB HN
    have HSO := hid hso
    have HB0 := hid hB
    have HTB := hid hT
    have KN := hid hk
    have HJJ := hid hj
    clear hso hB hT hk hj
    go_upto_region 7 with fail
    refine wp_region_lit ?_
    refine wp_y (v := (.int .i64 (((j : Nat) : Int)))) rfl rfl (y_move rfl) rfl ?_
    try simp only [nmA, nmB, nmC]
    refine wp_y (v := (.pointer (some ⟨g1, 3, none⟩))) rfl rfl (y_faddr rfl (hf := fa_api_Node_3 g1 0)) rfl ?_
    try simp only [nmA, nmB, nmC]
    refine wp_y (v := (.slice a N c)) rfl rfl (y_load rfl (hl := fun w' h => by rw [h]; exact load1 Tryz.isAgg22 (cell_at KN.out 3 rfl))) rfl ?_
    try simp only [nmA, nmB, nmC]
    refine wp_y (v := (.int .i64 (((N : Nat) : Int)))) rfl rfl (y_lenT len_Sapi_Node (p := a) (n := N) (c := c) rfl (by kernel_rfl) (by kernel_rfl)) rfl ?_
    try simp only [nmA, nmB, nmC]
    rcases Bool.eq_false_or_eq_true (decide (((j : Nat) : Int) < ((N : Nat) : Int))) with hb9 | hb9
    · have Hhb9 := hid hb9
      clear hb9
      have hlt : j < N := by have := of_decide_eq_true Hhb9.out; omega
      obtain ⟨t, ht⟩ : ∃ t, kids[j]? = some t := ⟨_, List.getElem?_eq_getElem (by rw [HNN.out]; exact hlt)⟩
      obtain ⟨b, o, k', tx', n', ks', at', a', c', rfl, rfl, hcl, hnd⟩ := Nd.kid HN0.out ht
      have HOKK := hid (HOK.out.kid ht)
      have HJ := hid ht
      have HLT := hid hlt
      have HCL := hid (hcl.below HB0.out)
      have HNK := hid (hnd.later HB0.out)
      have HS1 := hid (wrap_next (N := N) hlt (by have := HN8.out; omega))
      clear hlt ht hcl hnd
      obtain ⟨N', hN'⟩ : ∃ x, ks'.length = x := ⟨_, rfl⟩
      rw [hN'] at HCL HNK
      clear hN'
      obtain ⟨sk, hsk⟩ : ∃ x, fw (wrOf (.mk k' tx' n' ks' at')) = x := ⟨_, rfl⟩
      have HSK := hid hsk
      clear hsk
      refine wp_y (v := (.bool true)) rfl rfl (y_bin (k := .i64) (k' := .i64) (m := ((j : Nat) : Int)) (n := ((N : Nat) : Int)) rfl (by kernel_rfl) (by kernel_rfl) (by kernel_rfl) (blss_int ((j : Nat) : Int) ((N : Nat) : Int) true Hhb9.out)) rfl ?_
      try simp only [nmA, nmB, nmC]
      refine wp_end ?_
      go_upto_region 9 with fail
      refine wp_region_lit ?_
      refine wp_y (v := (.pointer (some ⟨g1, 3, none⟩))) rfl rfl (y_faddr rfl (hf := fa_api_Node_3 g1 0)) rfl ?_
      try simp only [nmA, nmB, nmC]
      refine wp_y (v := (.slice (some ⟨b, o, none⟩) N c)) rfl rfl (y_load rfl (hl := fun w' h => by rw [h]; exact load1 Tryz.isAgg22 (cell_at KN.out 3 rfl))) rfl ?_
      try simp only [nmA, nmB, nmC]
      refine wp_y (v := (.int .i64 (((j : Nat) : Int)))) rfl rfl (y_move rfl) rfl ?_
      try simp only [nmA, nmB, nmC]
      refine wp_y (v := (.pointer (some ⟨b, o + j * 5, none⟩))) rfl rfl (y_index (p := (.slice (some ⟨b, o, none⟩) N c)) (k := (.int .i64 (((j : Nat) : Int)))) rfl (by kernel_rfl) (by kernel_rfl) (by kernel_rfl) (idx24 b o N c j HLT.out)) rfl ?_
      try simp only [nmA, nmB, nmC]
      refine wp_y (v := (nv k' tx' n' (.slice a' N' c') at')) rfl rfl (y_load rfl (hl := fun w' h => by rw [h]; exact load24 HCL.out)) rfl ?_
      try simp only [nmA, nmB, nmC]
      refine wp_call (f := 10) (args := #[(nv k' tx' n' (.slice a' N' c') at')]) (by kernel_rfl) (fun w => by go_simp) ?_
      have HCA := hid (sexpr_yes HOKK.out (HTB.out.mono HB0.out.size) HNK.out (right_kid HR.out HJ.out))
      refine HCA.out.mono ?_
      clear HCA
      rintro e w10 ⟨he, hq⟩
      rw [HSK.out] at he
      subst he
      refine ⟨_, rfl, ?_⟩
      have HB11 := hid hq
      clear hq
      replace KN := hid (below_at HB11.out KN.out (heap_lt KN.out))
      replace HTB := hid (HTB.out.below HB11.out)
      replace HSO := hid (So.below HSO.out HB11.out)
      replace HNK := hid (HNK.out.later HB11.out)
      replace HCL := hid (Cl.below HCL.out HB11.out)
      replace HB0 := hid (HB0.out.trans (HB11.out.mono HB0.out.size))
      dsimp only [Act.put]
      try simp only [nmA, nmB, nmC]
      refine wp_y (v := (.tuple #[(strV sk), (.int .i64 0)])) rfl rfl (y_move rfl) rfl ?_
      try simp only [nmA, nmB, nmC]
      refine wp_y (v := (strV sk)) rfl rfl (y_ext rfl (hr := ext2_0 (strV sk) (.int .i64 0))) rfl ?_
      try simp only [nmA, nmB, nmC]
      refine wp_y (v := (.int .i64 0)) rfl rfl (y_ext rfl (hr := ext2_1 (strV sk) (.int .i64 0))) rfl ?_
      try simp only [nmA, nmB, nmC]
      refine wp_y (v := (strV sk)) rfl rfl (y_assign rfl) rfl ?_
      try simp only [nmA, nmB, nmC]
      refine wp_y (v := (.int .i64 0)) rfl rfl (y_assign rfl) rfl ?_
      try simp only [nmA, nmB, nmC]
      refine wp_end ?_
      go_upto_region 10 with fail
      refine wp_region_lit ?_
      refine wp_y (v := (.int .i64 0)) rfl rfl (y_move rfl) rfl ?_
      try simp only [nmA, nmB, nmC]
      refine wp_y (v := (.bool false)) rfl rfl (y_bin (k := .i64) (k' := .i64) (m := 0) (n := 0) rfl (by kernel_rfl) (by kernel_rfl) (by kernel_rfl) (bneq_api_Errno 0 0 false (by decide))) rfl ?_
      try simp only [nmA, nmB, nmC]
      refine wp_end ?_
      go_upto_region 12 with fail
      refine wp_region_lit ?_
      refine wp_y (v := u6) rfl rfl (y_move rfl) rfl ?_
      try simp only [nmA, nmB, nmC]
      refine wp_y (v := (strV sk)) rfl rfl (y_move rfl) rfl ?_
      try simp only [nmA, nmB, nmC]
      obtain ⟨w14, g12, hbx, hbk, hbb⟩ := bs_Sstring_1 w10 (strV sk) rfl
      have K13 := hid hbk
      have HB15 := hid hbb
      have HX := hid hbx
      clear hbx hbk hbb
      refine wp_run (v := (.slice (some ⟨g12, 0, none⟩) 1 1)) rfl rfl (run_bsOp rfl (by kernel_rfl) HX.out) rfl ?_
      try simp only [nmA, nmB, nmC]
      clear HX
      replace KN := hid (below_at HB15.out KN.out (heap_lt KN.out))
      replace HTB := hid (HTB.out.below HB15.out)
      replace HSO := hid (So.below HSO.out HB15.out)
      replace HNK := hid (HNK.out.later HB15.out)
      replace HCL := hid (Cl.below HCL.out HB15.out)
      replace HB0 := hid (HB0.out.trans (HB15.out.mono HB0.out.size))
      obtain ⟨v9, w9, ha1, ha2, ha3⟩ := So.app HSO.out (by rw [List.length_map, wrsOf_len]; have h9 := HN8.out; have h8 : (kids.take j).length ≤ kids.length := List.length_take ▸ Nat.min_le_right _ _; rw [HNN.out] at h8; omega) HB0.out.size K13.out
      have HAP := hid ha1
      have HW9 := hid ha2
      have HF9 := hid ha3
      clear ha1 ha2 ha3
      refine wp_run (v := v9) rfl rfl (run_appOp rfl (by kernel_rfl) (by kernel_rfl) (HAP.out _)) rfl ?_
      try simp only [nmA, nmB, nmC]
      have HB9 : Hid (Below w.heap.size w14 w9) := hid (HF9.out.below HB0.out.size (fun x hx => by obtain ⟨c9, h9, h8⟩ := So.own_lt HSO.out (by simpa using hx); exact h8))
      replace KN := hid (Fr.at HF9.out KN.out (so_not HSO.out KN.out (by decide)))
      replace HTB := hid (HTB.out.on HB9.out)
      replace HB0 := hid (HB0.out.trans HB9.out)
      replace HSO := hid HW9.out
      clear HW9 HF9 HAP HB9 HNK HCL
      refine wp_y (v := v9) rfl rfl (y_assign rfl) rfl ?_
      try simp only [nmA, nmB, nmC]
      refine wp_end ?_
      go_upto_region 8 with fail
      refine wp_region_lit ?_
      refine wp_y (v := (.int .i64 (((j : Nat) : Int)))) rfl rfl (y_move rfl) rfl ?_
      try simp only [nmA, nmB, nmC]
      refine wp_y (v := (.int .i64 (((j + 1 : Nat) : Int)))) rfl rfl (y_bin (k := .i64) (k' := .i64) (m := ((j : Nat) : Int)) (n := 1) rfl (by kernel_rfl) (by kernel_rfl) (by kernel_rfl) (badd_int ((j : Nat) : Int) 1 ((j + 1 : Nat) : Int) HS1.out)) rfl ?_
      try simp only [nmA, nmB, nmC]
      refine wp_y (v := (.int .i64 (((j + 1 : Nat) : Int)))) rfl rfl (y_assign rfl) rfl ?_
      try simp only [nmA, nmB, nmC]
      refine wp_end ?_
      go_wp2_with fail
      exact ⟨⟨j + 1, HLT.out, rfl, by rw [fws_ls HJ.out, HSK.out]; exact HSO.out, HB0.out, HTB.out, KN.out⟩, by have := HLT.out; simp [intOf]; omega⟩
    · have Hhb9 := hid hb9
      clear hb9
      have hlt : j = N := by have := of_decide_eq_false Hhb9.out; have := HJJ.out; omega
      have htk : kids.take j = kids := by rw [hlt, List.take_of_length_le (by rw [HNN.out]; exact Nat.le_refl _)]
      rw [htk] at HSO
      clear hlt htk
      obtain ⟨ps, hps⟩ : ∃ ps, wrsOf kids = ps := ⟨_, rfl⟩
      rw [hps] at HSO
      have HPS := hid hps
      have HPL : Hid (ps.length = N) := hid (by rw [← hps, wrsOf_len]; exact HNN.out)
      clear hps
      obtain ⟨gl, cap, cur, rfl, hbl, hcr⟩ := So.blk HSO.out (by rw [List.length_map, HPL.out]; exact HN1.out)
      rw [List.length_map, HPL.out]
      have HBL := hid hbl
      have HCR := hid hcr
      clear hbl hcr HSO HJJ
      have HLW : Hid ((tx ++ [40] ++ fwl true ps ++ [41]).length ≤ 140737488355328) := hid (by have h := fw_len HR.out; rw [wr_call, HPS.out] at h; exact h)
      refine wp_y (v := (.bool false)) rfl rfl (y_bin (k := .i64) (k' := .i64) (m := ((j : Nat) : Int)) (n := ((N : Nat) : Int)) rfl (by kernel_rfl) (by kernel_rfl) (by kernel_rfl) (blss_int ((j : Nat) : Int) ((N : Nat) : Int) false Hhb9.out)) rfl ?_
      try simp only [nmA, nmB, nmC]
      refine wp_end ?_
      go_upto_region 13 with fail
      refine wp_region_lit ?_
      refine wp_y (v := (.pointer (some ⟨g1, 0, none⟩))) rfl rfl (y_faddr rfl (hf := fa_api_Node_0 g1 0)) rfl ?_
      try simp only [nmA, nmB, nmC]
      refine wp_y (v := (.int .i64 11)) rfl rfl (y_load rfl (hl := fun w' h => by rw [h]; exact load1 Tryz.isAgg3 (cell_at KN.out 0 rfl))) rfl ?_
      try simp only [nmA, nmB, nmC]
      refine wp_y (v := (.bool false)) rfl rfl (y_bin (k := .i64) (k' := .i64) (m := 11) (n := 14) rfl (by kernel_rfl) (by kernel_rfl) (by kernel_rfl) (beql_int 11 14 false (by decide))) rfl ?_
      try simp only [nmA, nmB, nmC]
      refine wp_end ?_
      go_upto_region 15 with fail
      refine wp_region_lit ?_
      refine wp_y (v := (.pointer (some ⟨g1, 1, none⟩))) rfl rfl (y_faddr rfl (hf := fa_api_Node_1 g1 0)) rfl ?_
      try simp only [nmA, nmB, nmC]
      refine wp_y (v := (strV tx)) rfl rfl (y_load rfl (hl := fun w' h => by rw [h]; exact load1 Tryz.isAgg9 (cell_at KN.out 1 rfl))) rfl ?_
      try simp only [nmA, nmB, nmC]
      refine wp_y (v := (strV (tx ++ [40]))) rfl rfl (y_addS (l := tx) (m := [40]) rfl (by kernel_rfl) (by kernel_rfl) (by kernel_rfl) (by have := HLW.out; simp only [List.length_append, List.length_cons, List.length_nil] at this ⊢; omega)) rfl ?_
      try simp only [nmA, nmB, nmC]
      refine wp_y (v := (strV (tx ++ [40]))) rfl rfl (y_assign rfl) rfl ?_
      try simp only [nmA, nmB, nmC]
      refine wp_end ?_
      go_upto_region 16 with fail
      refine wp_region_lit ?_
      refine wp_y (v := (.int .i64 0)) rfl rfl (y_assign rfl) rfl ?_
      try simp only [nmA, nmB, nmC]
      refine wp_end ?_
      go_wp2_with fail
      go_loopw [11, 10] (fun v11 v10 wr => ∃ (j : Nat) (out : List UInt8), j ≤ N ∧ v11 = .int .i64 j ∧ v10 = strV out ∧ out = tx ++ [40] ++ fwl true (ps.take j) ∧ Below w.heap.size w wr ∧ wr.heap[gl]? = some (.cells cur 9 (0, 0))) (fun v11 _ _ => N - (intOf v11).toNat)
      case atStart =>
        exact ⟨0, _, Nat.zero_le _, rfl, rfl, by simp [fwl], HB0.out, HBL.out⟩
      case round =>
        obtain ⟨j, out, hj, rfl, rfl, hout, hB, hk⟩ := hrel
        clear HB0 HBL
        have HOUT := hid hout
        have HB0 := hid hB
        have HBL := hid hk
        have HJJ := hid hj
        clear hout hB hk hj
        go_upto_region 17 with fail
        refine wp_region_lit ?_
        refine wp_y (v := (.int .i64 (((j : Nat) : Int)))) rfl rfl (y_move rfl) rfl ?_
        try simp only [nmA, nmB, nmC]
        refine wp_y (v := (.slice (some ⟨gl, 0, none⟩) N cap)) rfl rfl (y_move rfl) rfl ?_
        try simp only [nmA, nmB, nmC]
        refine wp_y (v := (.int .i64 (((N : Nat) : Int)))) rfl rfl (y_lenT len_Sstring (p := (some ⟨gl, 0, none⟩)) (n := N) (c := cap) rfl (by kernel_rfl) (by kernel_rfl)) rfl ?_
        try simp only [nmA, nmB, nmC]
        rcases Bool.eq_false_or_eq_true (decide (((j : Nat) : Int) < ((N : Nat) : Int))) with hb16 | hb16
        · have Hhb16 := hid hb16
          clear hb16
          have hlt : j < N := by have := of_decide_eq_true Hhb16.out; omega
          obtain ⟨x, hx⟩ : ∃ x, ps[j]? = some x := ⟨_, List.getElem?_eq_getElem (by rw [HPL.out]; exact hlt)⟩
          obtain ⟨sk, hsk⟩ : ∃ sk, fw x = sk := ⟨_, rfl⟩
          have HSK := hid hsk
          have HCJ : Hid (cur[j]? = some (strV sk)) := hid (HCR.out j _ (by rw [ls_at hx, hsk]))
          have HLX : Hid (out.length + (bif decide ((0 : Int) < ((j : Nat) : Int)) then ([44, 32] : List UInt8) else []).length + sk.length ≤ 140737488355328) := hid (by have h1 := HLW.out; have h2 := fwl_le true ps (j + 1); rw [fwl_next hx, hsk] at h2; rw [HOUT.out]; simp only [List.length_append, List.length_cons, List.length_nil] at h1 h2 ⊢; omega)
          have HJ := hid hx
          have HLT := hid hlt
          have HS1 := hid (wrap_next (N := N) hlt (by have := HN8.out; omega))
          clear hlt hx hsk
          refine wp_y (v := (.bool true)) rfl rfl (y_bin (k := .i64) (k' := .i64) (m := ((j : Nat) : Int)) (n := ((N : Nat) : Int)) rfl (by kernel_rfl) (by kernel_rfl) (by kernel_rfl) (blss_int ((j : Nat) : Int) ((N : Nat) : Int) true Hhb16.out)) rfl ?_
          try simp only [nmA, nmB, nmC]
          refine wp_end ?_
          go_upto_region 19 with fail
          refine wp_region_lit ?_
          refine wp_y (v := (.int .i64 (((j : Nat) : Int)))) rfl rfl (y_move rfl) rfl ?_
          try simp only [nmA, nmB, nmC]
          rcases Bool.eq_false_or_eq_true (decide ((0 : Int) < ((j : Nat) : Int))) with hb17 | hb17
          · have Hhb17 := hid hb17
            clear hb17
            replace HLX := hid (by have h9 := HLX.out; rw [Hhb17.out] at h9; simp only [cond_true] at h9; exact h9)
            refine wp_y (v := (.bool true)) rfl rfl (y_bin (k := .i64) (k' := .i64) (m := ((j : Nat) : Int)) (n := 0) rfl (by kernel_rfl) (by kernel_rfl) (by kernel_rfl) (bgtr_int ((j : Nat) : Int) 0 true Hhb17.out)) rfl ?_
            try simp only [nmA, nmB, nmC]
            refine wp_end ?_
            go_upto_region 20 with fail
            refine wp_region_lit ?_
            refine wp_y (v := (strV out)) rfl rfl (y_move rfl) rfl ?_
            try simp only [nmA, nmB, nmC]
            refine wp_y (v := (strV (out ++ [44, 32]))) rfl rfl (y_addS (l := out) (m := [44, 32]) rfl (by kernel_rfl) (by kernel_rfl) (by kernel_rfl) (by have := HLX.out; simp only [List.length_cons, List.length_nil] at this ⊢; omega)) rfl ?_
            try simp only [nmA, nmB, nmC]
            refine wp_y (v := (strV (out ++ [44, 32]))) rfl rfl (y_assign rfl) rfl ?_
            try simp only [nmA, nmB, nmC]
            refine wp_end ?_
            go_upto_region 21 with fail
            refine wp_region_lit ?_
            refine wp_y (v := (strV (out ++ [44, 32]))) rfl rfl (y_move rfl) rfl ?_
            try simp only [nmA, nmB, nmC]
            refine wp_y (v := (.slice (some ⟨gl, 0, none⟩) N cap)) rfl rfl (y_move rfl) rfl ?_
            try simp only [nmA, nmB, nmC]
            refine wp_y (v := (.int .i64 (((j : Nat) : Int)))) rfl rfl (y_move rfl) rfl ?_
            try simp only [nmA, nmB, nmC]
            refine wp_y (v := (.pointer (some ⟨gl, j, none⟩))) rfl rfl (y_index (p := (.slice (some ⟨gl, 0, none⟩) N cap)) (k := (.int .i64 (((j : Nat) : Int)))) rfl (by kernel_rfl) (by kernel_rfl) (by kernel_rfl) (idxS gl N cap j HLT.out)) rfl ?_
            try simp only [nmA, nmB, nmC]
            refine wp_y (v := (strV sk)) rfl rfl (y_load rfl (hl := fun w' h => by rw [h]; exact load1 Tryz.isAgg9 (cell_at HBL.out j HCJ.out))) rfl ?_
            try simp only [nmA, nmB, nmC]
            refine wp_y (v := (strV (out ++ [44, 32] ++ sk))) rfl rfl (y_addS (l := out ++ [44, 32]) (m := sk) rfl (by kernel_rfl) (by kernel_rfl) (by kernel_rfl) (by have := HLX.out; simp only [List.length_append, List.length_cons, List.length_nil] at this ⊢; omega)) rfl ?_
            try simp only [nmA, nmB, nmC]
            refine wp_y (v := (strV (out ++ [44, 32] ++ sk))) rfl rfl (y_assign rfl) rfl ?_
            try simp only [nmA, nmB, nmC]
            refine wp_end ?_
            go_upto_region 18 with fail
            refine wp_region_lit ?_
            refine wp_y (v := (.int .i64 (((j : Nat) : Int)))) rfl rfl (y_move rfl) rfl ?_
            try simp only [nmA, nmB, nmC]
            refine wp_y (v := (.int .i64 (((j + 1 : Nat) : Int)))) rfl rfl (y_bin (k := .i64) (k' := .i64) (m := ((j : Nat) : Int)) (n := 1) rfl (by kernel_rfl) (by kernel_rfl) (by kernel_rfl) (badd_int ((j : Nat) : Int) 1 ((j + 1 : Nat) : Int) HS1.out)) rfl ?_
            try simp only [nmA, nmB, nmC]
            refine wp_y (v := (.int .i64 (((j + 1 : Nat) : Int)))) rfl rfl (y_assign rfl) rfl ?_
            try simp only [nmA, nmB, nmC]
            refine wp_end ?_
            go_wp2_with fail
            exact ⟨⟨j + 1, _, HLT.out, rfl, rfl, by rw [fwl_next HJ.out, Hhb17.out, HSK.out, HOUT.out]; simp, HB0.out, HBL.out⟩, by have := HLT.out; simp [intOf]; omega⟩
          · have Hhb17 := hid hb17
            clear hb17
            replace HLX := hid (by have h9 := HLX.out; rw [Hhb17.out] at h9; simp only [cond_false] at h9; exact h9)
            refine wp_y (v := (.bool false)) rfl rfl (y_bin (k := .i64) (k' := .i64) (m := ((j : Nat) : Int)) (n := 0) rfl (by kernel_rfl) (by kernel_rfl) (by kernel_rfl) (bgtr_int ((j : Nat) : Int) 0 false Hhb17.out)) rfl ?_
            try simp only [nmA, nmB, nmC]
            refine wp_end ?_
            go_upto_region 21 with fail
            refine wp_region_lit ?_
            refine wp_y (v := (strV out)) rfl rfl (y_move rfl) rfl ?_
            try simp only [nmA, nmB, nmC]
            refine wp_y (v := (.slice (some ⟨gl, 0, none⟩) N cap)) rfl rfl (y_move rfl) rfl ?_
            try simp only [nmA, nmB, nmC]
            refine wp_y (v := (.int .i64 (((j : Nat) : Int)))) rfl rfl (y_move rfl) rfl ?_
            try simp only [nmA, nmB, nmC]
            refine wp_y (v := (.pointer (some ⟨gl, j, none⟩))) rfl rfl (y_index (p := (.slice (some ⟨gl, 0, none⟩) N cap)) (k := (.int .i64 (((j : Nat) : Int)))) rfl (by kernel_rfl) (by kernel_rfl) (by kernel_rfl) (idxS gl N cap j HLT.out)) rfl ?_
            try simp only [nmA, nmB, nmC]
            refine wp_y (v := (strV sk)) rfl rfl (y_load rfl (hl := fun w' h => by rw [h]; exact load1 Tryz.isAgg9 (cell_at HBL.out j HCJ.out))) rfl ?_
            try simp only [nmA, nmB, nmC]
            refine wp_y (v := (strV (out ++ sk))) rfl rfl (y_addS (l := out) (m := sk) rfl (by kernel_rfl) (by kernel_rfl) (by kernel_rfl) (by have := HLX.out; simp only [List.length_nil] at this ⊢; omega)) rfl ?_
            try simp only [nmA, nmB, nmC]
            refine wp_y (v := (strV (out ++ sk))) rfl rfl (y_assign rfl) rfl ?_
            try simp only [nmA, nmB, nmC]
            refine wp_end ?_
            go_upto_region 18 with fail
            refine wp_region_lit ?_
            refine wp_y (v := (.int .i64 (((j : Nat) : Int)))) rfl rfl (y_move rfl) rfl ?_
            try simp only [nmA, nmB, nmC]
            refine wp_y (v := (.int .i64 (((j + 1 : Nat) : Int)))) rfl rfl (y_bin (k := .i64) (k' := .i64) (m := ((j : Nat) : Int)) (n := 1) rfl (by kernel_rfl) (by kernel_rfl) (by kernel_rfl) (badd_int ((j : Nat) : Int) 1 ((j + 1 : Nat) : Int) HS1.out)) rfl ?_
            try simp only [nmA, nmB, nmC]
            refine wp_y (v := (.int .i64 (((j + 1 : Nat) : Int)))) rfl rfl (y_assign rfl) rfl ?_
            try simp only [nmA, nmB, nmC]
            refine wp_end ?_
            go_wp2_with fail
            exact ⟨⟨j + 1, _, HLT.out, rfl, rfl, by rw [fwl_next HJ.out, Hhb17.out, HSK.out, HOUT.out]; simp, HB0.out, HBL.out⟩, by have := HLT.out; simp [intOf]; omega⟩
        · have Hhb16 := hid hb16
          clear hb16
          have hlt : j = N := by have := of_decide_eq_false Hhb16.out; have := HJJ.out; omega
          have htk : ps.take j = ps := by rw [hlt, List.take_of_length_le (by rw [HPL.out]; exact Nat.le_refl _)]
          rw [htk] at HOUT
          clear hlt htk
          refine wp_y (v := (.bool false)) rfl rfl (y_bin (k := .i64) (k' := .i64) (m := ((j : Nat) : Int)) (n := ((N : Nat) : Int)) rfl (by kernel_rfl) (by kernel_rfl) (by kernel_rfl) (blss_int ((j : Nat) : Int) ((N : Nat) : Int) false Hhb16.out)) rfl ?_
          try simp only [nmA, nmB, nmC]
          refine wp_end ?_
          go_upto_region 22 with fail
          refine wp_region_lit ?_
          refine wp_y (v := (.bool true)) rfl rfl (y_move rfl) rfl ?_
          try simp only [nmA, nmB, nmC]
          refine wp_y (v := (.bool true)) rfl rfl (y_move rfl) rfl ?_
          try simp only [nmA, nmB, nmC]
          refine wp_yg (v := (strV sx)) rfl (y_move rfl) rfl ?_
          try simp only [nmA, nmB, nmC]
          refine wp_yg (v := (strV out)) rfl (y_move rfl) rfl ?_
          try simp only [nmA, nmB, nmC]
          refine wp_yg (v := (strV (out ++ [41]))) rfl (y_addS (l := out) (m := [41]) rfl (by kernel_rfl) (by kernel_rfl) (by kernel_rfl) (by have := HLW.out; rw [HOUT.out]; simp only [List.length_append, List.length_cons, List.length_nil] at this ⊢; omega)) rfl ?_
          try simp only [nmA, nmB, nmC]
          have HEQ : Hid ((decide (sx = out ++ [41])) = true) := hid (decide_eq_true (by rw [← HSX.out, HOUT.out, ← HPS.out]; exact wr_call))
          refine wp_yg (v := (.bool true)) rfl (y_eqlS (l := sx) (m := out ++ [41]) rfl (by kernel_rfl) (by kernel_rfl) (by kernel_rfl) (HEQ.out)) rfl ?_
          try simp only [nmA, nmB, nmC]
          refine wp_y (v := (.bool true)) rfl rfl (y_pick (b := true) rfl) rfl ?_
          try simp only [nmA, nmB, nmC]
          refine wp_y (v := (.bool true)) rfl rfl (y_assign rfl) rfl ?_
          try simp only [nmA, nmB, nmC]
          refine wp_end ?_
          go_wp2_with fail
          go_ret
          exact ⟨rfl, HB0.out⟩
set_option maxRecDepth 100000 in
set_option maxHeartbeats 1000000 in
seal wpList in
theorem pw_if {tx : List UInt8} {n : Int} {kids : List Tr} {at_ : Int} {w : World} {v : Value} (hok : Tr.Ok (.mk 14 tx n kids at_)) (htb : Tb w.heap.size w) (hnd : Nd w v (.mk 14 tx n kids at_)) (hr : (rt 100 (.mk 14 tx n kids at_) && decide (0 ≤ lft (.mk 14 tx n kids at_) 8192)) = true) : Calls Tryz.prog 6 #[v] w fun e w' => e = .returned (.bool true) ∧ Below w.heap.size w w' := by
  have HOK := hid hok
  have HTB := hid htb
  have HN := hid hnd
  have HN0 := hid hnd
  have HR := hid hr
  have HB0 := hid (Below.refl w.heap.size w)
  obtain ⟨a, c, rfl, -, -⟩ := hnd.open
  clear hok htb hnd hr
  obtain ⟨N, hN⟩ : ∃ N, kids.length = N := ⟨_, rfl⟩
  rw [hN] at HN HN0 ⊢
  have HNN := hid hN
  clear hN
  obtain ⟨sx, hsx⟩ : ∃ sx, fw (wrOf (.mk 14 tx n kids at_)) = sx := ⟨_, rfl⟩
  have HSX := hid hsx
  clear hsx
  have HN8 : Hid (N ≤ 8) := hid (by rw [← HNN.out]; exact call_kids HR.out)
  have HN1 : Hid (0 < N) := hid (by rw [← HNN.out]; exact kids_some HR.out (by decide))
  go_enter Tryz.func6, Tryz.ntmps6
  go_upto_region 0 with fail
  refine wp_region_lit ?_
  obtain ⟨w3, g1, hbx, hbk, hbb⟩ := box_x 24 w #[(.int .i64 14), (strV tx), (.int .i64 n), (.slice a N c), (.int .i64 at_)]
  have K2 := hid hbk
  have HB4 := hid hbb
  have HX := hid hbx
  clear hbx hbk hbb
  refine wp_run (v := (.pointer (some ⟨g1, 0, none⟩))) rfl rfl (run_boxOp rfl (by kernel_rfl) HX.out) rfl ?_
  try simp only [nmA, nmB, nmC]
  clear HX
  replace HTB := hid (HTB.out.below HB4.out)
  replace HN := hid (HN.out.later HB4.out)
  replace HB0 := hid (HB0.out.trans (HB4.out.mono HB0.out.size))
  refine wp_y (v := (.bool false)) rfl rfl (y_assign rfl) rfl ?_
  try simp only [nmA, nmB, nmC]
  refine wp_end ?_
  go_upto_region 1 with fail
  refine wp_region_lit ?_
  refine wp_call (f := 9) (args := #[]) (by kernel_rfl) (fun w => by go_simp) ?_
  have HCA := hid (shown_any (HTB.out.mono HB0.out.size))
  refine HCA.out.mono ?_
  clear HCA
  rintro e w5 ⟨he, hq⟩
  subst he
  refine ⟨_, rfl, ?_⟩
  have HB6 := hid hq
  clear hq
  replace K2 := hid (below_at HB6.out K2.out (heap_lt K2.out))
  replace HTB := hid (HTB.out.below HB6.out)
  replace HN := hid (HN.out.later HB6.out)
  replace HB0 := hid (HB0.out.trans (HB6.out.mono HB0.out.size))
  dsimp only [Act.put]
  try simp only [nmA, nmB, nmC]
  refine wp_y (v := (.bool true)) rfl rfl (y_assign rfl) rfl ?_
  try simp only [nmA, nmB, nmC]
  refine wp_end ?_
  go_upto_region 2 with fail
  refine wp_region_lit ?_
  refine wp_y (v := (nv 14 tx n (.slice a N c) at_)) rfl rfl (y_load rfl (hl := fun w' h => by rw [h]; exact load_blk Tryz.isAgg24 (by kernel_rfl) rfl K2.out)) rfl ?_
  try simp only [nmA, nmB, nmC]
  refine wp_call (f := 10) (args := #[(nv 14 tx n (.slice a N c) at_)]) (by kernel_rfl) (fun w => by go_simp) ?_
  have HCA := hid (sexpr_yes HOK.out (HTB.out.mono HB0.out.size) HN.out HR.out)
  refine HCA.out.mono ?_
  clear HCA
  rintro e w7 ⟨he, hq⟩
  rw [HSX.out] at he
  subst he
  refine ⟨_, rfl, ?_⟩
  have HB8 := hid hq
  clear hq
  replace K2 := hid (below_at HB8.out K2.out (heap_lt K2.out))
  replace HTB := hid (HTB.out.below HB8.out)
  replace HN := hid (HN.out.later HB8.out)
  replace HB0 := hid (HB0.out.trans (HB8.out.mono HB0.out.size))
  dsimp only [Act.put]
  try simp only [nmA, nmB, nmC]
  refine wp_y (v := (.tuple #[(strV sx), (.int .i64 0)])) rfl rfl (y_move rfl) rfl ?_
  try simp only [nmA, nmB, nmC]
  refine wp_y (v := (strV sx)) rfl rfl (y_ext rfl (hr := ext2_0 (strV sx) (.int .i64 0))) rfl ?_
  try simp only [nmA, nmB, nmC]
  refine wp_y (v := (.int .i64 0)) rfl rfl (y_ext rfl (hr := ext2_1 (strV sx) (.int .i64 0))) rfl ?_
  try simp only [nmA, nmB, nmC]
  refine wp_y (v := (strV sx)) rfl rfl (y_assign rfl) rfl ?_
  try simp only [nmA, nmB, nmC]
  refine wp_y (v := (.int .i64 0)) rfl rfl (y_assign rfl) rfl ?_
  try simp only [nmA, nmB, nmC]
  refine wp_end ?_
  go_upto_region 3 with fail
  refine wp_region_lit ?_
  refine wp_y (v := (.int .i64 0)) rfl rfl (y_move rfl) rfl ?_
  try simp only [nmA, nmB, nmC]
  refine wp_y (v := (.bool false)) rfl rfl (y_bin (k := .i64) (k' := .i64) (m := 0) (n := 0) rfl (by kernel_rfl) (by kernel_rfl) (by kernel_rfl) (bneq_api_Errno 0 0 false (by decide))) rfl ?_
  try simp only [nmA, nmB, nmC]
  refine wp_y (v := (.bool false)) rfl rfl (y_move rfl) rfl ?_
  try simp only [nmA, nmB, nmC]
  refine wp_yg (v := (.pointer (some ⟨g1, 0, none⟩))) rfl (y_faddr rfl (hf := fa_api_Node_0 g1 0)) rfl ?_
  try simp only [nmA, nmB, nmC]
  refine wp_yg (v := (.int .i64 14)) rfl (y_load rfl (hl := fun w' h => by rw [h]; exact load1 Tryz.isAgg3 (cell_at K2.out 0 rfl))) rfl ?_
  try simp only [nmA, nmB, nmC]
  refine wp_yg (v := (.bool true)) rfl (y_bin (k := .i64) (k' := .i64) (m := 14) (n := 11) rfl (by kernel_rfl) (by kernel_rfl) (by kernel_rfl) (bneq_int 14 11 true (by decide))) rfl ?_
  try simp only [nmA, nmB, nmC]
  refine wp_yg (v := (.bool true)) rfl (y_move rfl) rfl ?_
  try simp only [nmA, nmB, nmC]
  refine wp_yg (v := (.pointer (some ⟨g1, 0, none⟩))) rfl (y_faddr rfl (hf := fa_api_Node_0 g1 0)) rfl ?_
  try simp only [nmA, nmB, nmC]
  refine wp_yg (v := (.int .i64 14)) rfl (y_load rfl (hl := fun w' h => by rw [h]; exact load1 Tryz.isAgg3 (cell_at K2.out 0 rfl))) rfl ?_
  try simp only [nmA, nmB, nmC]
  refine wp_yg (v := (.bool false)) rfl (y_bin (k := .i64) (k' := .i64) (m := 14) (n := 14) rfl (by kernel_rfl) (by kernel_rfl) (by kernel_rfl) (bneq_int 14 14 false (by decide))) rfl ?_
  try simp only [nmA, nmB, nmC]
  refine wp_yg (v := (.bool false)) rfl (y_pick (b := true) rfl) rfl ?_
  try simp only [nmA, nmB, nmC]
  refine wp_y (v := (.bool false)) rfl rfl (y_pick (b := false) rfl) rfl ?_
  try simp only [nmA, nmB, nmC]
  refine wp_end ?_
  go_upto_region 5 with fail
  refine wp_region_lit ?_
  refine wp_y (v := (.slice none 0 0)) rfl rfl (y_assign rfl) rfl ?_
  try simp only [nmA, nmB, nmC]
  refine wp_end ?_
  go_upto_region 6 with fail
  refine wp_region_lit ?_
  refine wp_y (v := (.int .i64 0)) rfl rfl (y_assign rfl) rfl ?_
  try simp only [nmA, nmB, nmC]
  refine wp_end ?_
  go_wp2_with fail
  go_loopw [7, 6] (fun v7 v6 wr => ∃ j : Nat, j ≤ N ∧ v7 = .int .i64 j ∧ So w.heap.size wr v6 ((wrsOf (kids.take j)).map fw) ∧ Below w.heap.size w wr ∧ Tb w.heap.size wr ∧ wr.heap[g1]? = some (.cells #[.int .i64 14, strV tx, .int .i64 n, .slice a N c, .int .i64 at_] 24 (0, 0))) (fun v7 _ _ => N - (intOf v7).toNat)
  case atStart =>
    exact ⟨0, Nat.zero_le _, rfl, by simpa [wrsOf] using So.nil _ _, HB0.out, HTB.out, K2.out⟩
  case round =>
    obtain ⟨j, hj, rfl, hso, hB, hT, hk⟩ := hrel
    clear HB0 HTB HN
    have HSO := hid hso
    have HB0 := hid hB
    have HTB := hid hT
    have KN := hid hk
    have HJJ := hid hj
    clear hso hB hT hk hj
    go_upto_region 7 with fail
    refine wp_region_lit ?_
    refine wp_y (v := (.int .i64 (((j : Nat) : Int)))) rfl rfl (y_move rfl) rfl ?_
    try simp only [nmA, nmB, nmC]
    refine wp_y (v := (.pointer (some ⟨g1, 3, none⟩))) rfl rfl (y_faddr rfl (hf := fa_api_Node_3 g1 0)) rfl ?_
    try simp only [nmA, nmB, nmC]
    refine wp_y (v := (.slice a N c)) rfl rfl (y_load rfl (hl := fun w' h => by rw [h]; exact load1 Tryz.isAgg22 (cell_at KN.out 3 rfl))) rfl ?_
    try simp only [nmA, nmB, nmC]
    refine wp_y (v := (.int .i64 (((N : Nat) : Int)))) rfl rfl (y_lenT len_Sapi_Node (p := a) (n := N) (c := c) rfl (by kernel_rfl) (by kernel_rfl)) rfl ?_
    try simp only [nmA, nmB, nmC]
    rcases Bool.eq_false_or_eq_true (decide (((j : Nat) : Int) < ((N : Nat) : Int))) with hb9 | hb9
    · have Hhb9 := hid hb9
      clear hb9
      have hlt : j < N := by have := of_decide_eq_true Hhb9.out; omega
      obtain ⟨t, ht⟩ : ∃ t, kids[j]? = some t := ⟨_, List.getElem?_eq_getElem (by rw [HNN.out]; exact hlt)⟩
      obtain ⟨b, o, k', tx', n', ks', at', a', c', rfl, rfl, hcl, hnd⟩ := Nd.kid HN0.out ht
      have HOKK := hid (HOK.out.kid ht)
      have HJ := hid ht
      have HLT := hid hlt
      have HCL := hid (hcl.below HB0.out)
      have HNK := hid (hnd.later HB0.out)
      have HS1 := hid (wrap_next (N := N) hlt (by have := HN8.out; omega))
      clear hlt ht hcl hnd
      obtain ⟨N', hN'⟩ : ∃ x, ks'.length = x := ⟨_, rfl⟩
      rw [hN'] at HCL HNK
      clear hN'
      obtain ⟨sk, hsk⟩ : ∃ x, fw (wrOf (.mk k' tx' n' ks' at')) = x := ⟨_, rfl⟩
      have HSK := hid hsk
      clear hsk
      refine wp_y (v := (.bool true)) rfl rfl (y_bin (k := .i64) (k' := .i64) (m := ((j : Nat) : Int)) (n := ((N : Nat) : Int)) rfl (by kernel_rfl) (by kernel_rfl) (by kernel_rfl) (blss_int ((j : Nat) : Int) ((N : Nat) : Int) true Hhb9.out)) rfl ?_
      try simp only [nmA, nmB, nmC]
      refine wp_end ?_
      go_upto_region 9 with fail
      refine wp_region_lit ?_
      refine wp_y (v := (.pointer (some ⟨g1, 3, none⟩))) rfl rfl (y_faddr rfl (hf := fa_api_Node_3 g1 0)) rfl ?_
      try simp only [nmA, nmB, nmC]
      refine wp_y (v := (.slice (some ⟨b, o, none⟩) N c)) rfl rfl (y_load rfl (hl := fun w' h => by rw [h]; exact load1 Tryz.isAgg22 (cell_at KN.out 3 rfl))) rfl ?_
      try simp only [nmA, nmB, nmC]
      refine wp_y (v := (.int .i64 (((j : Nat) : Int)))) rfl rfl (y_move rfl) rfl ?_
      try simp only [nmA, nmB, nmC]
      refine wp_y (v := (.pointer (some ⟨b, o + j * 5, none⟩))) rfl rfl (y_index (p := (.slice (some ⟨b, o, none⟩) N c)) (k := (.int .i64 (((j : Nat) : Int)))) rfl (by kernel_rfl) (by kernel_rfl) (by kernel_rfl) (idx24 b o N c j HLT.out)) rfl ?_
      try simp only [nmA, nmB, nmC]
      refine wp_y (v := (nv k' tx' n' (.slice a' N' c') at')) rfl rfl (y_load rfl (hl := fun w' h => by rw [h]; exact load24 HCL.out)) rfl ?_
      try simp only [nmA, nmB, nmC]
      refine wp_call (f := 10) (args := #[(nv k' tx' n' (.slice a' N' c') at')]) (by kernel_rfl) (fun w => by go_simp) ?_
      have HCA := hid (sexpr_yes HOKK.out (HTB.out.mono HB0.out.size) HNK.out (right_kid HR.out HJ.out))
      refine HCA.out.mono ?_
      clear HCA
      rintro e w10 ⟨he, hq⟩
      rw [HSK.out] at he
      subst he
      refine ⟨_, rfl, ?_⟩
      have HB11 := hid hq
      clear hq
      replace KN := hid (below_at HB11.out KN.out (heap_lt KN.out))
      replace HTB := hid (HTB.out.below HB11.out)
      replace HSO := hid (So.below HSO.out HB11.out)
      replace HNK := hid (HNK.out.later HB11.out)
      replace HCL := hid (Cl.below HCL.out HB11.out)
      replace HB0 := hid (HB0.out.trans (HB11.out.mono HB0.out.size))
      dsimp only [Act.put]
      try simp only [nmA, nmB, nmC]
      refine wp_y (v := (.tuple #[(strV sk), (.int .i64 0)])) rfl rfl (y_move rfl) rfl ?_
      try simp only [nmA, nmB, nmC]
      refine wp_y (v := (strV sk)) rfl rfl (y_ext rfl (hr := ext2_0 (strV sk) (.int .i64 0))) rfl ?_
      try simp only [nmA, nmB, nmC]
      refine wp_y (v := (.int .i64 0)) rfl rfl (y_ext rfl (hr := ext2_1 (strV sk) (.int .i64 0))) rfl ?_
      try simp only [nmA, nmB, nmC]
      refine wp_y (v := (strV sk)) rfl rfl (y_assign rfl) rfl ?_
      try simp only [nmA, nmB, nmC]
      refine wp_y (v := (.int .i64 0)) rfl rfl (y_assign rfl) rfl ?_
      try simp only [nmA, nmB, nmC]
      refine wp_end ?_
      go_upto_region 10 with fail
      refine wp_region_lit ?_
      refine wp_y (v := (.int .i64 0)) rfl rfl (y_move rfl) rfl ?_
      try simp only [nmA, nmB, nmC]
      refine wp_y (v := (.bool false)) rfl rfl (y_bin (k := .i64) (k' := .i64) (m := 0) (n := 0) rfl (by kernel_rfl) (by kernel_rfl) (by kernel_rfl) (bneq_api_Errno 0 0 false (by decide))) rfl ?_
      try simp only [nmA, nmB, nmC]
      refine wp_end ?_
      go_upto_region 12 with fail
      refine wp_region_lit ?_
      refine wp_y (v := u6) rfl rfl (y_move rfl) rfl ?_
      try simp only [nmA, nmB, nmC]
      refine wp_y (v := (strV sk)) rfl rfl (y_move rfl) rfl ?_
      try simp only [nmA, nmB, nmC]
      obtain ⟨w14, g12, hbx, hbk, hbb⟩ := bs_Sstring_1 w10 (strV sk) rfl
      have K13 := hid hbk
      have HB15 := hid hbb
      have HX := hid hbx
      clear hbx hbk hbb
      refine wp_run (v := (.slice (some ⟨g12, 0, none⟩) 1 1)) rfl rfl (run_bsOp rfl (by kernel_rfl) HX.out) rfl ?_
      try simp only [nmA, nmB, nmC]
      clear HX
      replace KN := hid (below_at HB15.out KN.out (heap_lt KN.out))
      replace HTB := hid (HTB.out.below HB15.out)
      replace HSO := hid (So.below HSO.out HB15.out)
      replace HNK := hid (HNK.out.later HB15.out)
      replace HCL := hid (Cl.below HCL.out HB15.out)
      replace HB0 := hid (HB0.out.trans (HB15.out.mono HB0.out.size))
      obtain ⟨v9, w9, ha1, ha2, ha3⟩ := So.app HSO.out (by rw [List.length_map, wrsOf_len]; have h9 := HN8.out; have h8 : (kids.take j).length ≤ kids.length := List.length_take ▸ Nat.min_le_right _ _; rw [HNN.out] at h8; omega) HB0.out.size K13.out
      have HAP := hid ha1
      have HW9 := hid ha2
      have HF9 := hid ha3
      clear ha1 ha2 ha3
      refine wp_run (v := v9) rfl rfl (run_appOp rfl (by kernel_rfl) (by kernel_rfl) (HAP.out _)) rfl ?_
      try simp only [nmA, nmB, nmC]
      have HB9 : Hid (Below w.heap.size w14 w9) := hid (HF9.out.below HB0.out.size (fun x hx => by obtain ⟨c9, h9, h8⟩ := So.own_lt HSO.out (by simpa using hx); exact h8))
      replace KN := hid (Fr.at HF9.out KN.out (so_not HSO.out KN.out (by decide)))
      replace HTB := hid (HTB.out.on HB9.out)
      replace HB0 := hid (HB0.out.trans HB9.out)
      replace HSO := hid HW9.out
      clear HW9 HF9 HAP HB9 HNK HCL
      refine wp_y (v := v9) rfl rfl (y_assign rfl) rfl ?_
      try simp only [nmA, nmB, nmC]
      refine wp_end ?_
      go_upto_region 8 with fail
      refine wp_region_lit ?_
      refine wp_y (v := (.int .i64 (((j : Nat) : Int)))) rfl rfl (y_move rfl) rfl ?_
      try simp only [nmA, nmB, nmC]
      refine wp_y (v := (.int .i64 (((j + 1 : Nat) : Int)))) rfl rfl (y_bin (k := .i64) (k' := .i64) (m := ((j : Nat) : Int)) (n := 1) rfl (by kernel_rfl) (by kernel_rfl) (by kernel_rfl) (badd_int ((j : Nat) : Int) 1 ((j + 1 : Nat) : Int) HS1.out)) rfl ?_
      try simp only [nmA, nmB, nmC]
      refine wp_y (v := (.int .i64 (((j + 1 : Nat) : Int)))) rfl rfl (y_assign rfl) rfl ?_
      try simp only [nmA, nmB, nmC]
      refine wp_end ?_
      go_wp2_with fail
      exact ⟨⟨j + 1, HLT.out, rfl, by rw [fws_ls HJ.out, HSK.out]; exact HSO.out, HB0.out, HTB.out, KN.out⟩, by have := HLT.out; simp [intOf]; omega⟩
    · have Hhb9 := hid hb9
      clear hb9
      have hlt : j = N := by have := of_decide_eq_false Hhb9.out; have := HJJ.out; omega
      have htk : kids.take j = kids := by rw [hlt, List.take_of_length_le (by rw [HNN.out]; exact Nat.le_refl _)]
      rw [htk] at HSO
      clear hlt htk
      obtain ⟨ps, hps⟩ : ∃ ps, wrsOf kids = ps := ⟨_, rfl⟩
      rw [hps] at HSO
      have HPS := hid hps
      have HPL : Hid (ps.length = N) := hid (by rw [← hps, wrsOf_len]; exact HNN.out)
      clear hps
      obtain ⟨gl, cap, cur, rfl, hbl, hcr⟩ := So.blk HSO.out (by rw [List.length_map, HPL.out]; exact HN1.out)
      rw [List.length_map, HPL.out]
      have HBL := hid hbl
      have HCR := hid hcr
      clear hbl hcr HSO HJJ
      obtain ⟨t0, t1, t2, hk3⟩ := if_kids HR.out
      have HN3 : Hid (N = 3) := hid (by rw [← HNN.out, hk3]; rfl)
      have HK3 := hid hk3
      clear hk3
      have HC0 : Hid (cur[0]? = some (strV (fw (wrOf t0)))) := hid (HCR.out 0 _ (ls_at (by rw [← HPS.out, HK3.out, wrsOf_map]; rfl)))
      have HC1 : Hid (cur[1]? = some (strV (fw (wrOf t1)))) := hid (HCR.out 1 _ (ls_at (by rw [← HPS.out, HK3.out, wrsOf_map]; rfl)))
      have HC2 : Hid (cur[2]? = some (strV (fw (wrOf t2)))) := hid (HCR.out 2 _ (ls_at (by rw [← HPS.out, HK3.out, wrsOf_map]; rfl)))
      have HLW : Hid (([105, 102, 32] ++ fw (wrOf t0) ++ [32, 116, 104, 101, 110, 32] ++ fw (wrOf t1) ++ [32, 101, 108, 115, 101, 32] ++ fw (wrOf t2)).length ≤ 140737488355328) := hid (by have h := fw_len HR.out; rw [HK3.out, wr_if] at h; exact h)
      refine wp_y (v := (.bool false)) rfl rfl (y_bin (k := .i64) (k' := .i64) (m := ((j : Nat) : Int)) (n := ((N : Nat) : Int)) rfl (by kernel_rfl) (by kernel_rfl) (by kernel_rfl) (blss_int ((j : Nat) : Int) ((N : Nat) : Int) false Hhb9.out)) rfl ?_
      try simp only [nmA, nmB, nmC]
      refine wp_end ?_
      go_upto_region 13 with fail
      refine wp_region_lit ?_
      refine wp_y (v := (.pointer (some ⟨g1, 0, none⟩))) rfl rfl (y_faddr rfl (hf := fa_api_Node_0 g1 0)) rfl ?_
      try simp only [nmA, nmB, nmC]
      refine wp_y (v := (.int .i64 14)) rfl rfl (y_load rfl (hl := fun w' h => by rw [h]; exact load1 Tryz.isAgg3 (cell_at KN.out 0 rfl))) rfl ?_
      try simp only [nmA, nmB, nmC]
      refine wp_y (v := (.bool true)) rfl rfl (y_bin (k := .i64) (k' := .i64) (m := 14) (n := 14) rfl (by kernel_rfl) (by kernel_rfl) (by kernel_rfl) (beql_int 14 14 true (by decide))) rfl ?_
      try simp only [nmA, nmB, nmC]
      refine wp_end ?_
      go_upto_region 14 with fail
      obtain ⟨w16, hwd⟩ : ∃ x, x = wr.drew := ⟨_, rfl⟩
      have HB17 : Hid (Below wr.heap.size wr w16) := hid (by rw [hwd]; exact ⟨rfl, rfl, rfl, Nat.le_refl _, fun _ _ => rfl⟩)
      refine h_openL (S := fun x => Below w16.heap.size w16 x) (by kernel_rfl) (by kernel_rfl) (fun _ _ _ _ _ h => h) (L := #[false, false, false, false, false, false, false, false, false, false, false, false, false, false, false, false, false, false, false, false]) (by kernel_rfl) ?_
      intro Q' hns hP hN
      rw [← hwd]
      clear hwd
      replace KN := hid (below_at HB17.out KN.out (heap_lt KN.out))
      replace HTB := hid (HTB.out.below HB17.out)
      replace HBL := hid (below_at HB17.out HBL.out (heap_lt HBL.out))
      replace HB0 := hid (HB0.out.trans (HB17.out.mono HB0.out.size))
      have hS : Below w16.heap.size w16 w16 := Below.refl _ _
      refine h_takeL (i := 0) (v := (.bool true)) hns rfl rfl (by kernel_rfl) (by kernel_rfl) hP (y_move rfl) hS rfl (L' := #[true, false, false, false, false, false, false, false, false, false, false, false, false, false, false, false, false, false, false, false]) (by kernel_rfl) ?_
      try simp only [nmA, nmB, nmC]
      refine h_takeL (i := 1) (v := (.bool true)) hns rfl rfl (by kernel_rfl) (by kernel_rfl) hP (y_move rfl) hS rfl (L' := #[true, true, false, false, false, false, false, false, false, false, false, false, false, false, false, false, false, false, false, false]) (by kernel_rfl) ?_
      try simp only [nmA, nmB, nmC]
      refine h_takeL (i := 2) (v := (strV sx)) hns rfl rfl (by kernel_rfl) (by kernel_rfl) hP (y_move rfl) hS rfl (L' := #[true, true, true, false, false, false, false, false, false, false, false, false, false, false, false, false, false, false, false, false]) (by kernel_rfl) ?_
      try simp only [nmA, nmB, nmC]
      refine h_takeL (i := 3) (v := (.slice (some ⟨gl, 0, none⟩) N cap)) hns rfl rfl (by kernel_rfl) (by kernel_rfl) hP (y_move rfl) hS rfl (L' := #[true, true, true, true, false, false, false, false, false, false, false, false, false, false, false, false, false, false, false, false]) (by kernel_rfl) ?_
      try simp only [nmA, nmB, nmC]
      refine h_takeL (i := 4) (v := (.pointer (some ⟨gl, 0, none⟩))) hns rfl rfl (by kernel_rfl) (by kernel_rfl) hP (y_index (p := (.slice (some ⟨gl, 0, none⟩) N cap)) (k := (.int .i64 0)) rfl (by kernel_rfl) (by kernel_rfl) (by kernel_rfl) (idxS gl N cap 0 (by have := HN3.out; omega))) hS rfl (L' := #[true, true, true, true, true, false, false, false, false, false, false, false, false, false, false, false, false, false, false, false]) (by kernel_rfl) ?_
      try simp only [nmA, nmB, nmC]
      refine h_takeL (i := 5) (v := (strV (fw (wrOf t0)))) hns rfl rfl (by kernel_rfl) (by kernel_rfl) hP (y_load rfl (hl := fun w' h => load1 Tryz.isAgg9 (cell_at (below_at h HBL.out (heap_lt HBL.out)) 0 HC0.out))) hS rfl (L' := #[true, true, true, true, true, true, false, false, false, false, false, false, false, false, false, false, false, false, false, false]) (by kernel_rfl) ?_
      try simp only [nmA, nmB, nmC]
      refine h_takeL (i := 6) (v := (strV ([105, 102, 32] ++ fw (wrOf t0)))) hns rfl rfl (by kernel_rfl) (by kernel_rfl) hP (y_addS (l := [105, 102, 32]) (m := fw (wrOf t0)) rfl (by kernel_rfl) (by kernel_rfl) (by kernel_rfl) (by have := HLW.out; simp only [List.length_append, List.length_cons, List.length_nil] at this ⊢; omega)) hS rfl (L' := #[true, true, true, true, true, true, true, false, false, false, false, false, false, false, false, false, false, false, false, false]) (by kernel_rfl) ?_
      try simp only [nmA, nmB, nmC]
      refine h_takeL (i := 7) (v := (strV ([105, 102, 32] ++ fw (wrOf t0) ++ [32, 116, 104, 101, 110, 32]))) hns rfl rfl (by kernel_rfl) (by kernel_rfl) hP (y_addS (l := [105, 102, 32] ++ fw (wrOf t0)) (m := [32, 116, 104, 101, 110, 32]) rfl (by kernel_rfl) (by kernel_rfl) (by kernel_rfl) (by have := HLW.out; simp only [List.length_append, List.length_cons, List.length_nil] at this ⊢; omega)) hS rfl (L' := #[true, true, true, true, true, true, true, true, false, false, false, false, false, false, false, false, false, false, false, false]) (by kernel_rfl) ?_
      try simp only [nmA, nmB, nmC]
      refine h_takeL (i := 8) (v := (.slice (some ⟨gl, 0, none⟩) N cap)) hns rfl rfl (by kernel_rfl) (by kernel_rfl) hP (y_move rfl) hS rfl (L' := #[true, true, true, true, true, true, true, true, true, false, false, false, false, false, false, false, false, false, false, false]) (by kernel_rfl) ?_
      try simp only [nmA, nmB, nmC]
      refine h_takeL (i := 9) (v := (.pointer (some ⟨gl, 1, none⟩))) hns rfl rfl (by kernel_rfl) (by kernel_rfl) hP (y_index (p := (.slice (some ⟨gl, 0, none⟩) N cap)) (k := (.int .i64 1)) rfl (by kernel_rfl) (by kernel_rfl) (by kernel_rfl) (idxS gl N cap 1 (by have := HN3.out; omega))) hS rfl (L' := #[true, true, true, true, true, true, true, true, true, true, false, false, false, false, false, false, false, false, false, false]) (by kernel_rfl) ?_
      try simp only [nmA, nmB, nmC]
      refine h_takeL (i := 10) (v := (strV (fw (wrOf t1)))) hns rfl rfl (by kernel_rfl) (by kernel_rfl) hP (y_load rfl (hl := fun w' h => load1 Tryz.isAgg9 (cell_at (below_at h HBL.out (heap_lt HBL.out)) 1 HC1.out))) hS rfl (L' := #[true, true, true, true, true, true, true, true, true, true, true, false, false, false, false, false, false, false, false, false]) (by kernel_rfl) ?_
      try simp only [nmA, nmB, nmC]
      refine h_takeL (i := 11) (v := (strV ([105, 102, 32] ++ fw (wrOf t0) ++ [32, 116, 104, 101, 110, 32] ++ fw (wrOf t1)))) hns rfl rfl (by kernel_rfl) (by kernel_rfl) hP (y_addS (l := [105, 102, 32] ++ fw (wrOf t0) ++ [32, 116, 104, 101, 110, 32]) (m := fw (wrOf t1)) rfl (by kernel_rfl) (by kernel_rfl) (by kernel_rfl) (by have := HLW.out; simp only [List.length_append, List.length_cons, List.length_nil] at this ⊢; omega)) hS rfl (L' := #[true, true, true, true, true, true, true, true, true, true, true, true, false, false, false, false, false, false, false, false]) (by kernel_rfl) ?_
      try simp only [nmA, nmB, nmC]
      refine h_takeL (i := 12) (v := (strV ([105, 102, 32] ++ fw (wrOf t0) ++ [32, 116, 104, 101, 110, 32] ++ fw (wrOf t1) ++ [32, 101, 108, 115, 101, 32]))) hns rfl rfl (by kernel_rfl) (by kernel_rfl) hP (y_addS (l := [105, 102, 32] ++ fw (wrOf t0) ++ [32, 116, 104, 101, 110, 32] ++ fw (wrOf t1)) (m := [32, 101, 108, 115, 101, 32]) rfl (by kernel_rfl) (by kernel_rfl) (by kernel_rfl) (by have := HLW.out; simp only [List.length_append, List.length_cons, List.length_nil] at this ⊢; omega)) hS rfl (L' := #[true, true, true, true, true, true, true, true, true, true, true, true, true, false, false, false, false, false, false, false]) (by kernel_rfl) ?_
      try simp only [nmA, nmB, nmC]
      refine h_takeL (i := 13) (v := (.slice (some ⟨gl, 0, none⟩) N cap)) hns rfl rfl (by kernel_rfl) (by kernel_rfl) hP (y_move rfl) hS rfl (L' := #[true, true, true, true, true, true, true, true, true, true, true, true, true, true, false, false, false, false, false, false]) (by kernel_rfl) ?_
      try simp only [nmA, nmB, nmC]
      refine h_takeL (i := 14) (v := (.pointer (some ⟨gl, 2, none⟩))) hns rfl rfl (by kernel_rfl) (by kernel_rfl) hP (y_index (p := (.slice (some ⟨gl, 0, none⟩) N cap)) (k := (.int .i64 2)) rfl (by kernel_rfl) (by kernel_rfl) (by kernel_rfl) (idxS gl N cap 2 (by have := HN3.out; omega))) hS rfl (L' := #[true, true, true, true, true, true, true, true, true, true, true, true, true, true, true, false, false, false, false, false]) (by kernel_rfl) ?_
      try simp only [nmA, nmB, nmC]
      refine h_takeL (i := 15) (v := (strV (fw (wrOf t2)))) hns rfl rfl (by kernel_rfl) (by kernel_rfl) hP (y_load rfl (hl := fun w' h => load1 Tryz.isAgg9 (cell_at (below_at h HBL.out (heap_lt HBL.out)) 2 HC2.out))) hS rfl (L' := #[true, true, true, true, true, true, true, true, true, true, true, true, true, true, true, true, false, false, false, false]) (by kernel_rfl) ?_
      try simp only [nmA, nmB, nmC]
      refine h_takeL (i := 16) (v := (strV ([105, 102, 32] ++ fw (wrOf t0) ++ [32, 116, 104, 101, 110, 32] ++ fw (wrOf t1) ++ [32, 101, 108, 115, 101, 32] ++ fw (wrOf t2)))) hns rfl rfl (by kernel_rfl) (by kernel_rfl) hP (y_addS (l := [105, 102, 32] ++ fw (wrOf t0) ++ [32, 116, 104, 101, 110, 32] ++ fw (wrOf t1) ++ [32, 101, 108, 115, 101, 32]) (m := fw (wrOf t2)) rfl (by kernel_rfl) (by kernel_rfl) (by kernel_rfl) (by have := HLW.out; simp only [List.length_append, List.length_cons, List.length_nil] at this ⊢; omega)) hS rfl (L' := #[true, true, true, true, true, true, true, true, true, true, true, true, true, true, true, true, true, false, false, false]) (by kernel_rfl) ?_
      try simp only [nmA, nmB, nmC]
      have HEQ : Hid ((decide (sx = [105, 102, 32] ++ fw (wrOf t0) ++ [32, 116, 104, 101, 110, 32] ++ fw (wrOf t1) ++ [32, 101, 108, 115, 101, 32] ++ fw (wrOf t2))) = true) := hid (decide_eq_true (by rw [← HSX.out, HK3.out]; exact wr_if))
      refine h_takeL (i := 17) (v := (.bool true)) hns rfl rfl (by kernel_rfl) (by kernel_rfl) hP (y_eqlS (l := sx) (m := [105, 102, 32] ++ fw (wrOf t0) ++ [32, 116, 104, 101, 110, 32] ++ fw (wrOf t1) ++ [32, 101, 108, 115, 101, 32] ++ fw (wrOf t2)) rfl (by kernel_rfl) (by kernel_rfl) (by kernel_rfl) (HEQ.out)) hS rfl (L' := #[true, true, true, true, true, true, true, true, true, true, true, true, true, true, true, true, true, true, false, false]) (by kernel_rfl) ?_
      try simp only [nmA, nmB, nmC]
      refine h_takeL (i := 18) (v := (.bool true)) hns rfl rfl (by kernel_rfl) (by kernel_rfl) hP (y_pick (b := true) rfl) hS rfl (L' := #[true, true, true, true, true, true, true, true, true, true, true, true, true, true, true, true, true, true, true, false]) (by kernel_rfl) ?_
      try simp only [nmA, nmB, nmC]
      refine h_takeL (i := 19) (v := (.bool true)) hns rfl rfl (by kernel_rfl) (by kernel_rfl) hP (y_assign rfl) hS rfl (L' := #[true, true, true, true, true, true, true, true, true, true, true, true, true, true, true, true, true, true, true, true]) (by kernel_rfl) ?_
      try simp only [nmA, nmB, nmC]
      refine wpAnyH_done (by kernel_rfl) ?_ _
      refine hN _ _ ?_
      clear hP hN hns hS
      go_wp2_with fail
      go_ret
      exact ⟨rfl, HB0.out⟩
theorem showParts_any {t : Tr} {w : World} {v : Value} (hok : t.Ok) (htb : Tb w.heap.size w) (hnd : Nd w v t) : Calls Tryz.prog 6 #[v] w fun e w' => e = .returned (.bool true) ∧ Below w.heap.size w w' := by
  obtain ⟨k, tx, n, kids, at_⟩ := t
  rcases Bool.eq_false_or_eq_true (rt 100 (.mk k tx n kids at_) && decide (0 ≤ lft (.mk k tx n kids at_) 8192)) with hr | hr
  · by_cases h1 : k = 11
    · subst h1; exact pw_call hok htb hnd hr
    · by_cases h2 : k = 14
      · subst h2; exact pw_if hok htb hnd hr
      · exact pw_else hok htb hnd hr h1 h2
  · exact pw_no hok htb hnd hr
end Go.Proofs.YtmdpccjhjhkpgaaGreatDoor
