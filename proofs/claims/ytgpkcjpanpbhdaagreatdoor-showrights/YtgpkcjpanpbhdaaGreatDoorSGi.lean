/- texts put together: SRead9 -/
import Derived.Test.YtgpkcjpanpbhdaaGreatDoorSGh
set_option maxRecDepth 100000
set_option maxHeartbeats 4000000
namespace Go.Proofs.YtgpkcjpanpbhdaaGreatDoor
open Go Go.RowKit
theorem ret_three {f : Func} {R : Ending → World → Prop} {a : Act} {w : World} {p q r : Tmp} {ty : TypeId} {b : Nat} {v : Value} (hf : f.results = #[.cell p ty, .tmp q, .tmp r]) (hd : a.defers = []) (hp : a.tmps.getD p undef = .pointer (some ⟨b, 0, none⟩))
  (hl : (Instr.loadAt ty (.pointer (some ⟨b, 0, none⟩))).run Tryz.prog w = .ok v w) (hR : R (.returned (.tuple #[v, a.tmps.getD q undef, a.tmps.getD r undef])) w) : bodyPost Tryz.prog f R .ret a w := by
 refine bodyPost_ret ?_ hd hR
 have hl' : (loadVar ty ⟨b, 0, none⟩).run Tryz.prog w = .ok v w := by
  simpa [Instr.loadAt, Instr.sureAddr, Sem.run_bind, Sem.run_pure, Result.andThen] using hl
 have hp' : a.tmps[p]?.getD undef = .pointer (some ⟨b, 0, none⟩) := by simpa using hp
 simp only [results, hf]
 simp [hp', asAddr, hl', Result.andThen]
theorem alh_usanceref07_Token (w : World) : ∃ w1 g, (Instr.alloc 75 true (.tuple #[])).run Tryz.prog w = .ok (.pointer (some ⟨g, 0, none⟩)) w1 ∧ w1.heap[g]? = some (.cells #[(.int .i64 0), (strV []), (.int .i64 0), (.int .i64 0)] 75 (0, 0)) ∧ Below w.heap.size w w1 ∧ w.heap.size ≤ g :=
 ⟨w.alloc (.cells #[(.int .i64 0), (strV []), (.int .i64 0), (.int .i64 0)] 75), w.heap.size, by unfold strV; go_simp, heap_alloc_last w _, (Below.refl _ _).alloc (Nat.le_refl _) _, Nat.le_refl _⟩
theorem bsg_Sstring_13 (w : World) (s0 : List UInt8) (s1 : List UInt8) (s2 : List UInt8) (s3 : List UInt8) (s4 : List UInt8) (s5 : List UInt8) (s6 : List UInt8) (s7 : List UInt8) (s8 : List UInt8) (s9 : List UInt8) (s10 : List UInt8) (s11 : List UInt8) (s12 : List UInt8) : ∃ w1 g, (Instr.buildSlice 70 13 #[(0, (strV s0)), (1, (strV s1)), (2, (strV s2)), (3, (strV s3)), (4, (strV s4)), (5, (strV s5)), (6, (strV s6)), (7, (strV s7)), (8, (strV s8)), (9, (strV s9)), (10, (strV s10)), (11, (strV s11)), (12, (strV s12))]).run Tryz.prog w = .ok (.slice (some ⟨g, 0, none⟩) 13 13) w1 ∧ w1.heap[g]? = some (.cells #[strV s0, strV s1, strV s2, strV s3, strV s4, strV s5, strV s6, strV s7, strV s8, strV s9, strV s10, strV s11, strV s12] 9 (0, 0)) ∧ Below w.heap.size w w1 ∧ w.heap.size ≤ g :=
 ⟨w.alloc (.cells #[strV s0, strV s1, strV s2, strV s3, strV s4, strV s5, strV s6, strV s7, strV s8, strV s9, strV s10, strV s11, strV s12] 9), w.heap.size, by unfold strV; go_simp, heap_alloc_last w _, (Below.refl _ _).alloc (Nat.le_refl _) _, Nat.le_refl _⟩
theorem bu_usanceref07_Token_0_1_3 (w : World) (z0 : Int) (s1 : List UInt8) (z2 : Int) : (Instr.build 75 #[(0, (.int .i64 z0)), (1, (strV s1)), (3, (.int .i64 z2))]).run Tryz.prog w = .ok (.agg #[(.int .i64 z0), (strV s1), (.int .i64 0), (.int .i64 z2)]) w := by
 unfold strV
 go_simp
theorem bu_usanceref07_Token_3 (w : World) (z0 : Int) : (Instr.build 75 #[(3, (.int .i64 z0))]).run Tryz.prog w = .ok (.agg #[(.int .i64 0), (strV []), (.int .i64 0), (.int .i64 z0)]) w := by
 unfold strV
 go_simp
seal wpList in
theorem words_any (w : World) : Calls Tryz.prog 82 #[] w fun e w' => ∃ g, e = .returned (.slice (some ⟨g, 0, none⟩) 13 13) ∧ w'.heap[g]? = some (.cells #[strV [109, 111, 100, 117, 108, 101], strV [105, 109, 112, 111, 114, 116], strV [108, 101, 116], strV [105, 102], strV [116, 104, 101, 110], strV [101, 108, 115, 101], strV [97, 110, 100], strV [111, 114], strV [110, 111, 116], strV [116, 114, 117, 101], strV [102, 97, 108, 115, 101], strV [102, 101, 101, 100], strV [112, 105, 99, 107]] 9 (0, 0)) ∧ Below w.heap.size w w' ∧ w.heap.size ≤ g := by
 have HB0 := hid (Below.refl w.heap.size w)
 go_enter Tryz.func82, Tryz.ntmps82
 go_upto_region 0 with fail
 refine rl ?_
 refine qv (.slice none 0 0) ?_
 try simp only [List.setIfInBounds_toArray, List.set_cons_zero]
 refine we ?_
 go_upto_region 1 with fail
 refine rl ?_
 obtain ⟨w3, g1, (HX : Hid _), (K2 : Hid _), (HB4 : Hid _), (GV : Hid _)⟩ := bsg_Sstring_13 w [109, 111, 100, 117, 108, 101] [105, 109, 112, 111, 114, 116] [108, 101, 116] [105, 102] [116, 104, 101, 110] [101, 108, 115, 101] [97, 110, 100] [111, 114] [110, 111, 116] [116, 114, 117, 101] [102, 97, 108, 115, 101] [102, 101, 101, 100] [112, 105, 99, 107]
 have GE_g1 := kh HB0 GV
 refine wp_run (v := (.slice (some ⟨g1, 0, none⟩) 13 13)) rfl rfl (run_bsOp rfl (by kernel_rfl) HX.out) rfl ?_
 try simp only [nA, nB, nC]
 replace HB0 := kb HB0 HB4
 refine qv (.slice (some ⟨g1, 0, none⟩) 13 13) ?_
 try simp only [List.setIfInBounds_toArray, List.set_cons_zero]
 refine we ?_
 go_wp2_with fail
 go_ret
 exact ⟨g1, rfl, K2.out, HB0.out, GE_g1.out⟩
theorem idxS0 (b n cap k : Nat) (h : k < n) (w : World) : (Instr.indexAt 70 (.slice (some ⟨b, 0, none⟩) n cap) (.int .i64 k)).run Tryz.prog w = .ok (.pointer (some ⟨b, k, none⟩)) w := by
 have := idx70 b 0 n cap k h w
 rw [Nat.zero_add] at this
 exact this
seal wpList in
theorem isWord_any (l : List UInt8) (w : World) : Calls Tryz.prog 53 #[strV l] w fun e w' => e = .returned (.bool (decide (l ∈ kws))) ∧ Below w.heap.size w w' := by
 have HB0 := hid (Below.refl w.heap.size w)
 go_enter Tryz.func53, Tryz.ntmps53
 go_upto_region 0 with fail
 refine rl ?_
 refine qv (.bool false) ?_
 simp only [nA, nB, nC]
 refine we ?_
 go_upto_region 1 with fail
 refine rl ?_
 refine qc #[] ?_
 have HCA := hid (words_any w)
 refine HCA.out.mono ?_
 rintro e w1 ⟨g0, he, hk, hb, hge⟩
 ·subst he
  refine ⟨_, rfl, ?_⟩
  have HKW : Hid (w1.heap[g0]? = some (.cells (kws.map strV).toArray 9 (0, 0))) := hid hk
  have HBS := hid hb
  clear hk hb hge
  replace HB0 := kb HB0 HBS
  clear HBS
  try simp only [Act.put, nA, nB, nC]
  refine qv (.slice (some ⟨g0, 0, none⟩) 13 13) ?_
  simp only [nA, nB, nC]
  refine we ?_
  go_upto_region 2 with fail
  refine rl ?_
  refine qv (.int .i64 0) ?_
  simp only [nA, nB, nC]
  refine we ?_
  go_wp2_with fail
  go_loopw [4] (fun v4 wr => ∃ j : Nat, v4 = .int .i64 j ∧ l ∉ kws.take j ∧ Below w.heap.size w wr ∧ wr.heap[g0]? = some (.cells (kws.map strV).toArray 9 (0, 0))) (fun v4 _ => 13 - (intOf v4).toNat)
  case atStart =>
   exact ⟨0, rfl, by simp, HB0.out, HKW.out⟩
  case round =>
   obtain ⟨j, rfl, hni, hB, hk⟩ := hrel
   clear HB0 HKW
   have HNI := hid hni
   have HB0 := hid hB
   have HKW := hid hk
   clear hni hB hk
   go_upto_region 3 with fail
   refine rl ?_
   refine qv (.int .i64 (((j : Nat) : Int))) ?_
   refine qv (.slice (some ⟨g0, 0, none⟩) 13 13) ?_
   simp only [nA, nB, nC]
   refine wp_y (v := (.int .i64 13)) rfl rfl (y_lenT len_Sstring (p := (some ⟨g0, 0, none⟩)) (n := 13) (c := 13) rfl (by kernel_rfl) (by kernel_rfl)) rfl ?_
   simp only [nA, nB, nC]
   rcases bt (decide (((j : Nat) : Int) < (13 : Int))) with Hhb2 | Hhb2
   ·have hlt : j < 13 := by have := of_decide_eq_true Hhb2.out; omega
    obtain ⟨x, hx⟩ : ∃ x, kws[j]? = some x := ⟨_, List.getElem?_eq_getElem (show j < kws.length from hlt)⟩
    have HX := hid hx
    have HLT := hid hlt
    have HCJ : Hid ((kws.map strV).toArray[j]? = some (strV x)) := hid (by rw [List.getElem?_toArray, List.getElem?_map, hx]; rfl)
    have HS1 := hid (wrap_next (N := 13) hlt (by decide))
    clear hx hlt
    refine qb (blss_int ((j : Nat) : Int) 13 true Hhb2.out) ?_
    simp only [nA, nB, nC]
    refine we ?_
    go_upto_region 5 with fail
    refine rl ?_
    refine qv (.slice (some ⟨g0, 0, none⟩) 13 13) ?_
    refine qv (.int .i64 (((j : Nat) : Int))) ?_
    simp only [nA, nB, nC]
    refine wp_y (v := (.pointer (some ⟨g0, j, none⟩))) rfl rfl (y_index (p := (.slice (some ⟨g0, 0, none⟩) 13 13)) (k := (.int .i64 (((j : Nat) : Int)))) rfl (by kernel_rfl) (by kernel_rfl) (by kernel_rfl) (idxS0 g0 13 13 j HLT.out)) rfl ?_
    simp only [nA, nB, nC]
    refine wp_y (v := (strV x)) rfl rfl (y_load rfl (hl := fun w' h => by rw [h]; exact load1 Tryz.isAgg9 (cell_at HKW.out j HCJ.out))) rfl ?_
    simp only [nA, nB, nC]
    refine qv (strV l) ?_
    simp only [nA, nB, nC]
    rcases bt (decide (x = l)) with Hhb3 | Hhb3
    ·have HZ : Hid (decide (l ∈ kws) = true) := hid (decide_eq_true (by have h9 := of_decide_eq_true Hhb3.out; rw [← h9]; exact List.mem_of_getElem? HX.out))
     refine wp_y (v := (.bool true)) rfl rfl (y_eqlS (l := x) (m := l) rfl (by kernel_rfl) (by kernel_rfl) (by kernel_rfl) (Hhb3.out)) rfl ?_
     simp only [nA, nB, nC]
     refine we ?_
     go_upto_region 6 with fail
     refine rl ?_
     refine qv (.bool true) ?_
     simp only [nA, nB, nC]
     refine we ?_
     go_wp2_with fail
     go_ret
     exact ⟨congrArg (fun b => Ending.returned (.bool b)) HZ.out.symm, HB0.out⟩
    ·have HNX : Hid (l ∉ kws.take (j + 1)) := hid (by have h9 := of_decide_eq_false Hhb3.out; rw [take_next HX.out]; intro hm; rcases List.mem_append.1 hm with hm | hm; exact HNI.out hm; exact h9 (Eq.symm (by simpa using hm)))
     refine wp_y (v := (.bool false)) rfl rfl (y_eqlS (l := x) (m := l) rfl (by kernel_rfl) (by kernel_rfl) (by kernel_rfl) (Hhb3.out)) rfl ?_
     simp only [nA, nB, nC]
     refine we ?_
     go_upto_region 4 with fail
     refine rl ?_
     refine qv (.int .i64 (((j : Nat) : Int))) ?_
     refine qb (badd_int ((j : Nat) : Int) 1 ((j + 1 : Nat) : Int) HS1.out) ?_
     refine qv (.int .i64 (((j + 1 : Nat) : Int))) ?_
     simp only [nA, nB, nC]
     refine we ?_
     go_wp2_with fail
     exact ⟨⟨j + 1, rfl, HNX.out, HB0.out, HKW.out⟩, by have := HLT.out; simp [intOf]; omega⟩
   ·have hlt : 13 ≤ j := by have := of_decide_eq_false Hhb2.out; omega
    have HZ : Hid (decide (l ∈ kws) = false) := hid (decide_eq_false (by have h9 := HNI.out; rwa [List.take_of_length_le (show kws.length ≤ j from hlt)] at h9))
    clear hlt
    refine qb (blss_int ((j : Nat) : Int) 13 false Hhb2.out) ?_
    simp only [nA, nB, nC]
    refine we ?_
    go_upto_region 7 with fail
    refine rl ?_
    refine qv (.bool false) ?_
    simp only [nA, nB, nC]
    refine we ?_
    go_wp2_with fail
    go_ret
    exact ⟨congrArg (fun b => Ending.returned (.bool b)) HZ.out.symm, HB0.out⟩
theorem isWord_97 (w : World) : Calls Tryz.prog 53 #[strV [97]] w fun e w' => e = .returned (.bool false) ∧ Below w.heap.size w w' := isWord_any [97] w
theorem isWord_98 (w : World) : Calls Tryz.prog 53 #[strV [98]] w fun e w' => e = .returned (.bool false) ∧ Below w.heap.size w w' := isWord_any [98] w
seal wpList in
theorem named_0 (w : World) : Calls Tryz.prog 87 #[strV [97, 32, 45, 32, 98, 32, 45, 32, 49, 46, 53], .int .i64 0] w fun e w' => e = .returned (.tuple #[(.agg #[(.int .i64 1), (strV [97]), (.int .i64 0), (.int .i64 0)]), .int .i64 1, .int .i64 0]) ∧ Below w.heap.size w w' := by
 have HB0 := hid (Below.refl w.heap.size w)
 go_enter Tryz.func87, Tryz.ntmps87
 go_upto_region 0 with fail
 refine rl ?_
 obtain ⟨w3, g1, (HX : Hid _), (K2 : Hid _), (HB4 : Hid _), (GV : Hid _)⟩ := alh_usanceref07_Token w
 have GE_g1 := kh HB0 GV
 refine wp_run (v := (.pointer (some ⟨g1, 0, none⟩))) rfl rfl (run_alOp rfl HX.out) rfl ?_
 try simp only [nA, nB, nC]
 replace HB0 := kb HB0 HB4
 refine qv (.int .i64 0) ?_
 refine qv (.int .i64 0) ?_
 simp only [nA, nB, nC]
 refine we ?_
 go_upto_region 1 with fail
 refine rl ?_
 refine qv (strV [97, 32, 45, 32, 98, 32, 45, 32, 49, 46, 53]) ?_
 refine qv (.int .i64 0) ?_
 simp only [nA, nB, nC]
 refine qc #[(strV [97, 32, 45, 32, 98, 32, 45, 32, 49, 46, 53]), (.int .i64 0)] ?_
 have HCA := hid (span_any [97, 32, 45, 32, 98, 32, 45, 32, 49, 46, 53] 0 w3 (by decide) (by decide))
 refine HCA.out.mono ?_
 rintro e wz ⟨he, hwz⟩
 rw [(show spn (List.drop 0 [97, 32, 45, 32, 98, 32, 45, 32, 49, 46, 53]) = 1 from rfl)] at he
 subst he
 refine ⟨_, rfl, ?_⟩
 obtain rfl := hwz.symm
 try simp only [Act.put, nA, nB, nC]
 refine qv (.int .i64 1) ?_
 simp only [nA, nB, nC]
 refine we ?_
 go_upto_region 2 with fail
 refine rl ?_
 refine qv (strV [97, 32, 45, 32, 98, 32, 45, 32, 49, 46, 53]) ?_
 refine qv (.int .i64 0) ?_
 refine qv (.int .i64 0) ?_
 refine qv (.int .i64 1) ?_
 simp only [nA, nB, nC]
 refine qv (.int .i64 1) ?_
 refine qv (strV [97]) ?_
 refine qv (strV [97]) ?_
 simp only [nA, nB, nC]
 refine we ?_
 go_upto_region 3 with fail
 refine rl ?_
 refine qv (strV [97]) ?_
 simp only [nA, nB, nC]
 refine qc #[(strV [97])] ?_
 have HCA := hid (isWord_97 w3)
 refine HCA.out.mono ?_
 rintro e w5 ⟨rfl, (HB6 : Hid _)⟩
 refine ⟨_, rfl, ?_⟩
 replace K2 := ka HB6 K2
 replace HB0 := kb HB0 HB6
 try simp only [Act.put, nA, nB, nC]
 refine qv (.bool false) ?_
 simp only [nA, nB, nC]
 refine we ?_
 go_upto_region 4 with fail
 refine rl ?_
 refine qv (.int .i64 0) ?_
 refine qv (.int .i64 1) ?_
 refine qv (.int .i64 1) ?_
 refine qv (strV [97, 32, 45, 32, 98, 32, 45, 32, 49, 46, 53]) ?_
 simp only [nA, nB, nC]
 refine qv (.int .i64 11) ?_
 refine qv (.bool true) ?_
 refine qv (.bool true) ?_
 simp only [nA, nB, nC]
 refine qg (strV [97, 32, 45, 32, 98, 32, 45, 32, 49, 46, 53]) rfl ?_
 simp only [nA, nB, nC]
 refine qg (.int .i64 0) rfl ?_
 simp only [nA, nB, nC]
 refine qg (.int .i64 1) rfl ?_
 simp only [nA, nB, nC]
 refine qg (.int .i64 1) rfl ?_
 simp only [nA, nB, nC]
 refine qg (.int .u8 32) rfl ?_
 simp only [nA, nB, nC]
 refine qg (.bool false) rfl ?_
 simp only [nA, nB, nC]
 refine qv (.bool false) ?_
 simp only [nA, nB, nC]
 refine we ?_
 go_upto_region 10 with fail
 refine rl ?_
 refine qv (.int .i64 1) ?_
 refine qv (.bool false) ?_
 simp only [nA, nB, nC]
 refine we ?_
 go_upto_region 12 with fail
 refine rl ?_
 refine qv (.bool false) ?_
 simp only [nA, nB, nC]
 refine we ?_
 go_upto_region 14 with fail
 refine rl ?_
 refine qv (strV [97]) ?_
 refine qv (.int .i64 0) ?_
 simp only [nA, nB, nC]
 refine wp_y (v := (.agg #[(.int .i64 1), (strV [97]), (.int .i64 0), (.int .i64 0)])) rfl rfl (y_val2 rfl (h := fun w' h => by rw [h]; exact run_buildOp rfl (by kernel_rfl) (bu_usanceref07_Token_0_1_3 w5 1 [97] 0))) rfl ?_
 simp only [nA, nB, nC]
 refine qv (.int .i64 1) ?_
 simp only [nA, nB, nC]
 obtain ⟨w7, hbx, hbk, hbf⟩ := st_x (T := 75) (c := #[(.int .i64 0), (strV []), (.int .i64 0), (.int .i64 0)]) (c' := #[(.int .i64 1), (strV [97]), (.int .i64 0), (.int .i64 0)]) (by kernel_rfl) rfl rfl K2.out (by intro v hv; simp at hv; rcases hv with rfl | rfl | rfl | rfl <;> first | rfl | assumption)
 replace K2 := hid hbk
 have HF8 := hid hbf
 have HX := hid hbx
 clear hbx hbk hbf
 refine wp_do rfl rfl (run_storeOp rfl (by kernel_rfl) (by kernel_rfl) HX.out) ?_
 try simp only [nA, nB, nC]
 replace HB0 := hid (HB0.out.trans (HF8.out.below HB0.out.size (by simpa using GE_g1.out)))
 refine qv (.int .i64 1) ?_
 refine qv (.int .i64 0) ?_
 simp only [nA, nB, nC]
 refine we ?_
 go_wp2_with fail
 exact ret_three rfl rfl rfl (load_blk Tryz.isAgg75 (by kernel_rfl) rfl K2.out) ⟨rfl, HB0.out⟩
seal wpList in
theorem token_0 (w : World) : Calls Tryz.prog 57 #[strV [97, 32, 45, 32, 98, 32, 45, 32, 49, 46, 53], .int .i64 0] w fun e w' => e = .returned (.tuple #[(.agg #[(.int .i64 1), (strV [97]), (.int .i64 0), (.int .i64 0)]), .int .i64 1, .int .i64 0]) ∧ Below w.heap.size w w' := by
 have HB0 := hid (Below.refl w.heap.size w)
 go_enter Tryz.func57, Tryz.ntmps57
 go_upto_region 0 with fail
 refine rl ?_
 obtain ⟨w3, g1, (HX : Hid _), (K2 : Hid _), (HB4 : Hid _), (GV : Hid _)⟩ := alh_usanceref07_Token w
 have GE_g1 := kh HB0 GV
 refine wp_run (v := (.pointer (some ⟨g1, 0, none⟩))) rfl rfl (run_alOp rfl HX.out) rfl ?_
 try simp only [nA, nB, nC]
 replace HB0 := kb HB0 HB4
 refine qv (.int .i64 0) ?_
 refine qv (.int .i64 0) ?_
 simp only [nA, nB, nC]
 refine we ?_
 go_upto_region 1 with fail
 refine rl ?_
 refine qv (strV [97, 32, 45, 32, 98, 32, 45, 32, 49, 46, 53]) ?_
 refine qv (.int .i64 0) ?_
 refine qv (.int .u8 97) ?_
 refine qv (.int .u8 97) ?_
 simp only [nA, nB, nC]
 refine we ?_
 go_upto_region 2 with fail
 refine rl ?_
 refine qv (.int .u8 97) ?_
 simp only [nA, nB, nC]
 refine qc #[(.int .u8 97)] ?_
 have HCA := hid (small8_any 97 w3)
 refine HCA.out.mono ?_
 rintro e wz ⟨he, hwz⟩
 rw [(show btw 97 122 97 = true from rfl)] at he
 subst he
 refine ⟨_, rfl, ?_⟩
 obtain rfl := hwz.symm
 try simp only [Act.put, nA, nB, nC]
 refine qv (.bool true) ?_
 simp only [nA, nB, nC]
 refine we ?_
 go_upto_region 3 with fail
 refine rl ?_
 refine qv (strV [97, 32, 45, 32, 98, 32, 45, 32, 49, 46, 53]) ?_
 refine qv (.int .i64 0) ?_
 simp only [nA, nB, nC]
 refine qc #[(strV [97, 32, 45, 32, 98, 32, 45, 32, 49, 46, 53]), (.int .i64 0)] ?_
 have HCA := hid (named_0 w3)
 refine HCA.out.mono ?_
 rintro e w5 ⟨rfl, (HB6 : Hid _)⟩
 refine ⟨_, rfl, ?_⟩
 replace K2 := ka HB6 K2
 replace HB0 := kb HB0 HB6
 try simp only [Act.put, nA, nB, nC]
 refine qv (.agg #[(.int .i64 1), (strV [97]), (.int .i64 0), (.int .i64 0)]) ?_
 refine qv (.int .i64 1) ?_
 refine qv (.int .i64 0) ?_
 simp only [nA, nB, nC]
 obtain ⟨w7, hbx, hbk, hbf⟩ := st_x (T := 75) (c := #[(.int .i64 0), (strV []), (.int .i64 0), (.int .i64 0)]) (c' := #[(.int .i64 1), (strV [97]), (.int .i64 0), (.int .i64 0)]) (by kernel_rfl) rfl rfl K2.out (by intro v hv; simp at hv; rcases hv with rfl | rfl | rfl | rfl <;> first | rfl | assumption)
 replace K2 := hid hbk
 have HF8 := hid hbf
 have HX := hid hbx
 clear hbx hbk hbf
 refine wp_do rfl rfl (run_storeOp rfl (by kernel_rfl) (by kernel_rfl) HX.out) ?_
 try simp only [nA, nB, nC]
 replace HB0 := hid (HB0.out.trans (HF8.out.below HB0.out.size (by simpa using GE_g1.out)))
 refine qv (.int .i64 1) ?_
 refine qv (.int .i64 0) ?_
 simp only [nA, nB, nC]
 refine we ?_
 go_wp2_with fail
 exact ret_three rfl rfl rfl (load_blk Tryz.isAgg75 (by kernel_rfl) rfl K2.out) ⟨rfl, HB0.out⟩
seal wpList in
theorem named_4 (w : World) : Calls Tryz.prog 87 #[strV [97, 32, 45, 32, 98, 32, 45, 32, 49, 46, 53], .int .i64 4] w fun e w' => e = .returned (.tuple #[(.agg #[(.int .i64 1), (strV [98]), (.int .i64 0), (.int .i64 4)]), .int .i64 1, .int .i64 0]) ∧ Below w.heap.size w w' := by
 have HB0 := hid (Below.refl w.heap.size w)
 go_enter Tryz.func87, Tryz.ntmps87
 go_upto_region 0 with fail
 refine rl ?_
 obtain ⟨w3, g1, (HX : Hid _), (K2 : Hid _), (HB4 : Hid _), (GV : Hid _)⟩ := alh_usanceref07_Token w
 have GE_g1 := kh HB0 GV
 refine wp_run (v := (.pointer (some ⟨g1, 0, none⟩))) rfl rfl (run_alOp rfl HX.out) rfl ?_
 try simp only [nA, nB, nC]
 replace HB0 := kb HB0 HB4
 refine qv (.int .i64 0) ?_
 refine qv (.int .i64 0) ?_
 simp only [nA, nB, nC]
 refine we ?_
 go_upto_region 1 with fail
 refine rl ?_
 refine qv (strV [97, 32, 45, 32, 98, 32, 45, 32, 49, 46, 53]) ?_
 refine qv (.int .i64 4) ?_
 simp only [nA, nB, nC]
 refine qc #[(strV [97, 32, 45, 32, 98, 32, 45, 32, 49, 46, 53]), (.int .i64 4)] ?_
 have HCA := hid (span_any [97, 32, 45, 32, 98, 32, 45, 32, 49, 46, 53] 4 w3 (by decide) (by decide))
 refine HCA.out.mono ?_
 rintro e wz ⟨he, hwz⟩
 rw [(show spn (List.drop 4 [97, 32, 45, 32, 98, 32, 45, 32, 49, 46, 53]) = 1 from rfl)] at he
 subst he
 refine ⟨_, rfl, ?_⟩
 obtain rfl := hwz.symm
 try simp only [Act.put, nA, nB, nC]
 refine qv (.int .i64 1) ?_
 simp only [nA, nB, nC]
 refine we ?_
 go_upto_region 2 with fail
 refine rl ?_
 refine qv (strV [97, 32, 45, 32, 98, 32, 45, 32, 49, 46, 53]) ?_
 refine qv (.int .i64 4) ?_
 refine qv (.int .i64 4) ?_
 refine qv (.int .i64 1) ?_
 simp only [nA, nB, nC]
 refine qv (.int .i64 5) ?_
 refine qv (strV [98]) ?_
 refine qv (strV [98]) ?_
 simp only [nA, nB, nC]
 refine we ?_
 go_upto_region 3 with fail
 refine rl ?_
 refine qv (strV [98]) ?_
 simp only [nA, nB, nC]
 refine qc #[(strV [98])] ?_
 have HCA := hid (isWord_98 w3)
 refine HCA.out.mono ?_
 rintro e w5 ⟨rfl, (HB6 : Hid _)⟩
 refine ⟨_, rfl, ?_⟩
 replace K2 := ka HB6 K2
 replace HB0 := kb HB0 HB6
 try simp only [Act.put, nA, nB, nC]
 refine qv (.bool false) ?_
 simp only [nA, nB, nC]
 refine we ?_
 go_upto_region 4 with fail
 refine rl ?_
 refine qv (.int .i64 4) ?_
 refine qv (.int .i64 1) ?_
 refine qv (.int .i64 5) ?_
 refine qv (strV [97, 32, 45, 32, 98, 32, 45, 32, 49, 46, 53]) ?_
 simp only [nA, nB, nC]
 refine qv (.int .i64 11) ?_
 refine qv (.bool true) ?_
 refine qv (.bool true) ?_
 simp only [nA, nB, nC]
 refine qg (strV [97, 32, 45, 32, 98, 32, 45, 32, 49, 46, 53]) rfl ?_
 simp only [nA, nB, nC]
 refine qg (.int .i64 4) rfl ?_
 simp only [nA, nB, nC]
 refine qg (.int .i64 1) rfl ?_
 simp only [nA, nB, nC]
 refine qg (.int .i64 5) rfl ?_
 simp only [nA, nB, nC]
 refine qg (.int .u8 32) rfl ?_
 simp only [nA, nB, nC]
 refine qg (.bool false) rfl ?_
 simp only [nA, nB, nC]
 refine qv (.bool false) ?_
 simp only [nA, nB, nC]
 refine we ?_
 go_upto_region 10 with fail
 refine rl ?_
 refine qv (.int .i64 1) ?_
 refine qv (.bool false) ?_
 simp only [nA, nB, nC]
 refine we ?_
 go_upto_region 12 with fail
 refine rl ?_
 refine qv (.bool false) ?_
 simp only [nA, nB, nC]
 refine we ?_
 go_upto_region 14 with fail
 refine rl ?_
 refine qv (strV [98]) ?_
 refine qv (.int .i64 4) ?_
 simp only [nA, nB, nC]
 refine wp_y (v := (.agg #[(.int .i64 1), (strV [98]), (.int .i64 0), (.int .i64 4)])) rfl rfl (y_val2 rfl (h := fun w' h => by rw [h]; exact run_buildOp rfl (by kernel_rfl) (bu_usanceref07_Token_0_1_3 w5 1 [98] 4))) rfl ?_
 simp only [nA, nB, nC]
 refine qv (.int .i64 1) ?_
 simp only [nA, nB, nC]
 obtain ⟨w7, hbx, hbk, hbf⟩ := st_x (T := 75) (c := #[(.int .i64 0), (strV []), (.int .i64 0), (.int .i64 0)]) (c' := #[(.int .i64 1), (strV [98]), (.int .i64 0), (.int .i64 4)]) (by kernel_rfl) rfl rfl K2.out (by intro v hv; simp at hv; rcases hv with rfl | rfl | rfl | rfl <;> first | rfl | assumption)
 replace K2 := hid hbk
 have HF8 := hid hbf
 have HX := hid hbx
 clear hbx hbk hbf
 refine wp_do rfl rfl (run_storeOp rfl (by kernel_rfl) (by kernel_rfl) HX.out) ?_
 try simp only [nA, nB, nC]
 replace HB0 := hid (HB0.out.trans (HF8.out.below HB0.out.size (by simpa using GE_g1.out)))
 refine qv (.int .i64 1) ?_
 refine qv (.int .i64 0) ?_
 simp only [nA, nB, nC]
 refine we ?_
 go_wp2_with fail
 exact ret_three rfl rfl rfl (load_blk Tryz.isAgg75 (by kernel_rfl) rfl K2.out) ⟨rfl, HB0.out⟩
seal wpList in
theorem token_4 (w : World) : Calls Tryz.prog 57 #[strV [97, 32, 45, 32, 98, 32, 45, 32, 49, 46, 53], .int .i64 4] w fun e w' => e = .returned (.tuple #[(.agg #[(.int .i64 1), (strV [98]), (.int .i64 0), (.int .i64 4)]), .int .i64 1, .int .i64 0]) ∧ Below w.heap.size w w' := by
 have HB0 := hid (Below.refl w.heap.size w)
 go_enter Tryz.func57, Tryz.ntmps57
 go_upto_region 0 with fail
 refine rl ?_
 obtain ⟨w3, g1, (HX : Hid _), (K2 : Hid _), (HB4 : Hid _), (GV : Hid _)⟩ := alh_usanceref07_Token w
 have GE_g1 := kh HB0 GV
 refine wp_run (v := (.pointer (some ⟨g1, 0, none⟩))) rfl rfl (run_alOp rfl HX.out) rfl ?_
 try simp only [nA, nB, nC]
 replace HB0 := kb HB0 HB4
 refine qv (.int .i64 0) ?_
 refine qv (.int .i64 0) ?_
 simp only [nA, nB, nC]
 refine we ?_
 go_upto_region 1 with fail
 refine rl ?_
 refine qv (strV [97, 32, 45, 32, 98, 32, 45, 32, 49, 46, 53]) ?_
 refine qv (.int .i64 4) ?_
 refine qv (.int .u8 98) ?_
 refine qv (.int .u8 98) ?_
 simp only [nA, nB, nC]
 refine we ?_
 go_upto_region 2 with fail
 refine rl ?_
 refine qv (.int .u8 98) ?_
 simp only [nA, nB, nC]
 refine qc #[(.int .u8 98)] ?_
 have HCA := hid (small8_any 98 w3)
 refine HCA.out.mono ?_
 rintro e wz ⟨he, hwz⟩
 rw [(show btw 97 122 98 = true from rfl)] at he
 subst he
 refine ⟨_, rfl, ?_⟩
 obtain rfl := hwz.symm
 try simp only [Act.put, nA, nB, nC]
 refine qv (.bool true) ?_
 simp only [nA, nB, nC]
 refine we ?_
 go_upto_region 3 with fail
 refine rl ?_
 refine qv (strV [97, 32, 45, 32, 98, 32, 45, 32, 49, 46, 53]) ?_
 refine qv (.int .i64 4) ?_
 simp only [nA, nB, nC]
 refine qc #[(strV [97, 32, 45, 32, 98, 32, 45, 32, 49, 46, 53]), (.int .i64 4)] ?_
 have HCA := hid (named_4 w3)
 refine HCA.out.mono ?_
 rintro e w5 ⟨rfl, (HB6 : Hid _)⟩
 refine ⟨_, rfl, ?_⟩
 replace K2 := ka HB6 K2
 replace HB0 := kb HB0 HB6
 try simp only [Act.put, nA, nB, nC]
 refine qv (.agg #[(.int .i64 1), (strV [98]), (.int .i64 0), (.int .i64 4)]) ?_
 refine qv (.int .i64 1) ?_
 refine qv (.int .i64 0) ?_
 simp only [nA, nB, nC]
 obtain ⟨w7, hbx, hbk, hbf⟩ := st_x (T := 75) (c := #[(.int .i64 0), (strV []), (.int .i64 0), (.int .i64 0)]) (c' := #[(.int .i64 1), (strV [98]), (.int .i64 0), (.int .i64 4)]) (by kernel_rfl) rfl rfl K2.out (by intro v hv; simp at hv; rcases hv with rfl | rfl | rfl | rfl <;> first | rfl | assumption)
 replace K2 := hid hbk
 have HF8 := hid hbf
 have HX := hid hbx
 clear hbx hbk hbf
 refine wp_do rfl rfl (run_storeOp rfl (by kernel_rfl) (by kernel_rfl) HX.out) ?_
 try simp only [nA, nB, nC]
 replace HB0 := hid (HB0.out.trans (HF8.out.below HB0.out.size (by simpa using GE_g1.out)))
 refine qv (.int .i64 1) ?_
 refine qv (.int .i64 0) ?_
 simp only [nA, nB, nC]
 refine we ?_
 go_wp2_with fail
 exact ret_three rfl rfl rfl (load_blk Tryz.isAgg75 (by kernel_rfl) rfl K2.out) ⟨rfl, HB0.out⟩
seal wpList in
theorem token_2 (w : World) : Calls Tryz.prog 57 #[strV [97, 32, 45, 32, 98, 32, 45, 32, 49, 46, 53], .int .i64 2] w fun e w' => e = .returned (.tuple #[(.agg #[(.int .i64 8), (strV [45]), (.int .i64 0), (.int .i64 2)]), .int .i64 1, .int .i64 0]) ∧ Below w.heap.size w w' := by
 have HB0 := hid (Below.refl w.heap.size w)
 go_enter Tryz.func57, Tryz.ntmps57
 go_upto_region 0 with fail
 refine rl ?_
 obtain ⟨w3, g1, (HX : Hid _), (K2 : Hid _), (HB4 : Hid _), (GV : Hid _)⟩ := alh_usanceref07_Token w
 have GE_g1 := kh HB0 GV
 refine wp_run (v := (.pointer (some ⟨g1, 0, none⟩))) rfl rfl (run_alOp rfl HX.out) rfl ?_
 try simp only [nA, nB, nC]
 replace HB0 := kb HB0 HB4
 refine qv (.int .i64 0) ?_
 refine qv (.int .i64 0) ?_
 simp only [nA, nB, nC]
 refine we ?_
 go_upto_region 1 with fail
 refine rl ?_
 refine qv (strV [97, 32, 45, 32, 98, 32, 45, 32, 49, 46, 53]) ?_
 refine qv (.int .i64 2) ?_
 refine qv (.int .u8 45) ?_
 refine qv (.int .u8 45) ?_
 simp only [nA, nB, nC]
 refine we ?_
 go_upto_region 2 with fail
 refine rl ?_
 refine qv (.int .u8 45) ?_
 simp only [nA, nB, nC]
 refine qc #[(.int .u8 45)] ?_
 have HCA := hid (small8_any 45 w3)
 refine HCA.out.mono ?_
 rintro e wz ⟨he, hwz⟩
 rw [(show btw 97 122 45 = false from rfl)] at he
 subst he
 refine ⟨_, rfl, ?_⟩
 obtain rfl := hwz.symm
 try simp only [Act.put, nA, nB, nC]
 refine qv (.bool false) ?_
 simp only [nA, nB, nC]
 refine we ?_
 go_upto_region 4 with fail
 refine rl ?_
 refine qv (.int .u8 45) ?_
 simp only [nA, nB, nC]
 refine qc #[(.int .u8 45)] ?_
 have HCA := hid (digit8_any 45 w3)
 refine HCA.out.mono ?_
 rintro e wz ⟨he, hwz⟩
 rw [(show btw 48 57 45 = false from rfl)] at he
 subst he
 refine ⟨_, rfl, ?_⟩
 obtain rfl := hwz.symm
 try simp only [Act.put, nA, nB, nC]
 refine qv (.bool false) ?_
 simp only [nA, nB, nC]
 refine we ?_
 go_upto_region 6 with fail
 refine rl ?_
 refine qv (.int .u8 45) ?_
 refine qv (.bool false) ?_
 refine qv (.bool false) ?_
 simp only [nA, nB, nC]
 refine we ?_
 go_upto_region 8 with fail
 refine rl ?_
 refine qv (.int .u8 45) ?_
 simp only [nA, nB, nC]
 refine qc #[(.int .u8 45)] ?_
 have HCA := hid (great8_any 45 w3)
 refine HCA.out.mono ?_
 rintro e wz ⟨he, hwz⟩
 rw [(show btw 65 90 45 = false from rfl)] at he
 subst he
 refine ⟨_, rfl, ?_⟩
 obtain rfl := hwz.symm
 try simp only [Act.put, nA, nB, nC]
 refine qv (.bool false) ?_
 simp only [nA, nB, nC]
 refine we ?_
 go_upto_region 15 with fail
 refine rl ?_
 refine qv (.int .u8 45) ?_
 refine qv (.bool false) ?_
 refine qv (.bool false) ?_
 simp only [nA, nB, nC]
 refine qs rfl ?_
 simp only [nA, nB, nC]
 refine qs rfl ?_
 simp only [nA, nB, nC]
 refine qs rfl ?_
 simp only [nA, nB, nC]
 refine qs rfl ?_
 simp only [nA, nB, nC]
 refine qs rfl ?_
 simp only [nA, nB, nC]
 refine qv (.bool false) ?_
 refine qv (.bool false) ?_
 simp only [nA, nB, nC]
 refine qs rfl ?_
 simp only [nA, nB, nC]
 refine qs rfl ?_
 simp only [nA, nB, nC]
 refine qs rfl ?_
 simp only [nA, nB, nC]
 refine qs rfl ?_
 simp only [nA, nB, nC]
 refine qs rfl ?_
 simp only [nA, nB, nC]
 refine qv (.bool false) ?_
 simp only [nA, nB, nC]
 refine we ?_
 go_upto_region 17 with fail
 refine rl ?_
 refine qv (strV [40, 41, 44, 59, 61, 60, 43, 45, 42, 47]) ?_
 simp only [nA, nB, nC]
 refine we ?_
 go_upto_region 18 with fail
 refine rl ?_
 refine qv (.int .i64 0) ?_
 simp only [nA, nB, nC]
 refine we ?_
 go_wp2_with fail
 go_loopw [5, 6, 10] (fun v5 v6 v10 wr => ((v5 = (.int .i64 0) ∧ v6 = (.int .i64 0) ∧ v10 = (.int .i64 0)) ∨ (v5 = (.int .i64 0) ∧ v6 = (.int .i64 0) ∧ v10 = (.int .i64 1)) ∨ (v5 = (.int .i64 0) ∧ v6 = (.int .i64 0) ∧ v10 = (.int .i64 2)) ∨ (v5 = (.int .i64 0) ∧ v6 = (.int .i64 0) ∧ v10 = (.int .i64 3)) ∨ (v5 = (.int .i64 0) ∧ v6 = (.int .i64 0) ∧ v10 = (.int .i64 4)) ∨ (v5 = (.int .i64 0) ∧ v6 = (.int .i64 0) ∧ v10 = (.int .i64 5)) ∨ (v5 = (.int .i64 0) ∧ v6 = (.int .i64 0) ∧ v10 = (.int .i64 6)) ∨ (v5 = (.int .i64 0) ∧ v6 = (.int .i64 0) ∧ v10 = (.int .i64 7))) ∧ Below w.heap.size w wr ∧ wr.heap[g1]? = some (.cells #[(.int .i64 0), (strV []), (.int .i64 0), (.int .i64 0)] 75 (0, 0))) (fun _ _ v10 _ => 8 - (intOf v10).toNat)
 case atStart =>
  exact ⟨.inl ⟨rfl, rfl, rfl⟩, HB0.out, K2.out⟩
 case round =>
  obtain ⟨hst, hF, hk0⟩ := hrel
  clear HB0
  have HB0 := hid hF
  clear hF
  clear K2
  have K2 := hid hk0
  clear hk0
  rcases hst with ⟨rfl, rfl, rfl⟩ | ⟨rfl, rfl, rfl⟩ | ⟨rfl, rfl, rfl⟩ | ⟨rfl, rfl, rfl⟩ | ⟨rfl, rfl, rfl⟩ | ⟨rfl, rfl, rfl⟩ | ⟨rfl, rfl, rfl⟩ | ⟨rfl, rfl, rfl⟩
  ·skip
   go_upto_region 19 with fail
   refine rl ?_
   refine qv (.int .i64 0) ?_
   refine qv (strV [40, 41, 44, 59, 61, 60, 43, 45, 42, 47]) ?_
   refine qv (.int .i64 10) ?_
   refine qv (.bool true) ?_
   simp only [nA, nB, nC]
   refine we ?_
   go_upto_region 21 with fail
   refine rl ?_
   refine qv (strV [40, 41, 44, 59, 61, 60, 43, 45, 42, 47]) ?_
   refine qv (.int .i64 0) ?_
   refine qv (.int .u8 40) ?_
   refine qv (.int .u8 45) ?_
   simp only [nA, nB, nC]
   refine qv (.bool false) ?_
   simp only [nA, nB, nC]
   refine we ?_
   go_upto_region 20 with fail
   refine rl ?_
   refine qv (.int .i64 0) ?_
   refine qv (.int .i64 1) ?_
   refine qv (.int .i64 1) ?_
   simp only [nA, nB, nC]
   refine we ?_
   go_wp2_with fail
   exact ⟨⟨.inr (.inl ⟨rfl, rfl, rfl⟩), HB0.out, K2.out⟩, by simp [intOf]⟩
  ·skip
   go_upto_region 19 with fail
   refine rl ?_
   refine qv (.int .i64 1) ?_
   refine qv (strV [40, 41, 44, 59, 61, 60, 43, 45, 42, 47]) ?_
   refine qv (.int .i64 10) ?_
   refine qv (.bool true) ?_
   simp only [nA, nB, nC]
   refine we ?_
   go_upto_region 21 with fail
   refine rl ?_
   refine qv (strV [40, 41, 44, 59, 61, 60, 43, 45, 42, 47]) ?_
   refine qv (.int .i64 1) ?_
   refine qv (.int .u8 41) ?_
   refine qv (.int .u8 45) ?_
   simp only [nA, nB, nC]
   refine qv (.bool false) ?_
   simp only [nA, nB, nC]
   refine we ?_
   go_upto_region 20 with fail
   refine rl ?_
   refine qv (.int .i64 1) ?_
   refine qv (.int .i64 2) ?_
   refine qv (.int .i64 2) ?_
   simp only [nA, nB, nC]
   refine we ?_
   go_wp2_with fail
   exact ⟨⟨.inr (.inr (.inl ⟨rfl, rfl, rfl⟩)), HB0.out, K2.out⟩, by simp [intOf]⟩
  ·skip
   go_upto_region 19 with fail
   refine rl ?_
   refine qv (.int .i64 2) ?_
   refine qv (strV [40, 41, 44, 59, 61, 60, 43, 45, 42, 47]) ?_
   refine qv (.int .i64 10) ?_
   refine qv (.bool true) ?_
   simp only [nA, nB, nC]
   refine we ?_
   go_upto_region 21 with fail
   refine rl ?_
   refine qv (strV [40, 41, 44, 59, 61, 60, 43, 45, 42, 47]) ?_
   refine qv (.int .i64 2) ?_
   refine qv (.int .u8 44) ?_
   refine qv (.int .u8 45) ?_
   simp only [nA, nB, nC]
   refine qv (.bool false) ?_
   simp only [nA, nB, nC]
   refine we ?_
   go_upto_region 20 with fail
   refine rl ?_
   refine qv (.int .i64 2) ?_
   refine qv (.int .i64 3) ?_
   refine qv (.int .i64 3) ?_
   simp only [nA, nB, nC]
   refine we ?_
   go_wp2_with fail
   exact ⟨⟨.inr (.inr (.inr (.inl ⟨rfl, rfl, rfl⟩))), HB0.out, K2.out⟩, by simp [intOf]⟩
  ·skip
   go_upto_region 19 with fail
   refine rl ?_
   refine qv (.int .i64 3) ?_
   refine qv (strV [40, 41, 44, 59, 61, 60, 43, 45, 42, 47]) ?_
   refine qv (.int .i64 10) ?_
   refine qv (.bool true) ?_
   simp only [nA, nB, nC]
   refine we ?_
   go_upto_region 21 with fail
   refine rl ?_
   refine qv (strV [40, 41, 44, 59, 61, 60, 43, 45, 42, 47]) ?_
   refine qv (.int .i64 3) ?_
   refine qv (.int .u8 59) ?_
   refine qv (.int .u8 45) ?_
   simp only [nA, nB, nC]
   refine qv (.bool false) ?_
   simp only [nA, nB, nC]
   refine we ?_
   go_upto_region 20 with fail
   refine rl ?_
   refine qv (.int .i64 3) ?_
   refine qv (.int .i64 4) ?_
   refine qv (.int .i64 4) ?_
   simp only [nA, nB, nC]
   refine we ?_
   go_wp2_with fail
   exact ⟨⟨.inr (.inr (.inr (.inr (.inl ⟨rfl, rfl, rfl⟩)))), HB0.out, K2.out⟩, by simp [intOf]⟩
  ·skip
   go_upto_region 19 with fail
   refine rl ?_
   refine qv (.int .i64 4) ?_
   refine qv (strV [40, 41, 44, 59, 61, 60, 43, 45, 42, 47]) ?_
   refine qv (.int .i64 10) ?_
   refine qv (.bool true) ?_
   simp only [nA, nB, nC]
   refine we ?_
   go_upto_region 21 with fail
   refine rl ?_
   refine qv (strV [40, 41, 44, 59, 61, 60, 43, 45, 42, 47]) ?_
   refine qv (.int .i64 4) ?_
   refine qv (.int .u8 61) ?_
   refine qv (.int .u8 45) ?_
   simp only [nA, nB, nC]
   refine qv (.bool false) ?_
   simp only [nA, nB, nC]
   refine we ?_
   go_upto_region 20 with fail
   refine rl ?_
   refine qv (.int .i64 4) ?_
   refine qv (.int .i64 5) ?_
   refine qv (.int .i64 5) ?_
   simp only [nA, nB, nC]
   refine we ?_
   go_wp2_with fail
   exact ⟨⟨.inr (.inr (.inr (.inr (.inr (.inl ⟨rfl, rfl, rfl⟩))))), HB0.out, K2.out⟩, by simp [intOf]⟩
  ·skip
   go_upto_region 19 with fail
   refine rl ?_
   refine qv (.int .i64 5) ?_
   refine qv (strV [40, 41, 44, 59, 61, 60, 43, 45, 42, 47]) ?_
   refine qv (.int .i64 10) ?_
   refine qv (.bool true) ?_
   simp only [nA, nB, nC]
   refine we ?_
   go_upto_region 21 with fail
   refine rl ?_
   refine qv (strV [40, 41, 44, 59, 61, 60, 43, 45, 42, 47]) ?_
   refine qv (.int .i64 5) ?_
   refine qv (.int .u8 60) ?_
   refine qv (.int .u8 45) ?_
   simp only [nA, nB, nC]
   refine qv (.bool false) ?_
   simp only [nA, nB, nC]
   refine we ?_
   go_upto_region 20 with fail
   refine rl ?_
   refine qv (.int .i64 5) ?_
   refine qv (.int .i64 6) ?_
   refine qv (.int .i64 6) ?_
   simp only [nA, nB, nC]
   refine we ?_
   go_wp2_with fail
   exact ⟨⟨.inr (.inr (.inr (.inr (.inr (.inr (.inl ⟨rfl, rfl, rfl⟩)))))), HB0.out, K2.out⟩, by simp [intOf]⟩
  ·skip
   go_upto_region 19 with fail
   refine rl ?_
   refine qv (.int .i64 6) ?_
   refine qv (strV [40, 41, 44, 59, 61, 60, 43, 45, 42, 47]) ?_
   refine qv (.int .i64 10) ?_
   refine qv (.bool true) ?_
   simp only [nA, nB, nC]
   refine we ?_
   go_upto_region 21 with fail
   refine rl ?_
   refine qv (strV [40, 41, 44, 59, 61, 60, 43, 45, 42, 47]) ?_
   refine qv (.int .i64 6) ?_
   refine qv (.int .u8 43) ?_
   refine qv (.int .u8 45) ?_
   simp only [nA, nB, nC]
   refine qv (.bool false) ?_
   simp only [nA, nB, nC]
   refine we ?_
   go_upto_region 20 with fail
   refine rl ?_
   refine qv (.int .i64 6) ?_
   refine qv (.int .i64 7) ?_
   refine qv (.int .i64 7) ?_
   simp only [nA, nB, nC]
   refine we ?_
   go_wp2_with fail
   exact ⟨⟨.inr (.inr (.inr (.inr (.inr (.inr (.inr (⟨rfl, rfl, rfl⟩))))))), HB0.out, K2.out⟩, by simp [intOf]⟩
  ·skip
   go_upto_region 19 with fail
   refine rl ?_
   refine qv (.int .i64 7) ?_
   refine qv (strV [40, 41, 44, 59, 61, 60, 43, 45, 42, 47]) ?_
   refine qv (.int .i64 10) ?_
   refine qv (.bool true) ?_
   simp only [nA, nB, nC]
   refine we ?_
   go_upto_region 21 with fail
   refine rl ?_
   refine qv (strV [40, 41, 44, 59, 61, 60, 43, 45, 42, 47]) ?_
   refine qv (.int .i64 7) ?_
   refine qv (.int .u8 45) ?_
   refine qv (.int .u8 45) ?_
   simp only [nA, nB, nC]
   refine qv (.bool true) ?_
   simp only [nA, nB, nC]
   refine we ?_
   go_upto_region 22 with fail
   refine rl ?_
   refine qv (strV [40, 41, 44, 59, 61, 60, 43, 45, 42, 47]) ?_
   refine qv (.int .i64 7) ?_
   refine qv (.int .i64 7) ?_
   refine qv (.int .i64 8) ?_
   simp only [nA, nB, nC]
   refine qv (strV [45]) ?_
   refine qv (.int .i64 2) ?_
   simp only [nA, nB, nC]
   refine wp_y (v := (.agg #[(.int .i64 8), (strV [45]), (.int .i64 0), (.int .i64 2)])) rfl rfl (y_val2 rfl (h := fun w' h => by rw [h]; exact run_buildOp rfl (by kernel_rfl) (bu_usanceref07_Token_0_1_3 wr 8 [45] 2))) rfl ?_
   simp only [nA, nB, nC]
   obtain ⟨w5, hbx, hbk, hbf⟩ := st_x (T := 75) (c := #[(.int .i64 0), (strV []), (.int .i64 0), (.int .i64 0)]) (c' := #[(.int .i64 8), (strV [45]), (.int .i64 0), (.int .i64 2)]) (by kernel_rfl) rfl rfl K2.out (by intro v hv; simp at hv; rcases hv with rfl | rfl | rfl | rfl <;> first | rfl | assumption)
   replace K2 := hid hbk
   have HF6 := hid hbf
   have HX := hid hbx
   clear hbx hbk hbf
   refine wp_do rfl rfl (run_storeOp rfl (by kernel_rfl) (by kernel_rfl) HX.out) ?_
   try simp only [nA, nB, nC]
   replace HB0 := hid (HB0.out.trans (HF6.out.below HB0.out.size (by simpa using GE_g1.out)))
   refine qv (.int .i64 1) ?_
   refine qv (.int .i64 0) ?_
   simp only [nA, nB, nC]
   refine we ?_
   go_wp2_with fail
   exact ret_three rfl rfl rfl (load_blk Tryz.isAgg75 (by kernel_rfl) rfl K2.out) ⟨rfl, HB0.out⟩
seal wpList in
theorem token_6 (w : World) : Calls Tryz.prog 57 #[strV [97, 32, 45, 32, 98, 32, 45, 32, 49, 46, 53], .int .i64 6] w fun e w' => e = .returned (.tuple #[(.agg #[(.int .i64 8), (strV [45]), (.int .i64 0), (.int .i64 6)]), .int .i64 1, .int .i64 0]) ∧ Below w.heap.size w w' := by
 have HB0 := hid (Below.refl w.heap.size w)
 go_enter Tryz.func57, Tryz.ntmps57
 go_upto_region 0 with fail
 refine rl ?_
 obtain ⟨w3, g1, (HX : Hid _), (K2 : Hid _), (HB4 : Hid _), (GV : Hid _)⟩ := alh_usanceref07_Token w
 have GE_g1 := kh HB0 GV
 refine wp_run (v := (.pointer (some ⟨g1, 0, none⟩))) rfl rfl (run_alOp rfl HX.out) rfl ?_
 try simp only [nA, nB, nC]
 replace HB0 := kb HB0 HB4
 refine qv (.int .i64 0) ?_
 refine qv (.int .i64 0) ?_
 simp only [nA, nB, nC]
 refine we ?_
 go_upto_region 1 with fail
 refine rl ?_
 refine qv (strV [97, 32, 45, 32, 98, 32, 45, 32, 49, 46, 53]) ?_
 refine qv (.int .i64 6) ?_
 refine qv (.int .u8 45) ?_
 refine qv (.int .u8 45) ?_
 simp only [nA, nB, nC]
 refine we ?_
 go_upto_region 2 with fail
 refine rl ?_
 refine qv (.int .u8 45) ?_
 simp only [nA, nB, nC]
 refine qc #[(.int .u8 45)] ?_
 have HCA := hid (small8_any 45 w3)
 refine HCA.out.mono ?_
 rintro e wz ⟨he, hwz⟩
 rw [(show btw 97 122 45 = false from rfl)] at he
 subst he
 refine ⟨_, rfl, ?_⟩
 obtain rfl := hwz.symm
 try simp only [Act.put, nA, nB, nC]
 refine qv (.bool false) ?_
 simp only [nA, nB, nC]
 refine we ?_
 go_upto_region 4 with fail
 refine rl ?_
 refine qv (.int .u8 45) ?_
 simp only [nA, nB, nC]
 refine qc #[(.int .u8 45)] ?_
 have HCA := hid (digit8_any 45 w3)
 refine HCA.out.mono ?_
 rintro e wz ⟨he, hwz⟩
 rw [(show btw 48 57 45 = false from rfl)] at he
 subst he
 refine ⟨_, rfl, ?_⟩
 obtain rfl := hwz.symm
 try simp only [Act.put, nA, nB, nC]
 refine qv (.bool false) ?_
 simp only [nA, nB, nC]
 refine we ?_
 go_upto_region 6 with fail
 refine rl ?_
 refine qv (.int .u8 45) ?_
 refine qv (.bool false) ?_
 refine qv (.bool false) ?_
 simp only [nA, nB, nC]
 refine we ?_
 go_upto_region 8 with fail
 refine rl ?_
 refine qv (.int .u8 45) ?_
 simp only [nA, nB, nC]
 refine qc #[(.int .u8 45)] ?_
 have HCA := hid (great8_any 45 w3)
 refine HCA.out.mono ?_
 rintro e wz ⟨he, hwz⟩
 rw [(show btw 65 90 45 = false from rfl)] at he
 subst he
 refine ⟨_, rfl, ?_⟩
 obtain rfl := hwz.symm
 try simp only [Act.put, nA, nB, nC]
 refine qv (.bool false) ?_
 simp only [nA, nB, nC]
 refine we ?_
 go_upto_region 15 with fail
 refine rl ?_
 refine qv (.int .u8 45) ?_
 refine qv (.bool false) ?_
 refine qv (.bool false) ?_
 simp only [nA, nB, nC]
 refine qs rfl ?_
 simp only [nA, nB, nC]
 refine qs rfl ?_
 simp only [nA, nB, nC]
 refine qs rfl ?_
 simp only [nA, nB, nC]
 refine qs rfl ?_
 simp only [nA, nB, nC]
 refine qs rfl ?_
 simp only [nA, nB, nC]
 refine qv (.bool false) ?_
 refine qv (.bool false) ?_
 simp only [nA, nB, nC]
 refine qs rfl ?_
 simp only [nA, nB, nC]
 refine qs rfl ?_
 simp only [nA, nB, nC]
 refine qs rfl ?_
 simp only [nA, nB, nC]
 refine qs rfl ?_
 simp only [nA, nB, nC]
 refine qs rfl ?_
 simp only [nA, nB, nC]
 refine qv (.bool false) ?_
 simp only [nA, nB, nC]
 refine we ?_
 go_upto_region 17 with fail
 refine rl ?_
 refine qv (strV [40, 41, 44, 59, 61, 60, 43, 45, 42, 47]) ?_
 simp only [nA, nB, nC]
 refine we ?_
 go_upto_region 18 with fail
 refine rl ?_
 refine qv (.int .i64 0) ?_
 simp only [nA, nB, nC]
 refine we ?_
 go_wp2_with fail
 go_loopw [5, 6, 10] (fun v5 v6 v10 wr => ((v5 = (.int .i64 0) ∧ v6 = (.int .i64 0) ∧ v10 = (.int .i64 0)) ∨ (v5 = (.int .i64 0) ∧ v6 = (.int .i64 0) ∧ v10 = (.int .i64 1)) ∨ (v5 = (.int .i64 0) ∧ v6 = (.int .i64 0) ∧ v10 = (.int .i64 2)) ∨ (v5 = (.int .i64 0) ∧ v6 = (.int .i64 0) ∧ v10 = (.int .i64 3)) ∨ (v5 = (.int .i64 0) ∧ v6 = (.int .i64 0) ∧ v10 = (.int .i64 4)) ∨ (v5 = (.int .i64 0) ∧ v6 = (.int .i64 0) ∧ v10 = (.int .i64 5)) ∨ (v5 = (.int .i64 0) ∧ v6 = (.int .i64 0) ∧ v10 = (.int .i64 6)) ∨ (v5 = (.int .i64 0) ∧ v6 = (.int .i64 0) ∧ v10 = (.int .i64 7))) ∧ Below w.heap.size w wr ∧ wr.heap[g1]? = some (.cells #[(.int .i64 0), (strV []), (.int .i64 0), (.int .i64 0)] 75 (0, 0))) (fun _ _ v10 _ => 8 - (intOf v10).toNat)
 case atStart =>
  exact ⟨.inl ⟨rfl, rfl, rfl⟩, HB0.out, K2.out⟩
 case round =>
  obtain ⟨hst, hF, hk0⟩ := hrel
  clear HB0
  have HB0 := hid hF
  clear hF
  clear K2
  have K2 := hid hk0
  clear hk0
  rcases hst with ⟨rfl, rfl, rfl⟩ | ⟨rfl, rfl, rfl⟩ | ⟨rfl, rfl, rfl⟩ | ⟨rfl, rfl, rfl⟩ | ⟨rfl, rfl, rfl⟩ | ⟨rfl, rfl, rfl⟩ | ⟨rfl, rfl, rfl⟩ | ⟨rfl, rfl, rfl⟩
  ·skip
   go_upto_region 19 with fail
   refine rl ?_
   refine qv (.int .i64 0) ?_
   refine qv (strV [40, 41, 44, 59, 61, 60, 43, 45, 42, 47]) ?_
   refine qv (.int .i64 10) ?_
   refine qv (.bool true) ?_
   simp only [nA, nB, nC]
   refine we ?_
   go_upto_region 21 with fail
   refine rl ?_
   refine qv (strV [40, 41, 44, 59, 61, 60, 43, 45, 42, 47]) ?_
   refine qv (.int .i64 0) ?_
   refine qv (.int .u8 40) ?_
   refine qv (.int .u8 45) ?_
   simp only [nA, nB, nC]
   refine qv (.bool false) ?_
   simp only [nA, nB, nC]
   refine we ?_
   go_upto_region 20 with fail
   refine rl ?_
   refine qv (.int .i64 0) ?_
   refine qv (.int .i64 1) ?_
   refine qv (.int .i64 1) ?_
   simp only [nA, nB, nC]
   refine we ?_
   go_wp2_with fail
   exact ⟨⟨.inr (.inl ⟨rfl, rfl, rfl⟩), HB0.out, K2.out⟩, by simp [intOf]⟩
  ·skip
   go_upto_region 19 with fail
   refine rl ?_
   refine qv (.int .i64 1) ?_
   refine qv (strV [40, 41, 44, 59, 61, 60, 43, 45, 42, 47]) ?_
   refine qv (.int .i64 10) ?_
   refine qv (.bool true) ?_
   simp only [nA, nB, nC]
   refine we ?_
   go_upto_region 21 with fail
   refine rl ?_
   refine qv (strV [40, 41, 44, 59, 61, 60, 43, 45, 42, 47]) ?_
   refine qv (.int .i64 1) ?_
   refine qv (.int .u8 41) ?_
   refine qv (.int .u8 45) ?_
   simp only [nA, nB, nC]
   refine qv (.bool false) ?_
   simp only [nA, nB, nC]
   refine we ?_
   go_upto_region 20 with fail
   refine rl ?_
   refine qv (.int .i64 1) ?_
   refine qv (.int .i64 2) ?_
   refine qv (.int .i64 2) ?_
   simp only [nA, nB, nC]
   refine we ?_
   go_wp2_with fail
   exact ⟨⟨.inr (.inr (.inl ⟨rfl, rfl, rfl⟩)), HB0.out, K2.out⟩, by simp [intOf]⟩
  ·skip
   go_upto_region 19 with fail
   refine rl ?_
   refine qv (.int .i64 2) ?_
   refine qv (strV [40, 41, 44, 59, 61, 60, 43, 45, 42, 47]) ?_
   refine qv (.int .i64 10) ?_
   refine qv (.bool true) ?_
   simp only [nA, nB, nC]
   refine we ?_
   go_upto_region 21 with fail
   refine rl ?_
   refine qv (strV [40, 41, 44, 59, 61, 60, 43, 45, 42, 47]) ?_
   refine qv (.int .i64 2) ?_
   refine qv (.int .u8 44) ?_
   refine qv (.int .u8 45) ?_
   simp only [nA, nB, nC]
   refine qv (.bool false) ?_
   simp only [nA, nB, nC]
   refine we ?_
   go_upto_region 20 with fail
   refine rl ?_
   refine qv (.int .i64 2) ?_
   refine qv (.int .i64 3) ?_
   refine qv (.int .i64 3) ?_
   simp only [nA, nB, nC]
   refine we ?_
   go_wp2_with fail
   exact ⟨⟨.inr (.inr (.inr (.inl ⟨rfl, rfl, rfl⟩))), HB0.out, K2.out⟩, by simp [intOf]⟩
  ·skip
   go_upto_region 19 with fail
   refine rl ?_
   refine qv (.int .i64 3) ?_
   refine qv (strV [40, 41, 44, 59, 61, 60, 43, 45, 42, 47]) ?_
   refine qv (.int .i64 10) ?_
   refine qv (.bool true) ?_
   simp only [nA, nB, nC]
   refine we ?_
   go_upto_region 21 with fail
   refine rl ?_
   refine qv (strV [40, 41, 44, 59, 61, 60, 43, 45, 42, 47]) ?_
   refine qv (.int .i64 3) ?_
   refine qv (.int .u8 59) ?_
   refine qv (.int .u8 45) ?_
   simp only [nA, nB, nC]
   refine qv (.bool false) ?_
   simp only [nA, nB, nC]
   refine we ?_
   go_upto_region 20 with fail
   refine rl ?_
   refine qv (.int .i64 3) ?_
   refine qv (.int .i64 4) ?_
   refine qv (.int .i64 4) ?_
   simp only [nA, nB, nC]
   refine we ?_
   go_wp2_with fail
   exact ⟨⟨.inr (.inr (.inr (.inr (.inl ⟨rfl, rfl, rfl⟩)))), HB0.out, K2.out⟩, by simp [intOf]⟩
  ·skip
   go_upto_region 19 with fail
   refine rl ?_
   refine qv (.int .i64 4) ?_
   refine qv (strV [40, 41, 44, 59, 61, 60, 43, 45, 42, 47]) ?_
   refine qv (.int .i64 10) ?_
   refine qv (.bool true) ?_
   simp only [nA, nB, nC]
   refine we ?_
   go_upto_region 21 with fail
   refine rl ?_
   refine qv (strV [40, 41, 44, 59, 61, 60, 43, 45, 42, 47]) ?_
   refine qv (.int .i64 4) ?_
   refine qv (.int .u8 61) ?_
   refine qv (.int .u8 45) ?_
   simp only [nA, nB, nC]
   refine qv (.bool false) ?_
   simp only [nA, nB, nC]
   refine we ?_
   go_upto_region 20 with fail
   refine rl ?_
   refine qv (.int .i64 4) ?_
   refine qv (.int .i64 5) ?_
   refine qv (.int .i64 5) ?_
   simp only [nA, nB, nC]
   refine we ?_
   go_wp2_with fail
   exact ⟨⟨.inr (.inr (.inr (.inr (.inr (.inl ⟨rfl, rfl, rfl⟩))))), HB0.out, K2.out⟩, by simp [intOf]⟩
  ·skip
   go_upto_region 19 with fail
   refine rl ?_
   refine qv (.int .i64 5) ?_
   refine qv (strV [40, 41, 44, 59, 61, 60, 43, 45, 42, 47]) ?_
   refine qv (.int .i64 10) ?_
   refine qv (.bool true) ?_
   simp only [nA, nB, nC]
   refine we ?_
   go_upto_region 21 with fail
   refine rl ?_
   refine qv (strV [40, 41, 44, 59, 61, 60, 43, 45, 42, 47]) ?_
   refine qv (.int .i64 5) ?_
   refine qv (.int .u8 60) ?_
   refine qv (.int .u8 45) ?_
   simp only [nA, nB, nC]
   refine qv (.bool false) ?_
   simp only [nA, nB, nC]
   refine we ?_
   go_upto_region 20 with fail
   refine rl ?_
   refine qv (.int .i64 5) ?_
   refine qv (.int .i64 6) ?_
   refine qv (.int .i64 6) ?_
   simp only [nA, nB, nC]
   refine we ?_
   go_wp2_with fail
   exact ⟨⟨.inr (.inr (.inr (.inr (.inr (.inr (.inl ⟨rfl, rfl, rfl⟩)))))), HB0.out, K2.out⟩, by simp [intOf]⟩
  ·skip
   go_upto_region 19 with fail
   refine rl ?_
   refine qv (.int .i64 6) ?_
   refine qv (strV [40, 41, 44, 59, 61, 60, 43, 45, 42, 47]) ?_
   refine qv (.int .i64 10) ?_
   refine qv (.bool true) ?_
   simp only [nA, nB, nC]
   refine we ?_
   go_upto_region 21 with fail
   refine rl ?_
   refine qv (strV [40, 41, 44, 59, 61, 60, 43, 45, 42, 47]) ?_
   refine qv (.int .i64 6) ?_
   refine qv (.int .u8 43) ?_
   refine qv (.int .u8 45) ?_
   simp only [nA, nB, nC]
   refine qv (.bool false) ?_
   simp only [nA, nB, nC]
   refine we ?_
   go_upto_region 20 with fail
   refine rl ?_
   refine qv (.int .i64 6) ?_
   refine qv (.int .i64 7) ?_
   refine qv (.int .i64 7) ?_
   simp only [nA, nB, nC]
   refine we ?_
   go_wp2_with fail
   exact ⟨⟨.inr (.inr (.inr (.inr (.inr (.inr (.inr (⟨rfl, rfl, rfl⟩))))))), HB0.out, K2.out⟩, by simp [intOf]⟩
  ·skip
   go_upto_region 19 with fail
   refine rl ?_
   refine qv (.int .i64 7) ?_
   refine qv (strV [40, 41, 44, 59, 61, 60, 43, 45, 42, 47]) ?_
   refine qv (.int .i64 10) ?_
   refine qv (.bool true) ?_
   simp only [nA, nB, nC]
   refine we ?_
   go_upto_region 21 with fail
   refine rl ?_
   refine qv (strV [40, 41, 44, 59, 61, 60, 43, 45, 42, 47]) ?_
   refine qv (.int .i64 7) ?_
   refine qv (.int .u8 45) ?_
   refine qv (.int .u8 45) ?_
   simp only [nA, nB, nC]
   refine qv (.bool true) ?_
   simp only [nA, nB, nC]
   refine we ?_
   go_upto_region 22 with fail
   refine rl ?_
   refine qv (strV [40, 41, 44, 59, 61, 60, 43, 45, 42, 47]) ?_
   refine qv (.int .i64 7) ?_
   refine qv (.int .i64 7) ?_
   refine qv (.int .i64 8) ?_
   simp only [nA, nB, nC]
   refine qv (strV [45]) ?_
   refine qv (.int .i64 6) ?_
   simp only [nA, nB, nC]
   refine wp_y (v := (.agg #[(.int .i64 8), (strV [45]), (.int .i64 0), (.int .i64 6)])) rfl rfl (y_val2 rfl (h := fun w' h => by rw [h]; exact run_buildOp rfl (by kernel_rfl) (bu_usanceref07_Token_0_1_3 wr 8 [45] 6))) rfl ?_
   simp only [nA, nB, nC]
   obtain ⟨w5, hbx, hbk, hbf⟩ := st_x (T := 75) (c := #[(.int .i64 0), (strV []), (.int .i64 0), (.int .i64 0)]) (c' := #[(.int .i64 8), (strV [45]), (.int .i64 0), (.int .i64 6)]) (by kernel_rfl) rfl rfl K2.out (by intro v hv; simp at hv; rcases hv with rfl | rfl | rfl | rfl <;> first | rfl | assumption)
   replace K2 := hid hbk
   have HF6 := hid hbf
   have HX := hid hbx
   clear hbx hbk hbf
   refine wp_do rfl rfl (run_storeOp rfl (by kernel_rfl) (by kernel_rfl) HX.out) ?_
   try simp only [nA, nB, nC]
   replace HB0 := hid (HB0.out.trans (HF6.out.below HB0.out.size (by simpa using GE_g1.out)))
   refine qv (.int .i64 1) ?_
   refine qv (.int .i64 0) ?_
   simp only [nA, nB, nC]
   refine we ?_
   go_wp2_with fail
   exact ret_three rfl rfl rfl (load_blk Tryz.isAgg75 (by kernel_rfl) rfl K2.out) ⟨rfl, HB0.out⟩
end Go.Proofs.YtgpkcjpanpbhdaaGreatDoor
