/- texts put together: SOwn SBld SWr SWrite SWriteL -/
import Derived.Test.YtgpkcjpanpbhdaaGreatDoorSGb
import Derived.Test.YtgpkcjpanpbhdaaGreatDoorShelf
import Derived.Shelf.Strings.BuilderK
set_option maxRecDepth 100000
set_option maxHeartbeats 4000000
namespace Go.Proofs.YtgpkcjpanpbhdaaGreatDoor
open Go Go.RowKit
def nof (l : List UInt8) : Bool := fre (Lib.cut l [46]).1 && (!(Lib.cut l [46]).2.2 || fre (Lib.cut l [46]).2.1)
def uns : List (List UInt8) := [[45], [110, 111, 116]]
def sgns : List (List UInt8) := [[111, 114], [97, 110, 100], [60], [60, 61], [61], [43], [45], [42], [47]]
def ownT (k : Int) (tx : List UInt8) : Bool := bif k == 7 then cur tx else bif k == 9 then nam tx else bif k == 15 then nam tx else bif k == 10 then nof tx else bif k == 11 then nof tx else bif k == 12 then decide (tx ∈ uns) else bif k == 13 then decide (tx ∈ sgns) else bif k == 14 then decide (tx = []) else false
def own (k : Int) (tx : List UInt8) (n : Int) : Bool := bif k == 5 then decide (tx = []) && btw 0 1000000000000000 n else bif k == 6 then decide (tx = []) && btw 0 73048 n else bif k == 8 then decide (tx = []) && btw 0 1 n else n == 0 && ownT k tx
theorem srs_blk {w : World} {g : Nat} {ls : List (List UInt8)} {e : TypeId} {z : Nat × Nat} (h : w.heap[g]? = some (.cells (ls.map strV).toArray e z)) (hl : ls.length ≤ 9223372036854775807) : Srs w (.slice (some ⟨g, 0, none⟩) ls.length ls.length) ls := by
 refine ⟨_, _, rfl, hl, fun i s hs => ⟨_, _, rfl, ?_⟩⟩
 rw [Nat.zero_add]
 exact cell_at h i (by rw [List.getElem?_toArray, List.getElem?_map, hs]; rfl)
theorem cut_len (l : List UInt8) : (Lib.cut l [46]).1.length ≤ l.length ∧ (Lib.cut l [46]).2.1.length ≤ l.length := by
 unfold Lib.cut
 split <;> simp [Nat.min_le_right]
theorem cut_any (l : List UInt8) (w : World) (hl : l.length ≤ 9223372036854775807) : Calls Tryz.prog 184 #[strV l, strV [46]] w fun e w' => e = .returned (.tuple #[strV (Lib.cut l [46]).1, strV (Lib.cut l [46]).2.1, .bool (Lib.cut l [46]).2.2]) ∧ Below w.heap.size w w' := by
 refine (cutS_any ⟨l.toArray⟩ w (by rw [size_strV]; exact hl)).mono ?_
 rintro e w' ⟨rfl, n, rfl⟩
 exact ⟨rfl, below_drewN (Below.refl _ _) _⟩
theorem bs_Sstring_2 (w : World) (x0 x1 : Value) (h0 : x0.cells = #[x0]) (h1 : x1.cells = #[x1]) : ∃ w1 g, (Instr.buildSlice 70 2 #[(0, x0), (1, x1)]).run Tryz.prog w = .ok (.slice (some ⟨g, 0, none⟩) 2 2) w1 ∧ w1.heap[g]? = some (.cells #[x0, x1] 9 (0, 0)) ∧ Below w.heap.size w w1 := by
 refine ⟨w.alloc (.cells #[x0, x1] 9), w.heap.size, ?_, heap_alloc_last w _, (Below.refl _ _).alloc (Nat.le_refl _) _⟩
 simp [Instr.buildSlice, Instr.fill, h0, h1]
 go_simp
theorem bs_Sstring_9 (w : World) (x0 x1 x2 x3 x4 x5 x6 x7 x8 : Value) (h0 : x0.cells = #[x0]) (h1 : x1.cells = #[x1]) (h2 : x2.cells = #[x2]) (h3 : x3.cells = #[x3]) (h4 : x4.cells = #[x4]) (h5 : x5.cells = #[x5]) (h6 : x6.cells = #[x6]) (h7 : x7.cells = #[x7]) (h8 : x8.cells = #[x8]) : ∃ w1 g, (Instr.buildSlice 70 9 #[(0, x0), (1, x1), (2, x2), (3, x3), (4, x4), (5, x5), (6, x6), (7, x7), (8, x8)]).run Tryz.prog w = .ok (.slice (some ⟨g, 0, none⟩) 9 9) w1 ∧ w1.heap[g]? = some (.cells #[x0, x1, x2, x3, x4, x5, x6, x7, x8] 9 (0, 0)) ∧ Below w.heap.size w w1 := by
 refine ⟨w.alloc (.cells #[x0, x1, x2, x3, x4, x5, x6, x7, x8] 9), w.heap.size, ?_, heap_alloc_last w _, (Below.refl _ _).alloc (Nat.le_refl _) _⟩
 simp [Instr.buildSlice, Instr.fill, h0, h1, h2, h3, h4, h5, h6, h7, h8]
 go_simp
seal wpList in
theorem nearOrFar_any (tx : List UInt8) (w : World) (ht : tx.length ≤ 9223372036854775807) : Calls Tryz.prog 151 #[strV tx] w fun e w' => e = .returned (.bool (nof tx)) ∧ Below w.heap.size w w' := by
 have HT := hid ht
 have H1 := hid (Nat.le_trans (cut_len tx).1 ht)
 have H2 := hid (Nat.le_trans (cut_len tx).2 ht)
 clear ht
 have HB0 := hid (Below.refl w.heap.size w)
 go_enter Tryz.func151, Tryz.ntmps151
 go_upto_region 0 with fail
 refine rl ?_
 refine qv (.bool false) ?_
 simp only [nA, nB, nC]
 refine we ?_
 go_upto_region 1 with fail
 refine rl ?_
 refine qv (strV tx) ?_
 simp only [nA, nB, nC]
 rcases bt ((Lib.cut tx [46]).2.2) with Hhb1 | Hhb1
 ·refine wp_call (f := 184) (args := #[(strV tx), (strV [46])]) (by kernel_rfl) (fun w => by go_simp) ?_
  refine (cut_any tx w HT.out).mono ?_
  rintro e w2 ⟨he, hq⟩
  rw [Hhb1.out] at he
  subst he
  refine ⟨_, rfl, ?_⟩
  have HB3 := hid hq
  clear hq
  replace HB0 := kb HB0 HB3
  try simp only [Act.put, nA, nB, nC]
  refine qv (.tuple #[(strV ((Lib.cut tx [46]).1)), (strV ((Lib.cut tx [46]).2.1)), (.bool true)]) ?_
  refine qv (strV ((Lib.cut tx [46]).1)) ?_
  refine qv (strV ((Lib.cut tx [46]).2.1)) ?_
  refine qv (.bool true) ?_
  simp only [nA, nB, nC]
  refine qv (strV ((Lib.cut tx [46]).1)) ?_
  refine qv (strV ((Lib.cut tx [46]).2.1)) ?_
  refine qv (.bool true) ?_
  simp only [nA, nB, nC]
  refine we ?_
  go_upto_region 2 with fail
  refine rl ?_
  refine qv (strV ((Lib.cut tx [46]).1)) ?_
  simp only [nA, nB, nC]
  rcases bt (fre ((Lib.cut tx [46]).1)) with Hhb4 | Hhb4
  ·refine wp_call (f := 71) (args := #[(strV ((Lib.cut tx [46]).1))]) (by kernel_rfl) (fun w => by go_simp) ?_
   refine (isFree_any ((Lib.cut tx [46]).1) w2 H1.out).mono ?_
   rintro e w5 ⟨he, hq⟩
   rw [Hhb4.out] at he
   subst he
   refine ⟨_, rfl, ?_⟩
   have HB6 := hid hq
   clear hq
   replace HB0 := kb HB0 HB6
   try simp only [Act.put, nA, nB, nC]
   refine qv (.bool true) ?_
   simp only [nA, nB, nC]
   refine qg (.bool true) rfl ?_
   simp only [nA, nB, nC]
   refine wp_yg (v := (.bool false)) rfl (y_un (p := .bool true) rfl (by kernel_rfl) (by kernel_rfl) (fun w => qnotB true w)) rfl ?_
   try simp only [nA, nB, nC]
   refine qg (.bool false) rfl ?_
   simp only [nA, nB, nC]
   refine qg (strV ((Lib.cut tx [46]).2.1)) rfl ?_
   simp only [nA, nB, nC]
   rcases bt (fre ((Lib.cut tx [46]).2.1)) with Hhb7 | Hhb7
   ·refine wp_callg (f := 71) (args := #[(strV ((Lib.cut tx [46]).2.1))]) rfl (by kernel_rfl) (enter_go rfl (by kernel_rfl) (fun w => by go_simp)) ?_
    refine (isFree_any ((Lib.cut tx [46]).2.1) w5 H2.out).mono ?_
    rintro e w8 ⟨he, hq⟩
    rw [Hhb7.out] at he
    subst he
    refine ⟨_, rfl, ?_⟩
    have HB9 := hid hq
    clear hq
    replace HB0 := kb HB0 HB9
    try simp only [nA, nB, nC]
    refine qg (.bool true) rfl ?_
    simp only [nA, nB, nC]
    refine qv (.bool true) ?_
    refine qv (.bool true) ?_
    simp only [nA, nB, nC]
    refine we ?_
    go_wp2_with fail
    go_ret
    refine ⟨congrArg (fun b => Ending.returned (.bool b)) ?_, HB0.out⟩
    simp [nof, Hhb1.out, Hhb4.out, Hhb7.out]
   ·refine wp_callg (f := 71) (args := #[(strV ((Lib.cut tx [46]).2.1))]) rfl (by kernel_rfl) (enter_go rfl (by kernel_rfl) (fun w => by go_simp)) ?_
    refine (isFree_any ((Lib.cut tx [46]).2.1) w5 H2.out).mono ?_
    rintro e w10 ⟨he, hq⟩
    rw [Hhb7.out] at he
    subst he
    refine ⟨_, rfl, ?_⟩
    have HB11 := hid hq
    clear hq
    replace HB0 := kb HB0 HB11
    try simp only [nA, nB, nC]
    refine qg (.bool false) rfl ?_
    simp only [nA, nB, nC]
    refine qv (.bool false) ?_
    refine qv (.bool false) ?_
    simp only [nA, nB, nC]
    refine we ?_
    go_wp2_with fail
    go_ret
    refine ⟨congrArg (fun b => Ending.returned (.bool b)) ?_, HB0.out⟩
    simp [nof, Hhb1.out, Hhb4.out, Hhb7.out]
  ·refine wp_call (f := 71) (args := #[(strV ((Lib.cut tx [46]).1))]) (by kernel_rfl) (fun w => by go_simp) ?_
   refine (isFree_any ((Lib.cut tx [46]).1) w2 H1.out).mono ?_
   rintro e w12 ⟨he, hq⟩
   rw [Hhb4.out] at he
   subst he
   refine ⟨_, rfl, ?_⟩
   have HB13 := hid hq
   clear hq
   replace HB0 := kb HB0 HB13
   try simp only [Act.put, nA, nB, nC]
   refine qv (.bool false) ?_
   simp only [nA, nB, nC]
   refine qs rfl ?_
   simp only [nA, nB, nC]
   refine qs rfl ?_
   simp only [nA, nB, nC]
   refine qs rfl ?_
   simp only [nA, nB, nC]
   refine qs rfl ?_
   simp only [nA, nB, nC]
   refine qs rfl ?_
   simp only [nA, nB, nC]
   refine qs rfl ?_
   simp only [nA, nB, nC]
   refine qv (.bool false) ?_
   refine qv (.bool false) ?_
   simp only [nA, nB, nC]
   refine we ?_
   go_wp2_with fail
   go_ret
   refine ⟨congrArg (fun b => Ending.returned (.bool b)) ?_, HB0.out⟩
   simp [nof, Hhb1.out, Hhb4.out]
 ·refine wp_call (f := 184) (args := #[(strV tx), (strV [46])]) (by kernel_rfl) (fun w => by go_simp) ?_
  refine (cut_any tx w HT.out).mono ?_
  rintro e w14 ⟨he, hq⟩
  rw [Hhb1.out] at he
  subst he
  refine ⟨_, rfl, ?_⟩
  have HB15 := hid hq
  clear hq
  replace HB0 := kb HB0 HB15
  try simp only [Act.put, nA, nB, nC]
  refine qv (.tuple #[(strV ((Lib.cut tx [46]).1)), (strV ((Lib.cut tx [46]).2.1)), (.bool false)]) ?_
  refine qv (strV ((Lib.cut tx [46]).1)) ?_
  refine qv (strV ((Lib.cut tx [46]).2.1)) ?_
  refine qv (.bool false) ?_
  simp only [nA, nB, nC]
  refine qv (strV ((Lib.cut tx [46]).1)) ?_
  refine qv (strV ((Lib.cut tx [46]).2.1)) ?_
  refine qv (.bool false) ?_
  simp only [nA, nB, nC]
  refine we ?_
  go_upto_region 2 with fail
  refine rl ?_
  refine qv (strV ((Lib.cut tx [46]).1)) ?_
  simp only [nA, nB, nC]
  rcases bt (fre ((Lib.cut tx [46]).1)) with Hhb16 | Hhb16
  ·refine wp_call (f := 71) (args := #[(strV ((Lib.cut tx [46]).1))]) (by kernel_rfl) (fun w => by go_simp) ?_
   refine (isFree_any ((Lib.cut tx [46]).1) w14 H1.out).mono ?_
   rintro e w17 ⟨he, hq⟩
   rw [Hhb16.out] at he
   subst he
   refine ⟨_, rfl, ?_⟩
   have HB18 := hid hq
   clear hq
   replace HB0 := kb HB0 HB18
   try simp only [Act.put, nA, nB, nC]
   refine qv (.bool true) ?_
   simp only [nA, nB, nC]
   refine qg (.bool false) rfl ?_
   simp only [nA, nB, nC]
   refine wp_yg (v := (.bool true)) rfl (y_un (p := .bool false) rfl (by kernel_rfl) (by kernel_rfl) (fun w => qnotB false w)) rfl ?_
   try simp only [nA, nB, nC]
   refine qg (.bool true) rfl ?_
   simp only [nA, nB, nC]
   refine qs rfl ?_
   simp only [nA, nB, nC]
   refine qs rfl ?_
   simp only [nA, nB, nC]
   refine qg (.bool true) rfl ?_
   simp only [nA, nB, nC]
   refine qv (.bool true) ?_
   refine qv (.bool true) ?_
   simp only [nA, nB, nC]
   refine we ?_
   go_wp2_with fail
   go_ret
   refine ⟨congrArg (fun b => Ending.returned (.bool b)) ?_, HB0.out⟩
   simp [nof, Hhb1.out, Hhb16.out]
  ·refine wp_call (f := 71) (args := #[(strV ((Lib.cut tx [46]).1))]) (by kernel_rfl) (fun w => by go_simp) ?_
   refine (isFree_any ((Lib.cut tx [46]).1) w14 H1.out).mono ?_
   rintro e w19 ⟨he, hq⟩
   rw [Hhb16.out] at he
   subst he
   refine ⟨_, rfl, ?_⟩
   have HB20 := hid hq
   clear hq
   replace HB0 := kb HB0 HB20
   try simp only [Act.put, nA, nB, nC]
   refine qv (.bool false) ?_
   simp only [nA, nB, nC]
   refine qs rfl ?_
   simp only [nA, nB, nC]
   refine qs rfl ?_
   simp only [nA, nB, nC]
   refine qs rfl ?_
   simp only [nA, nB, nC]
   refine qs rfl ?_
   simp only [nA, nB, nC]
   refine qs rfl ?_
   simp only [nA, nB, nC]
   refine qs rfl ?_
   simp only [nA, nB, nC]
   refine qv (.bool false) ?_
   refine qv (.bool false) ?_
   simp only [nA, nB, nC]
   refine we ?_
   go_wp2_with fail
   go_ret
   refine ⟨congrArg (fun b => Ending.returned (.bool b)) ?_, HB0.out⟩
   simp [nof, Hhb1.out, Hhb16.out]
seal wpList in
theorem ownText_any {w : World} {v : Value} {k : Int} {tx : List UInt8} {n : Int} {kids : List Tr} {at_ : Int} (h : Nd w v (.mk k tx n kids at_)) (ht : tx.length ≤ 9223372036854775807) : Calls Tryz.prog 116 #[v] w fun e w' => e = .returned (.bool (ownT k tx)) ∧ Below w.heap.size w w' := by
 obtain ⟨a, c, rfl, -, -⟩ := h.open
 have HT := hid ht
 clear h ht
 generalize kids.length = N
 have HB0 := hid (Below.refl w.heap.size w)
 go_enter Tryz.func116, Tryz.ntmps116
 go_upto_region 0 with fail
 refine rl ?_
 obtain ⟨w3, g1, (HX : Hid _), (K2 : Hid _), (HB4 : Hid _)⟩ := box_x 24 w #[(.int .i64 k), (strV tx), (.int .i64 n), (.slice a N c), (.int .i64 at_)]
 refine wp_run (v := (.pointer (some ⟨g1, 0, none⟩))) rfl rfl (run_boxOp rfl (by kernel_rfl) HX.out) rfl ?_
 try simp only [nA, nB, nC]
 replace HB0 := kb HB0 HB4
 refine qv (.bool false) ?_
 simp only [nA, nB, nC]
 refine we ?_
 go_upto_region 1 with fail
 refine rl ?_
 refine qf (fa_api_Node_0 g1 0) ?_
 refine ql (.int .i64 k) Tryz.isAgg3 0 K2 ?_
 simp only [nA, nB, nC]
 refine we ?_
 go_upto_region 2 with fail
 refine rl ?_
 rcases bt ((k == (7 : Int))) with Hhb5 | Hhb5
 ·refine wp_y (v := (.bool true)) rfl rfl (y_bin (k := .i64) (k' := .i64) (m := k) (n := 7) rfl (hr := beql_int k 7 true Hhb5.out)) rfl ?_
  try simp only [nA, nB, nC]
  refine qv (.bool true) ?_
  simp only [nA, nB, nC]
  refine we ?_
  go_upto_region 3 with fail
  refine rl ?_
  refine qf (fa_api_Node_1 g1 0) ?_
  refine ql (strV tx) Tryz.isAgg9 1 K2 ?_
  simp only [nA, nB, nC]
  rcases bt (cur tx) with Hhb6 | Hhb6
  ·refine wp_call (f := 150) (args := #[(strV tx)]) (by kernel_rfl) (fun w => by go_simp) ?_
   refine (isCur_any tx w3 HT.out).mono ?_
   rintro e wz ⟨he, hwz⟩
   rw [Hhb6.out] at he
   subst he
   refine ⟨_, rfl, ?_⟩
   obtain rfl := hwz.symm
   try simp only [Act.put, nA, nB, nC]
   refine qv (.bool true) ?_
   simp only [nA, nB, nC]
   refine we ?_
   go_wp2_with fail
   go_ret
   refine ⟨congrArg (fun b => Ending.returned (.bool b)) ?_, HB0.out⟩
   simp [ownT, Hhb5.out, Hhb6.out]
  ·refine wp_call (f := 150) (args := #[(strV tx)]) (by kernel_rfl) (fun w => by go_simp) ?_
   refine (isCur_any tx w3 HT.out).mono ?_
   rintro e wz ⟨he, hwz⟩
   rw [Hhb6.out] at he
   subst he
   refine ⟨_, rfl, ?_⟩
   obtain rfl := hwz.symm
   try simp only [Act.put, nA, nB, nC]
   refine qv (.bool false) ?_
   simp only [nA, nB, nC]
   refine we ?_
   go_wp2_with fail
   go_ret
   refine ⟨congrArg (fun b => Ending.returned (.bool b)) ?_, HB0.out⟩
   simp [ownT, Hhb5.out, Hhb6.out]
 ·refine wp_y (v := (.bool false)) rfl rfl (y_bin (k := .i64) (k' := .i64) (m := k) (n := 7) rfl (hr := beql_int k 7 false Hhb5.out)) rfl ?_
  try simp only [nA, nB, nC]
  refine qv (.bool false) ?_
  simp only [nA, nB, nC]
  refine we ?_
  go_upto_region 4 with fail
  refine rl ?_
  rcases bt ((k == (9 : Int))) with Hhb7 | Hhb7
  ·refine wp_y (v := (.bool true)) rfl rfl (y_bin (k := .i64) (k' := .i64) (m := k) (n := 9) rfl (hr := beql_int k 9 true Hhb7.out)) rfl ?_
   try simp only [nA, nB, nC]
   refine qv (.bool true) ?_
   simp only [nA, nB, nC]
   refine we ?_
   go_upto_region 6 with fail
   refine rl ?_
   refine qf (fa_api_Node_1 g1 0) ?_
   refine ql (strV tx) Tryz.isAgg9 1 K2 ?_
   simp only [nA, nB, nC]
   rcases bt (nam tx) with Hhb8 | Hhb8
   ·refine wp_call (f := 112) (args := #[(strV tx)]) (by kernel_rfl) (fun w => by go_simp) ?_
    refine (isName_any tx w3 HT.out).mono ?_
    rintro e wz ⟨he, hwz⟩
    rw [Hhb8.out] at he
    subst he
    refine ⟨_, rfl, ?_⟩
    obtain rfl := hwz.symm
    try simp only [Act.put, nA, nB, nC]
    refine qv (.bool true) ?_
    simp only [nA, nB, nC]
    refine we ?_
    go_wp2_with fail
    go_ret
    refine ⟨congrArg (fun b => Ending.returned (.bool b)) ?_, HB0.out⟩
    simp [ownT, Hhb5.out, Hhb7.out, Hhb8.out]
   ·refine wp_call (f := 112) (args := #[(strV tx)]) (by kernel_rfl) (fun w => by go_simp) ?_
    refine (isName_any tx w3 HT.out).mono ?_
    rintro e wz ⟨he, hwz⟩
    rw [Hhb8.out] at he
    subst he
    refine ⟨_, rfl, ?_⟩
    obtain rfl := hwz.symm
    try simp only [Act.put, nA, nB, nC]
    refine qv (.bool false) ?_
    simp only [nA, nB, nC]
    refine we ?_
    go_wp2_with fail
    go_ret
    refine ⟨congrArg (fun b => Ending.returned (.bool b)) ?_, HB0.out⟩
    simp [ownT, Hhb5.out, Hhb7.out, Hhb8.out]
  ·refine wp_y (v := (.bool false)) rfl rfl (y_bin (k := .i64) (k' := .i64) (m := k) (n := 9) rfl (hr := beql_int k 9 false Hhb7.out)) rfl ?_
   try simp only [nA, nB, nC]
   refine qv (.bool false) ?_
   simp only [nA, nB, nC]
   refine we ?_
   go_upto_region 5 with fail
   refine rl ?_
   rcases bt ((k == (15 : Int))) with Hhb9 | Hhb9
   ·refine wp_y (v := (.bool true)) rfl rfl (y_bin (k := .i64) (k' := .i64) (m := k) (n := 15) rfl (hr := beql_int k 15 true Hhb9.out)) rfl ?_
    try simp only [nA, nB, nC]
    refine qv (.bool true) ?_
    simp only [nA, nB, nC]
    refine we ?_
    go_upto_region 6 with fail
    refine rl ?_
    refine qf (fa_api_Node_1 g1 0) ?_
    refine ql (strV tx) Tryz.isAgg9 1 K2 ?_
    simp only [nA, nB, nC]
    rcases bt (nam tx) with Hhb10 | Hhb10
    ·refine wp_call (f := 112) (args := #[(strV tx)]) (by kernel_rfl) (fun w => by go_simp) ?_
     refine (isName_any tx w3 HT.out).mono ?_
     rintro e wz ⟨he, hwz⟩
     rw [Hhb10.out] at he
     subst he
     refine ⟨_, rfl, ?_⟩
     obtain rfl := hwz.symm
     try simp only [Act.put, nA, nB, nC]
     refine qv (.bool true) ?_
     simp only [nA, nB, nC]
     refine we ?_
     go_wp2_with fail
     go_ret
     refine ⟨congrArg (fun b => Ending.returned (.bool b)) ?_, HB0.out⟩
     simp [ownT, Hhb10.out, Hhb5.out, Hhb7.out, Hhb9.out]
    ·refine wp_call (f := 112) (args := #[(strV tx)]) (by kernel_rfl) (fun w => by go_simp) ?_
     refine (isName_any tx w3 HT.out).mono ?_
     rintro e wz ⟨he, hwz⟩
     rw [Hhb10.out] at he
     subst he
     refine ⟨_, rfl, ?_⟩
     obtain rfl := hwz.symm
     try simp only [Act.put, nA, nB, nC]
     refine qv (.bool false) ?_
     simp only [nA, nB, nC]
     refine we ?_
     go_wp2_with fail
     go_ret
     refine ⟨congrArg (fun b => Ending.returned (.bool b)) ?_, HB0.out⟩
     simp [ownT, Hhb10.out, Hhb5.out, Hhb7.out, Hhb9.out]
   ·refine wp_y (v := (.bool false)) rfl rfl (y_bin (k := .i64) (k' := .i64) (m := k) (n := 15) rfl (hr := beql_int k 15 false Hhb9.out)) rfl ?_
    try simp only [nA, nB, nC]
    refine qv (.bool false) ?_
    simp only [nA, nB, nC]
    refine we ?_
    go_upto_region 7 with fail
    refine rl ?_
    rcases bt ((k == (10 : Int))) with Hhb11 | Hhb11
    ·refine wp_y (v := (.bool true)) rfl rfl (y_bin (k := .i64) (k' := .i64) (m := k) (n := 10) rfl (hr := beql_int k 10 true Hhb11.out)) rfl ?_
     try simp only [nA, nB, nC]
     refine qv (.bool true) ?_
     simp only [nA, nB, nC]
     refine we ?_
     go_upto_region 9 with fail
     refine rl ?_
     refine qf (fa_api_Node_1 g1 0) ?_
     refine ql (strV tx) Tryz.isAgg9 1 K2 ?_
     simp only [nA, nB, nC]
     rcases bt (nof tx) with Hhb12 | Hhb12
     ·refine wp_call (f := 151) (args := #[(strV tx)]) (by kernel_rfl) (fun w => by go_simp) ?_
      refine (nearOrFar_any tx w3 HT.out).mono ?_
      rintro e w13 ⟨he, hq⟩
      rw [Hhb12.out] at he
      subst he
      refine ⟨_, rfl, ?_⟩
      have HB14 := hid hq
      clear hq
      replace K2 := ka HB14 K2
      replace HB0 := kb HB0 HB14
      try simp only [Act.put, nA, nB, nC]
      refine qv (.bool true) ?_
      simp only [nA, nB, nC]
      refine we ?_
      go_wp2_with fail
      go_ret
      refine ⟨congrArg (fun b => Ending.returned (.bool b)) ?_, HB0.out⟩
      simp [ownT, Hhb11.out, Hhb12.out, Hhb5.out, Hhb7.out, Hhb9.out]
     ·refine wp_call (f := 151) (args := #[(strV tx)]) (by kernel_rfl) (fun w => by go_simp) ?_
      refine (nearOrFar_any tx w3 HT.out).mono ?_
      rintro e w15 ⟨he, hq⟩
      rw [Hhb12.out] at he
      subst he
      refine ⟨_, rfl, ?_⟩
      have HB16 := hid hq
      clear hq
      replace K2 := ka HB16 K2
      replace HB0 := kb HB0 HB16
      try simp only [Act.put, nA, nB, nC]
      refine qv (.bool false) ?_
      simp only [nA, nB, nC]
      refine we ?_
      go_wp2_with fail
      go_ret
      refine ⟨congrArg (fun b => Ending.returned (.bool b)) ?_, HB0.out⟩
      simp [ownT, Hhb11.out, Hhb12.out, Hhb5.out, Hhb7.out, Hhb9.out]
    ·refine wp_y (v := (.bool false)) rfl rfl (y_bin (k := .i64) (k' := .i64) (m := k) (n := 10) rfl (hr := beql_int k 10 false Hhb11.out)) rfl ?_
     try simp only [nA, nB, nC]
     refine qv (.bool false) ?_
     simp only [nA, nB, nC]
     refine we ?_
     go_upto_region 8 with fail
     refine rl ?_
     rcases bt ((k == (11 : Int))) with Hhb17 | Hhb17
     ·refine wp_y (v := (.bool true)) rfl rfl (y_bin (k := .i64) (k' := .i64) (m := k) (n := 11) rfl (hr := beql_int k 11 true Hhb17.out)) rfl ?_
      try simp only [nA, nB, nC]
      refine qv (.bool true) ?_
      simp only [nA, nB, nC]
      refine we ?_
      go_upto_region 9 with fail
      refine rl ?_
      refine qf (fa_api_Node_1 g1 0) ?_
      refine ql (strV tx) Tryz.isAgg9 1 K2 ?_
      simp only [nA, nB, nC]
      rcases bt (nof tx) with Hhb18 | Hhb18
      ·refine wp_call (f := 151) (args := #[(strV tx)]) (by kernel_rfl) (fun w => by go_simp) ?_
       refine (nearOrFar_any tx w3 HT.out).mono ?_
       rintro e w19 ⟨he, hq⟩
       rw [Hhb18.out] at he
       subst he
       refine ⟨_, rfl, ?_⟩
       have HB20 := hid hq
       clear hq
       replace K2 := ka HB20 K2
       replace HB0 := kb HB0 HB20
       try simp only [Act.put, nA, nB, nC]
       refine qv (.bool true) ?_
       simp only [nA, nB, nC]
       refine we ?_
       go_wp2_with fail
       go_ret
       refine ⟨congrArg (fun b => Ending.returned (.bool b)) ?_, HB0.out⟩
       simp [ownT, Hhb11.out, Hhb17.out, Hhb18.out, Hhb5.out, Hhb7.out, Hhb9.out]
      ·refine wp_call (f := 151) (args := #[(strV tx)]) (by kernel_rfl) (fun w => by go_simp) ?_
       refine (nearOrFar_any tx w3 HT.out).mono ?_
       rintro e w21 ⟨he, hq⟩
       rw [Hhb18.out] at he
       subst he
       refine ⟨_, rfl, ?_⟩
       have HB22 := hid hq
       clear hq
       replace K2 := ka HB22 K2
       replace HB0 := kb HB0 HB22
       try simp only [Act.put, nA, nB, nC]
       refine qv (.bool false) ?_
       simp only [nA, nB, nC]
       refine we ?_
       go_wp2_with fail
       go_ret
       refine ⟨congrArg (fun b => Ending.returned (.bool b)) ?_, HB0.out⟩
       simp [ownT, Hhb11.out, Hhb17.out, Hhb18.out, Hhb5.out, Hhb7.out, Hhb9.out]
     ·refine wp_y (v := (.bool false)) rfl rfl (y_bin (k := .i64) (k' := .i64) (m := k) (n := 11) rfl (hr := beql_int k 11 false Hhb17.out)) rfl ?_
      try simp only [nA, nB, nC]
      refine qv (.bool false) ?_
      simp only [nA, nB, nC]
      refine we ?_
      go_upto_region 10 with fail
      refine rl ?_
      rcases bt ((k == (12 : Int))) with Hhb23 | Hhb23
      ·refine wp_y (v := (.bool true)) rfl rfl (y_bin (k := .i64) (k' := .i64) (m := k) (n := 12) rfl (hr := beql_int k 12 true Hhb23.out)) rfl ?_
       try simp only [nA, nB, nC]
       refine qv (.bool true) ?_
       simp only [nA, nB, nC]
       refine we ?_
       go_upto_region 11 with fail
       refine rl ?_
       refine qf (fa_api_Node_1 g1 0) ?_
       refine ql (strV tx) Tryz.isAgg9 1 K2 ?_
       simp only [nA, nB, nC]
       obtain ⟨w26, g24, (HX : Hid _), (K25 : Hid _), (HB27 : Hid _)⟩ := bs_Sstring_2 w3 (strV [45]) (strV [110, 111, 116]) rfl rfl
       refine wp_run (v := (.slice (some ⟨g24, 0, none⟩) 2 2)) rfl rfl (run_bsOp rfl (by kernel_rfl) HX.out) rfl ?_
       try simp only [nA, nB, nC]
       replace K2 := ka HB27 K2
       replace HB0 := kb HB0 HB27
       rcases bt (decide (tx ∈ uns)) with Hhb28 | Hhb28
       ·refine wp_call (f := 113) (args := #[(strV tx), (.slice (some ⟨g24, 0, none⟩) 2 2)]) (by kernel_rfl) (fun w => by go_simp) ?_
        refine (oneOf_any (l := tx) (srs_blk (ls := uns) K25.out (by decide))).mono ?_
        rintro e wz ⟨he, hwz⟩
        rw [Hhb28.out] at he
        subst he
        refine ⟨_, rfl, ?_⟩
        obtain rfl := hwz.symm
        try simp only [Act.put, nA, nB, nC]
        refine qv (.bool true) ?_
        simp only [nA, nB, nC]
        refine we ?_
        go_wp2_with fail
        go_ret
        refine ⟨congrArg (fun b => Ending.returned (.bool b)) ?_, HB0.out⟩
        simp [ownT, Hhb11.out, Hhb17.out, Hhb23.out, Hhb28.out, Hhb5.out, Hhb7.out, Hhb9.out]
       ·refine wp_call (f := 113) (args := #[(strV tx), (.slice (some ⟨g24, 0, none⟩) 2 2)]) (by kernel_rfl) (fun w => by go_simp) ?_
        refine (oneOf_any (l := tx) (srs_blk (ls := uns) K25.out (by decide))).mono ?_
        rintro e wz ⟨he, hwz⟩
        rw [Hhb28.out] at he
        subst he
        refine ⟨_, rfl, ?_⟩
        obtain rfl := hwz.symm
        try simp only [Act.put, nA, nB, nC]
        refine qv (.bool false) ?_
        simp only [nA, nB, nC]
        refine we ?_
        go_wp2_with fail
        go_ret
        refine ⟨congrArg (fun b => Ending.returned (.bool b)) ?_, HB0.out⟩
        simp [ownT, Hhb11.out, Hhb17.out, Hhb23.out, Hhb28.out, Hhb5.out, Hhb7.out, Hhb9.out]
      ·refine wp_y (v := (.bool false)) rfl rfl (y_bin (k := .i64) (k' := .i64) (m := k) (n := 12) rfl (hr := beql_int k 12 false Hhb23.out)) rfl ?_
       try simp only [nA, nB, nC]
       refine qv (.bool false) ?_
       simp only [nA, nB, nC]
       refine we ?_
       go_upto_region 12 with fail
       refine rl ?_
       rcases bt ((k == (13 : Int))) with Hhb29 | Hhb29
       ·refine wp_y (v := (.bool true)) rfl rfl (y_bin (k := .i64) (k' := .i64) (m := k) (n := 13) rfl (hr := beql_int k 13 true Hhb29.out)) rfl ?_
        try simp only [nA, nB, nC]
        refine qv (.bool true) ?_
        simp only [nA, nB, nC]
        refine we ?_
        go_upto_region 13 with fail
        refine rl ?_
        refine qf (fa_api_Node_1 g1 0) ?_
        refine ql (strV tx) Tryz.isAgg9 1 K2 ?_
        simp only [nA, nB, nC]
        obtain ⟨w32, g30, (HX : Hid _), (K31 : Hid _), (HB33 : Hid _)⟩ := bs_Sstring_9 w3 (strV [111, 114]) (strV [97, 110, 100]) (strV [60]) (strV [60, 61]) (strV [61]) (strV [43]) (strV [45]) (strV [42]) (strV [47]) rfl rfl rfl rfl rfl rfl rfl rfl rfl
        refine wp_run (v := (.slice (some ⟨g30, 0, none⟩) 9 9)) rfl rfl (run_bsOp rfl (by kernel_rfl) HX.out) rfl ?_
        try simp only [nA, nB, nC]
        replace K2 := ka HB33 K2
        replace HB0 := kb HB0 HB33
        rcases bt (decide (tx ∈ sgns)) with Hhb34 | Hhb34
        ·refine wp_call (f := 113) (args := #[(strV tx), (.slice (some ⟨g30, 0, none⟩) 9 9)]) (by kernel_rfl) (fun w => by go_simp) ?_
         refine (oneOf_any (l := tx) (srs_blk (ls := sgns) K31.out (by decide))).mono ?_
         rintro e wz ⟨he, hwz⟩
         rw [Hhb34.out] at he
         subst he
         refine ⟨_, rfl, ?_⟩
         obtain rfl := hwz.symm
         try simp only [Act.put, nA, nB, nC]
         refine qv (.bool true) ?_
         simp only [nA, nB, nC]
         refine we ?_
         go_wp2_with fail
         go_ret
         refine ⟨congrArg (fun b => Ending.returned (.bool b)) ?_, HB0.out⟩
         simp [ownT, Hhb11.out, Hhb17.out, Hhb23.out, Hhb29.out, Hhb34.out, Hhb5.out, Hhb7.out, Hhb9.out]
        ·refine wp_call (f := 113) (args := #[(strV tx), (.slice (some ⟨g30, 0, none⟩) 9 9)]) (by kernel_rfl) (fun w => by go_simp) ?_
         refine (oneOf_any (l := tx) (srs_blk (ls := sgns) K31.out (by decide))).mono ?_
         rintro e wz ⟨he, hwz⟩
         rw [Hhb34.out] at he
         subst he
         refine ⟨_, rfl, ?_⟩
         obtain rfl := hwz.symm
         try simp only [Act.put, nA, nB, nC]
         refine qv (.bool false) ?_
         simp only [nA, nB, nC]
         refine we ?_
         go_wp2_with fail
         go_ret
         refine ⟨congrArg (fun b => Ending.returned (.bool b)) ?_, HB0.out⟩
         simp [ownT, Hhb11.out, Hhb17.out, Hhb23.out, Hhb29.out, Hhb34.out, Hhb5.out, Hhb7.out, Hhb9.out]
       ·refine wp_y (v := (.bool false)) rfl rfl (y_bin (k := .i64) (k' := .i64) (m := k) (n := 13) rfl (hr := beql_int k 13 false Hhb29.out)) rfl ?_
        try simp only [nA, nB, nC]
        refine qv (.bool false) ?_
        simp only [nA, nB, nC]
        refine we ?_
        go_upto_region 14 with fail
        refine rl ?_
        rcases bt ((k == (14 : Int))) with Hhb35 | Hhb35
        ·refine wp_y (v := (.bool true)) rfl rfl (y_bin (k := .i64) (k' := .i64) (m := k) (n := 14) rfl (hr := beql_int k 14 true Hhb35.out)) rfl ?_
         try simp only [nA, nB, nC]
         refine qv (.bool true) ?_
         simp only [nA, nB, nC]
         refine we ?_
         go_upto_region 15 with fail
         refine rl ?_
         refine qf (fa_api_Node_1 g1 0) ?_
         refine ql (strV tx) Tryz.isAgg9 1 K2 ?_
         simp only [nA, nB, nC]
         rcases bt (decide (tx = [])) with Hhb36 | Hhb36
         ·refine wp_y (v := (.bool true)) rfl rfl (y_eqlS (l := tx) (m := []) rfl (by kernel_rfl) (by kernel_rfl) (by kernel_rfl) (Hhb36.out)) rfl ?_
          try simp only [nA, nB, nC]
          refine qv (.bool true) ?_
          simp only [nA, nB, nC]
          refine we ?_
          go_wp2_with fail
          go_ret
          refine ⟨congrArg (fun b => Ending.returned (.bool b)) ?_, HB0.out⟩
          simp [ownT, Hhb11.out, Hhb17.out, Hhb23.out, Hhb29.out, Hhb35.out, Hhb36.out, Hhb5.out, Hhb7.out, Hhb9.out]
         ·refine wp_y (v := (.bool false)) rfl rfl (y_eqlS (l := tx) (m := []) rfl (by kernel_rfl) (by kernel_rfl) (by kernel_rfl) (Hhb36.out)) rfl ?_
          try simp only [nA, nB, nC]
          refine qv (.bool false) ?_
          simp only [nA, nB, nC]
          refine we ?_
          go_wp2_with fail
          go_ret
          refine ⟨congrArg (fun b => Ending.returned (.bool b)) ?_, HB0.out⟩
          simp [ownT, Hhb11.out, Hhb17.out, Hhb23.out, Hhb29.out, Hhb35.out, Hhb36.out, Hhb5.out, Hhb7.out, Hhb9.out]
        ·refine wp_y (v := (.bool false)) rfl rfl (y_bin (k := .i64) (k' := .i64) (m := k) (n := 14) rfl (hr := beql_int k 14 false Hhb35.out)) rfl ?_
         try simp only [nA, nB, nC]
         refine qv (.bool false) ?_
         simp only [nA, nB, nC]
         refine we ?_
         go_upto_region 16 with fail
         refine rl ?_
         refine qv (.bool false) ?_
         simp only [nA, nB, nC]
         refine we ?_
         go_wp2_with fail
         go_ret
         refine ⟨congrArg (fun b => Ending.returned (.bool b)) ?_, HB0.out⟩
         simp [ownT, Hhb11.out, Hhb17.out, Hhb23.out, Hhb29.out, Hhb35.out, Hhb5.out, Hhb7.out, Hhb9.out]
seal wpList in
theorem own_any {w : World} {v : Value} {k : Int} {tx : List UInt8} {n : Int} {kids : List Tr} {at_ : Int} (h : Nd w v (.mk k tx n kids at_)) (ht : tx.length ≤ 9223372036854775807) : Calls Tryz.prog 78 #[v] w fun e w' => e = .returned (.bool (own k tx n)) ∧ Below w.heap.size w w' := by
 have HN := hid h
 obtain ⟨a, c, rfl, -, -⟩ := h.open
 have HT := hid ht
 clear h ht
 generalize kids.length = N at *
 have HB0 := hid (Below.refl w.heap.size w)
 go_enter Tryz.func78, Tryz.ntmps78
 go_upto_region 0 with fail
 refine rl ?_
 obtain ⟨w3, g1, (HX : Hid _), (K2 : Hid _), (HB4 : Hid _)⟩ := box_x 24 w #[(.int .i64 k), (strV tx), (.int .i64 n), (.slice a N c), (.int .i64 at_)]
 refine wp_run (v := (.pointer (some ⟨g1, 0, none⟩))) rfl rfl (run_boxOp rfl (by kernel_rfl) HX.out) rfl ?_
 try simp only [nA, nB, nC]
 replace HB0 := kb HB0 HB4
 refine qv (.bool false) ?_
 simp only [nA, nB, nC]
 refine we ?_
 go_upto_region 1 with fail
 refine rl ?_
 refine qf (fa_api_Node_0 g1 0) ?_
 refine ql (.int .i64 k) Tryz.isAgg3 0 K2 ?_
 simp only [nA, nB, nC]
 refine we ?_
 go_upto_region 2 with fail
 refine rl ?_
 rcases bt ((k == (5 : Int))) with Hhb5 | Hhb5
 ·refine wp_y (v := (.bool true)) rfl rfl (y_bin (k := .i64) (k' := .i64) (m := k) (n := 5) rfl (hr := beql_int k 5 true Hhb5.out)) rfl ?_
  try simp only [nA, nB, nC]
  refine qv (.bool true) ?_
  simp only [nA, nB, nC]
  refine we ?_
  go_upto_region 3 with fail
  refine rl ?_
  refine qf (fa_api_Node_1 g1 0) ?_
  refine ql (strV tx) Tryz.isAgg9 1 K2 ?_
  simp only [nA, nB, nC]
  rcases bt (decide (tx = [])) with Hhb6 | Hhb6
  ·refine wp_y (v := (.bool true)) rfl rfl (y_eqlS (l := tx) (m := []) rfl (by kernel_rfl) (by kernel_rfl) (by kernel_rfl) (Hhb6.out)) rfl ?_
   try simp only [nA, nB, nC]
   refine qv (.bool true) ?_
   simp only [nA, nB, nC]
   refine wp_yg (v := (.pointer (some ⟨g1, 2, none⟩))) rfl (y_faddr rfl (hf := fa_api_Node_2 g1 0)) rfl ?_
   try simp only [nA, nB, nC]
   refine wp_yg (v := (.int .i64 n)) rfl (y_load rfl (hl := fun w' h => by rw [h]; exact load1 Tryz.isAgg2 (cell_at K2.out 2 rfl))) rfl ?_
   try simp only [nA, nB, nC]
   rcases bt (btw 0 1000000000000000 n) with Hhb7 | Hhb7
   ·refine wp_callg (f := 115) (args := #[(.int .i64 n), (.int .i64 1000000000000000)]) rfl (by kernel_rfl) (enter_go rfl (by kernel_rfl) (fun w => by go_simp)) ?_
    refine (upTo_any n 1000000000000000 w3).mono ?_
    rintro e wz ⟨he, hwz⟩
    rw [Hhb7.out] at he
    subst he
    refine ⟨_, rfl, ?_⟩
    obtain rfl := hwz.symm
    try simp only [nA, nB, nC]
    refine qv (.bool true) ?_
    refine qv (.bool true) ?_
    simp only [nA, nB, nC]
    refine we ?_
    go_wp2_with fail
    go_ret
    refine ⟨congrArg (fun b => Ending.returned (.bool b)) ?_, HB0.out⟩
    simp [own, Hhb5.out, Hhb6.out, Hhb7.out]
   ·refine wp_callg (f := 115) (args := #[(.int .i64 n), (.int .i64 1000000000000000)]) rfl (by kernel_rfl) (enter_go rfl (by kernel_rfl) (fun w => by go_simp)) ?_
    refine (upTo_any n 1000000000000000 w3).mono ?_
    rintro e wz ⟨he, hwz⟩
    rw [Hhb7.out] at he
    subst he
    refine ⟨_, rfl, ?_⟩
    obtain rfl := hwz.symm
    try simp only [nA, nB, nC]
    refine qv (.bool false) ?_
    refine qv (.bool false) ?_
    simp only [nA, nB, nC]
    refine we ?_
    go_wp2_with fail
    go_ret
    refine ⟨congrArg (fun b => Ending.returned (.bool b)) ?_, HB0.out⟩
    simp [own, Hhb5.out, Hhb6.out, Hhb7.out]
  ·refine wp_y (v := (.bool false)) rfl rfl (y_eqlS (l := tx) (m := []) rfl (by kernel_rfl) (by kernel_rfl) (by kernel_rfl) (Hhb6.out)) rfl ?_
   try simp only [nA, nB, nC]
   refine qv (.bool false) ?_
   simp only [nA, nB, nC]
   refine qs rfl ?_
   simp only [nA, nB, nC]
   refine qs rfl ?_
   simp only [nA, nB, nC]
   refine qs rfl ?_
   simp only [nA, nB, nC]
   refine qv (.bool false) ?_
   refine qv (.bool false) ?_
   simp only [nA, nB, nC]
   refine we ?_
   go_wp2_with fail
   go_ret
   refine ⟨congrArg (fun b => Ending.returned (.bool b)) ?_, HB0.out⟩
   simp [own, Hhb5.out, Hhb6.out]
 ·refine wp_y (v := (.bool false)) rfl rfl (y_bin (k := .i64) (k' := .i64) (m := k) (n := 5) rfl (hr := beql_int k 5 false Hhb5.out)) rfl ?_
  try simp only [nA, nB, nC]
  refine qv (.bool false) ?_
  simp only [nA, nB, nC]
  refine we ?_
  go_upto_region 4 with fail
  refine rl ?_
  rcases bt ((k == (6 : Int))) with Hhb8 | Hhb8
  ·refine wp_y (v := (.bool true)) rfl rfl (y_bin (k := .i64) (k' := .i64) (m := k) (n := 6) rfl (hr := beql_int k 6 true Hhb8.out)) rfl ?_
   try simp only [nA, nB, nC]
   refine qv (.bool true) ?_
   simp only [nA, nB, nC]
   refine we ?_
   go_upto_region 5 with fail
   refine rl ?_
   refine qf (fa_api_Node_1 g1 0) ?_
   refine ql (strV tx) Tryz.isAgg9 1 K2 ?_
   simp only [nA, nB, nC]
   rcases bt (decide (tx = [])) with Hhb9 | Hhb9
   ·refine wp_y (v := (.bool true)) rfl rfl (y_eqlS (l := tx) (m := []) rfl (by kernel_rfl) (by kernel_rfl) (by kernel_rfl) (Hhb9.out)) rfl ?_
    try simp only [nA, nB, nC]
    refine qv (.bool true) ?_
    simp only [nA, nB, nC]
    refine wp_yg (v := (.pointer (some ⟨g1, 2, none⟩))) rfl (y_faddr rfl (hf := fa_api_Node_2 g1 0)) rfl ?_
    try simp only [nA, nB, nC]
    refine wp_yg (v := (.int .i64 n)) rfl (y_load rfl (hl := fun w' h => by rw [h]; exact load1 Tryz.isAgg2 (cell_at K2.out 2 rfl))) rfl ?_
    try simp only [nA, nB, nC]
    rcases bt (btw 0 73048 n) with Hhb10 | Hhb10
    ·refine wp_callg (f := 115) (args := #[(.int .i64 n), (.int .i64 73048)]) rfl (by kernel_rfl) (enter_go rfl (by kernel_rfl) (fun w => by go_simp)) ?_
     refine (upTo_any n 73048 w3).mono ?_
     rintro e wz ⟨he, hwz⟩
     rw [Hhb10.out] at he
     subst he
     refine ⟨_, rfl, ?_⟩
     obtain rfl := hwz.symm
     try simp only [nA, nB, nC]
     refine qv (.bool true) ?_
     refine qv (.bool true) ?_
     simp only [nA, nB, nC]
     refine we ?_
     go_wp2_with fail
     go_ret
     refine ⟨congrArg (fun b => Ending.returned (.bool b)) ?_, HB0.out⟩
     simp [own, Hhb10.out, Hhb5.out, Hhb8.out, Hhb9.out]
    ·refine wp_callg (f := 115) (args := #[(.int .i64 n), (.int .i64 73048)]) rfl (by kernel_rfl) (enter_go rfl (by kernel_rfl) (fun w => by go_simp)) ?_
     refine (upTo_any n 73048 w3).mono ?_
     rintro e wz ⟨he, hwz⟩
     rw [Hhb10.out] at he
     subst he
     refine ⟨_, rfl, ?_⟩
     obtain rfl := hwz.symm
     try simp only [nA, nB, nC]
     refine qv (.bool false) ?_
     refine qv (.bool false) ?_
     simp only [nA, nB, nC]
     refine we ?_
     go_wp2_with fail
     go_ret
     refine ⟨congrArg (fun b => Ending.returned (.bool b)) ?_, HB0.out⟩
     simp [own, Hhb10.out, Hhb5.out, Hhb8.out, Hhb9.out]
   ·refine wp_y (v := (.bool false)) rfl rfl (y_eqlS (l := tx) (m := []) rfl (by kernel_rfl) (by kernel_rfl) (by kernel_rfl) (Hhb9.out)) rfl ?_
    try simp only [nA, nB, nC]
    refine qv (.bool false) ?_
    simp only [nA, nB, nC]
    refine qs rfl ?_
    simp only [nA, nB, nC]
    refine qs rfl ?_
    simp only [nA, nB, nC]
    refine qs rfl ?_
    simp only [nA, nB, nC]
    refine qv (.bool false) ?_
    refine qv (.bool false) ?_
    simp only [nA, nB, nC]
    refine we ?_
    go_wp2_with fail
    go_ret
    refine ⟨congrArg (fun b => Ending.returned (.bool b)) ?_, HB0.out⟩
    simp [own, Hhb5.out, Hhb8.out, Hhb9.out]
  ·refine wp_y (v := (.bool false)) rfl rfl (y_bin (k := .i64) (k' := .i64) (m := k) (n := 6) rfl (hr := beql_int k 6 false Hhb8.out)) rfl ?_
   try simp only [nA, nB, nC]
   refine qv (.bool false) ?_
   simp only [nA, nB, nC]
   refine we ?_
   go_upto_region 6 with fail
   refine rl ?_
   rcases bt ((k == (8 : Int))) with Hhb11 | Hhb11
   ·refine wp_y (v := (.bool true)) rfl rfl (y_bin (k := .i64) (k' := .i64) (m := k) (n := 8) rfl (hr := beql_int k 8 true Hhb11.out)) rfl ?_
    try simp only [nA, nB, nC]
    refine qv (.bool true) ?_
    simp only [nA, nB, nC]
    refine we ?_
    go_upto_region 7 with fail
    refine rl ?_
    refine qf (fa_api_Node_1 g1 0) ?_
    refine ql (strV tx) Tryz.isAgg9 1 K2 ?_
    simp only [nA, nB, nC]
    rcases bt (decide (tx = [])) with Hhb12 | Hhb12
    ·refine wp_y (v := (.bool true)) rfl rfl (y_eqlS (l := tx) (m := []) rfl (by kernel_rfl) (by kernel_rfl) (by kernel_rfl) (Hhb12.out)) rfl ?_
     try simp only [nA, nB, nC]
     refine qv (.bool true) ?_
     simp only [nA, nB, nC]
     refine wp_yg (v := (.pointer (some ⟨g1, 2, none⟩))) rfl (y_faddr rfl (hf := fa_api_Node_2 g1 0)) rfl ?_
     try simp only [nA, nB, nC]
     refine wp_yg (v := (.int .i64 n)) rfl (y_load rfl (hl := fun w' h => by rw [h]; exact load1 Tryz.isAgg2 (cell_at K2.out 2 rfl))) rfl ?_
     try simp only [nA, nB, nC]
     rcases bt (btw 0 1 n) with Hhb13 | Hhb13
     ·refine wp_callg (f := 115) (args := #[(.int .i64 n), (.int .i64 1)]) rfl (by kernel_rfl) (enter_go rfl (by kernel_rfl) (fun w => by go_simp)) ?_
      refine (upTo_any n 1 w3).mono ?_
      rintro e wz ⟨he, hwz⟩
      rw [Hhb13.out] at he
      subst he
      refine ⟨_, rfl, ?_⟩
      obtain rfl := hwz.symm
      try simp only [nA, nB, nC]
      refine qv (.bool true) ?_
      refine qv (.bool true) ?_
      simp only [nA, nB, nC]
      refine we ?_
      go_wp2_with fail
      go_ret
      refine ⟨congrArg (fun b => Ending.returned (.bool b)) ?_, HB0.out⟩
      simp [own, Hhb11.out, Hhb12.out, Hhb13.out, Hhb5.out, Hhb8.out]
     ·refine wp_callg (f := 115) (args := #[(.int .i64 n), (.int .i64 1)]) rfl (by kernel_rfl) (enter_go rfl (by kernel_rfl) (fun w => by go_simp)) ?_
      refine (upTo_any n 1 w3).mono ?_
      rintro e wz ⟨he, hwz⟩
      rw [Hhb13.out] at he
      subst he
      refine ⟨_, rfl, ?_⟩
      obtain rfl := hwz.symm
      try simp only [nA, nB, nC]
      refine qv (.bool false) ?_
      refine qv (.bool false) ?_
      simp only [nA, nB, nC]
      refine we ?_
      go_wp2_with fail
      go_ret
      refine ⟨congrArg (fun b => Ending.returned (.bool b)) ?_, HB0.out⟩
      simp [own, Hhb11.out, Hhb12.out, Hhb13.out, Hhb5.out, Hhb8.out]
    ·refine wp_y (v := (.bool false)) rfl rfl (y_eqlS (l := tx) (m := []) rfl (by kernel_rfl) (by kernel_rfl) (by kernel_rfl) (Hhb12.out)) rfl ?_
     try simp only [nA, nB, nC]
     refine qv (.bool false) ?_
     simp only [nA, nB, nC]
     refine qs rfl ?_
     simp only [nA, nB, nC]
     refine qs rfl ?_
     simp only [nA, nB, nC]
     refine qs rfl ?_
     simp only [nA, nB, nC]
     refine qv (.bool false) ?_
     refine qv (.bool false) ?_
     simp only [nA, nB, nC]
     refine we ?_
     go_wp2_with fail
     go_ret
     refine ⟨congrArg (fun b => Ending.returned (.bool b)) ?_, HB0.out⟩
     simp [own, Hhb11.out, Hhb12.out, Hhb5.out, Hhb8.out]
   ·refine wp_y (v := (.bool false)) rfl rfl (y_bin (k := .i64) (k' := .i64) (m := k) (n := 8) rfl (hr := beql_int k 8 false Hhb11.out)) rfl ?_
    try simp only [nA, nB, nC]
    refine qv (.bool false) ?_
    simp only [nA, nB, nC]
    refine we ?_
    go_upto_region 8 with fail
    refine rl ?_
    refine qf (fa_api_Node_2 g1 0) ?_
    refine ql (.int .i64 n) Tryz.isAgg2 2 K2 ?_
    simp only [nA, nB, nC]
    rcases bt ((n == (0 : Int))) with Hhb14 | Hhb14
    ·refine wp_y (v := (.bool true)) rfl rfl (y_bin (k := .i64) (k' := .i64) (m := n) (n := 0) rfl (hr := beql_int64 n 0 true Hhb14.out)) rfl ?_
     try simp only [nA, nB, nC]
     refine qv (.bool true) ?_
     simp only [nA, nB, nC]
     refine wp_yg (v := (nv k tx n (.slice a N c) at_)) rfl (y_load rfl (hl := fun w' h => by rw [h]; exact load_blk Tryz.isAgg24 (by kernel_rfl) rfl K2.out)) rfl ?_
     try simp only [nA, nB, nC]
     rcases bt (ownT k tx) with Hhb15 | Hhb15
     ·refine wp_callg (f := 116) (args := #[(nv k tx n (.slice a N c) at_)]) rfl (by kernel_rfl) (enter_go rfl (by kernel_rfl) (fun w => by go_simp)) ?_
      refine (ownText_any (HN.out.later HB0.out) HT.out).mono ?_
      rintro e w16 ⟨he, hq⟩
      rw [Hhb15.out] at he
      subst he
      refine ⟨_, rfl, ?_⟩
      have HB17 := hid hq
      clear hq
      replace K2 := ka HB17 K2
      replace HB0 := kb HB0 HB17
      try simp only [nA, nB, nC]
      refine qv (.bool true) ?_
      refine qv (.bool true) ?_
      simp only [nA, nB, nC]
      refine we ?_
      go_wp2_with fail
      go_ret
      refine ⟨congrArg (fun b => Ending.returned (.bool b)) ?_, HB0.out⟩
      simp [own, Hhb11.out, Hhb14.out, Hhb15.out, Hhb5.out, Hhb8.out]
     ·refine wp_callg (f := 116) (args := #[(nv k tx n (.slice a N c) at_)]) rfl (by kernel_rfl) (enter_go rfl (by kernel_rfl) (fun w => by go_simp)) ?_
      refine (ownText_any (HN.out.later HB0.out) HT.out).mono ?_
      rintro e w18 ⟨he, hq⟩
      rw [Hhb15.out] at he
      subst he
      refine ⟨_, rfl, ?_⟩
      have HB19 := hid hq
      clear hq
      replace K2 := ka HB19 K2
      replace HB0 := kb HB0 HB19
      try simp only [nA, nB, nC]
      refine qv (.bool false) ?_
      refine qv (.bool false) ?_
      simp only [nA, nB, nC]
      refine we ?_
      go_wp2_with fail
      go_ret
      refine ⟨congrArg (fun b => Ending.returned (.bool b)) ?_, HB0.out⟩
      simp [own, Hhb11.out, Hhb14.out, Hhb15.out, Hhb5.out, Hhb8.out]
    ·refine wp_y (v := (.bool false)) rfl rfl (y_bin (k := .i64) (k' := .i64) (m := n) (n := 0) rfl (hr := beql_int64 n 0 false Hhb14.out)) rfl ?_
     try simp only [nA, nB, nC]
     refine qv (.bool false) ?_
     simp only [nA, nB, nC]
     refine qs rfl ?_
     simp only [nA, nB, nC]
     refine qs rfl ?_
     simp only [nA, nB, nC]
     refine qv (.bool false) ?_
     refine qv (.bool false) ?_
     simp only [nA, nB, nC]
     refine we ?_
     go_wp2_with fail
     go_ret
     refine ⟨congrArg (fun b => Ending.returned (.bool b)) ?_, HB0.out⟩
     simp [own, Hhb11.out, Hhb14.out, Hhb5.out, Hhb8.out]
theorem infB : ∃ j, Tryz.prog.info? 58 = some j ∧ j.size = 2 := by
 have h : (Tryz.prog.info? 58).map (·.size) = some 2 := by kernel_rfl
 obtain ⟨j, hj, hs⟩ := Option.map_eq_some_iff.1 h
 exact ⟨j, hj, hs⟩
theorem cv1 (p : Nat) (w : World) (hs : w.shape? p = some (58, 2)) : (convert 55 229 (.pointer (some ⟨p, 0, none⟩))).run Tryz.prog w = .ok (.pointer (some ⟨p, 0, none⟩)) w := by
 obtain ⟨j, hj, hjs⟩ := infB
 exact Lib.run_to_unsafe w ⟨p, 0, none⟩ (by kernel_rfl) (by kernel_rfl) hj (by rw [hjs]; decide) hs (Nat.zero_lt_succ 1)
theorem cv2 (p : Nat) (w : World) (hs : w.shape? p = some (58, 2)) : (convert 229 55 (.pointer (some ⟨p, 0, none⟩))).run Tryz.prog w = .ok (.pointer (some ⟨p, 0, none⟩)) w := by
 obtain ⟨j, hj, hjs⟩ := infB
 exact Lib.run_from_unsafe w ⟨p, 0, none⟩ (by kernel_rfl) (by kernel_rfl) hj hs (by kernel_rfl)
theorem ne1 (p : Nat) (w : World) : (callFunc 262 #[.pointer (some ⟨p, 0, none⟩)]).run Tryz.prog w = .ok (.value (.pointer (some ⟨p, 0, none⟩))) w := by
 rw [run_callFunc_extern Tryz.func262 (by kernel_rfl) (by kernel_rfl) (by kernel_rfl) (e := Extern.AbiNoEscape.same) (by kernel_rfl), Lib.run_noEscape]
 rfl
theorem pe0 (w : World) : (binOp .eql 55 (.pointer none) (.pointer none)).run Tryz.prog w = .ok (.bool true) w := by go_simp
theorem pe1 (p : Nat) (w : World) : (binOp .eql 55 (.pointer (some ⟨p, 0, none⟩)) (.pointer none)).run Tryz.prog w = .ok (.bool false) w := by go_simp
theorem pe2 (p : Nat) (w : World) : (binOp .neq 55 (.pointer (some ⟨p, 0, none⟩)) (.pointer (some ⟨p, 0, none⟩))).run Tryz.prog w = .ok (.bool false) w := by
 obtain ⟨j, hj, _⟩ := infB
 exact Lib.run_neq_ptr_same w _ (by kernel_rfl) hj
theorem fa_strings_Builder_0 (b o : Nat) (w : World) : (Instr.fieldAt 58 (.pointer (some ⟨b, o, none⟩)) 0).run Tryz.prog w = .ok (.pointer (some ⟨b, o, none⟩)) w := by go_simp
theorem fa_strings_Builder_1 (b o : Nat) (w : World) : (Instr.fieldAt 58 (.pointer (some ⟨b, o, none⟩)) 1).run Tryz.prog w = .ok (.pointer (some ⟨b, o + 1, none⟩)) w := by go_simp
theorem y_binP {ops : Array Oper} {S : World → Prop} {o : Oper} {a : Act} {x y : Operand} {t t' : TypeId} {bo : BinOp} {p q : Option Addr} {v : Value} (hop : o.op = .binOp bo t x y t') (hw : Region.wanted o (yielded ops a.tmps) = true) (hx : a.eval x = .pointer p) (hy : a.eval y = .pointer q) (hr : ∀ w, (binOp bo t (.pointer p) (.pointer q)).run Tryz.prog w = .ok v w) : YieldsIf Tryz.prog ops S o v a :=
 .inl ⟨hw, fun w _ => by
  unfold execOp; rw [hop]; simp only [hx, hy, Sem.run_bind]
  have : (eqGuard bo t x y (.pointer p) (.pointer q)).run Tryz.prog w = .ok () w := by
   unfold eqGuard; cases bo <;> rfl
  rw [this]; simp only [Result.andThen_ok, hr w]; rfl⟩
theorem y_cnvW {ops : Array Oper} {S : World → Prop} {o : Oper} {a : Act} {x : Operand} {s t : TypeId} {p v : Value} (hop : o.op = .convert s t x) (hw : Region.wanted o (yielded ops a.tmps) = true) (hx : a.eval x = p) (hr : ∀ w, S w → (convert s t p).run Tryz.prog w = .ok v w) : YieldsIf Tryz.prog ops S o v a :=
 .inl ⟨hw, fun w h => by unfold execOp; rw [hop]; simp [hx, hr w h]⟩
theorem y_ext1 {ops : Array Oper} {S : World → Prop} {o : Oper} {a : Act} {f : FuncId} {xs : Array Operand} {ats : Array TypeId} {args : Array Value} {v : Value} (hop : o.op = .call { callee := .value (.func f), args := xs, argTypes := ats }) (hw : Region.wanted o (yielded ops a.tmps) = true) (hxs : #[] ++ xs.map a.eval ++ #[] = args) (hr : ∀ w, (callFunc f args).run Tryz.prog w = .ok (.value v) w) : YieldsIf Tryz.prog ops S o v a :=
 .inl ⟨hw, fun w _ => by
  have e : execOp a.eval o = callFunc f (#[] ++ xs.map a.eval ++ #[]) := by unfold execOp; rw [hop]; rfl
  rw [e, hxs, hr w]⟩
theorem run_appS {o : Oper} {a : Act} {w w1 : World} {t u : TypeId} {x y : Operand} {p q v : Value} (hop : o.op = .call { callee := .builtin .append, args := #[x, y], argTypes := #[t, u] }) (hx : a.eval x = p) (hy : a.eval y = q) (hr : (Builtin.append_ #[t, u] o.type #[p, q]).run Tryz.prog w = .ok v w1) :
  (execOp a.eval o).run Tryz.prog w = .ok (.value v) w1 := by
 unfold execOp
 simp only [hop, resolve, invoke, builtin, Sem.run_bind, Sem.run_pure, Result.andThen_ok, List.map_toArray, List.map_cons, List.map_nil, hx, hy, hr]
theorem inf5 : ∃ i, Tryz.prog.info? 5 = some i ∧ i.zero = some (.int .u8 0) ∧ i.size = 1 ∧ i.bytes = 1 := info_parts (by kernel_rfl)
theorem size56 (w : World) : (Go.sizeOf 56).run Tryz.prog w = .ok 1 w := run_size (by kernel_rfl) w
theorem sizePB (w : World) : (Go.sizeOf 55).run Tryz.prog w = .ok 1 w := run_size (by kernel_rfl) w
theorem strCells_list (s : List UInt8) : Lib.strCells ⟨s.toArray⟩ = Lib.byteCells s := by simp [Lib.strCells, Lib.byteCells]
theorem byteCells_app (a b : List UInt8) : Lib.byteCells (a ++ b) = Lib.byteCells a ++ Lib.byteCells b := by simp [Lib.byteCells]
theorem byteCells_len (a : List UInt8) : (Lib.byteCells a).length = a.length := by simp [Lib.byteCells]
seal wpList in
theorem cc_fresh (p : Nat) (w : World) (c0 : w.cell? ⟨p, 0, none⟩ = some (.pointer none)) (hs : w.shape? p = some (58, 2)) (f0 : w.frozen? ⟨p, 0, none⟩ = false) :
  Calls Tryz.prog 261 #[.pointer (some ⟨p, 0, none⟩)] w fun e w' => e = .returned (.tuple #[]) ∧ w' = w.setCell ⟨p, 0, none⟩ (.pointer (some ⟨p, 0, none⟩)) := by
 have C0 := hid c0
 have HS := hid hs
 have F0 := hid f0
 clear c0 hs f0
 go_enter Tryz.func261, Tryz.ntmps261
 go_upto_region 0 with fail
 refine rl ?_
 refine qv (.pointer (some ⟨p, 0, none⟩)) ?_
 refine qv (.pointer (some ⟨p, 0, none⟩)) ?_
 refine qf (fa_strings_Builder_0 p 0) ?_
 simp only [nA, nB, nC]
 refine wp_y (v := (.pointer none)) rfl rfl (y_load rfl (hl := fun w' h => by rw [h]; exact load1 Tryz.isAgg55 C0.out)) rfl ?_
 simp only [nA, nB, nC]
 refine wp_y (v := (.bool true)) rfl rfl (y_binP rfl (by kernel_rfl) (by kernel_rfl) (by kernel_rfl) (fun w => pe0 w)) rfl ?_
 simp only [nA, nB, nC]
 refine we ?_
 go_upto_region 1 with fail
 refine rl ?_
 refine qv (.pointer (some ⟨p, 0, none⟩)) ?_
 refine qv (.pointer (some ⟨p, 0, none⟩)) ?_
 simp only [nA, nB, nC]
 refine wp_y (v := (.pointer (some ⟨p, 0, none⟩))) rfl rfl (y_cnvW rfl (by kernel_rfl) (by kernel_rfl) (fun w' h => by rw [h]; exact cv1 p _ HS.out)) rfl ?_
 simp only [nA, nB, nC]
 refine wp_y (v := (.pointer (some ⟨p, 0, none⟩))) rfl rfl (y_ext1 rfl (by kernel_rfl) (by kernel_rfl) (ne1 p)) rfl ?_
 simp only [nA, nB, nC]
 refine wp_y (v := (.pointer (some ⟨p, 0, none⟩))) rfl rfl (y_cnvW rfl (by kernel_rfl) (by kernel_rfl) (fun w' h => by rw [h]; exact cv2 p _ HS.out)) rfl ?_
 simp only [nA, nB, nC]
 refine qv (.pointer (some ⟨p, 0, none⟩)) ?_
 refine qf (fa_strings_Builder_0 p 0) ?_
 simp only [nA, nB, nC]
 refine wp_do rfl rfl (run_storeOp rfl (by kernel_rfl) (by kernel_rfl) (store1 sizePB (.pointer (some ⟨p, 0, none⟩)) rfl rfl C0.out F0.out)) ?_
 try simp only [nA, nB, nC]
 refine we ?_
 go_wp2_with fail
 exact bodyPost_end (results_none rfl _ _ _) rfl ⟨rfl, rfl⟩
seal wpList in
theorem cc_used (p : Nat) (w : World) (c0 : w.cell? ⟨p, 0, none⟩ = some (.pointer (some ⟨p, 0, none⟩))) :
  Calls Tryz.prog 261 #[.pointer (some ⟨p, 0, none⟩)] w fun e w' => e = .returned (.tuple #[]) ∧ w' = w := by
 have C0 := hid c0
 clear c0
 go_enter Tryz.func261, Tryz.ntmps261
 go_upto_region 0 with fail
 refine rl ?_
 refine qv (.pointer (some ⟨p, 0, none⟩)) ?_
 refine qv (.pointer (some ⟨p, 0, none⟩)) ?_
 refine qf (fa_strings_Builder_0 p 0) ?_
 simp only [nA, nB, nC]
 refine wp_y (v := (.pointer (some ⟨p, 0, none⟩))) rfl rfl (y_load rfl (hl := fun w' h => by rw [h]; exact load1 Tryz.isAgg55 C0.out)) rfl ?_
 simp only [nA, nB, nC]
 refine wp_y (v := (.bool false)) rfl rfl (y_binP rfl (by kernel_rfl) (by kernel_rfl) (by kernel_rfl) (fun w => pe1 p w)) rfl ?_
 simp only [nA, nB, nC]
 refine we ?_
 go_upto_region 2 with fail
 refine rl ?_
 refine qv (.pointer (some ⟨p, 0, none⟩)) ?_
 refine qv (.pointer (some ⟨p, 0, none⟩)) ?_
 refine qf (fa_strings_Builder_0 p 0) ?_
 simp only [nA, nB, nC]
 refine wp_y (v := (.pointer (some ⟨p, 0, none⟩))) rfl rfl (y_load rfl (hl := fun w' h => by rw [h]; exact load1 Tryz.isAgg55 C0.out)) rfl ?_
 simp only [nA, nB, nC]
 refine qv (.pointer (some ⟨p, 0, none⟩)) ?_
 simp only [nA, nB, nC]
 refine wp_y (v := (.bool false)) rfl rfl (y_binP rfl (by kernel_rfl) (by kernel_rfl) (by kernel_rfl) (fun w => pe2 p w)) rfl ?_
 simp only [nA, nB, nC]
 refine we ?_
 go_wp2_with fail
 exact bodyPost_end (results_none rfl _ _ _) rfl ⟨rfl, rfl⟩
theorem cc_any {B p : Nat} {bs : List Value} {w : World} (h : Lib.IsBuilderF 58 5 B p bs w) : Calls Tryz.prog 261 #[.pointer (some ⟨p, 0, none⟩)] w fun e w' => e = .returned (.tuple #[]) ∧ Lib.BuilderAtF 58 5 B p (.pointer (some ⟨p, 0, none⟩)) bs w' ∧ Below B w w' ∧ Lib.OthersKept 5 (some p) w w' := by
 rcases h with h | h
 ·refine (cc_fresh p w h.cell0 h.shape h.frozen0).mono fun e w' h' => ?_
  obtain ⟨rfl, rfl⟩ := h'
  exact ⟨rfl, h.used _, (Below.refl B w).setCell (p := ⟨p, 0, none⟩) h.1 _, (Lib.OthersKept.refl _ _ w).setCell ⟨p, 0, none⟩ rfl _⟩
 ·refine (cc_used p w h.cell0).mono fun e w' h' => ?_
  obtain ⟨rfl, rfl⟩ := h'
  exact ⟨rfl, h, Below.refl B _, Lib.OthersKept.refl _ _ _⟩
theorem ws_step {B p : Nat} {l s : List UInt8} {w : World} (h : Lib.BuilderAtF 58 5 B p (.pointer (some ⟨p, 0, none⟩)) (Lib.byteCells l) w) (hlen : l.length + s.length ≤ 140737488355328) (hBw : B ≤ w.heap.size) :
  ∃ v v' w1, w.cell? ⟨p, 1, none⟩ = some v ∧ (∀ ty, (Builtin.append_ #[56, 9] ty #[v, strV s]).run Tryz.prog w = .ok v' w1) ∧ w1.cell? ⟨p, 1, none⟩ = some v ∧ w1.frozen? ⟨p, 1, none⟩ = false ∧ v'.oneCell' = true ∧ v'.cells = #[v'] ∧
   Lib.IsBuilderF 58 5 B p (Lib.byteCells (l ++ s)) (w1.setCell ⟨p, 1, none⟩ v') ∧ Below B w (w1.setCell ⟨p, 1, none⟩ v') ∧ Lib.OthersKept 5 (some p) w (w1.setCell ⟨p, 1, none⟩ v') := by
 obtain ⟨hB, v, hbk, hown, hne⟩ := h
 obtain ⟨i, hi, hz0, hz1, hz2⟩ := inf5
 have hsz : (⟨s.toArray⟩ : ByteArray).size = s.length := size_strV s
 have hll : (Lib.byteCells l).length = l.length := byteCells_len l
 have key := fun ty => Lib.run_append_own_stringF (P := Tryz.prog) w B 56 9 ty 5 i (by kernel_rfl) (by kernel_rfl) hi hz0 hz1 hz2 v _ _ hown ⟨s.toArray⟩ (by unfold maxLen; omega) (by omega) hBw
 obtain ⟨v', w1, h1, h2, h3, -⟩ := key 0
 have hlt : p < w.heap.size := heap_lt hbk
 have hb1 : w1.heap[p]? = some (.cells #[.pointer (some ⟨p, 0, none⟩), v] 58 (0, 0)) := by rw [h3.block p hlt (fun e => hne e.symm)]; exact hbk
 have hv' : ∃ ao n' cap, v' = .slice ao n' cap := by
  rcases h2.2 with ⟨hv, _⟩ | ⟨g, cap, cur, fz, hv, _⟩
  ·exact ⟨_, _, _, hv⟩
  ·exact ⟨_, _, _, hv⟩
 refine ⟨v, v', w1, cell_at hbk 1 rfl, fun ty => ?_, cell_at hb1 1 rfl, open_at hb1 1, ?_, ?_, ?_, ?_, ?_⟩
 ·exact h1
 ·obtain ⟨_, _, _, rfl⟩ := hv'; rfl
 ·obtain ⟨_, _, _, rfl⟩ := hv'; rfl
 ·refine .inr (Lib.BuilderAtF.put hB hb1 (bs' := Lib.byteCells (l ++ s)) ?_ (by decide))
  rw [byteCells_app, ← strCells_list s, List.length_append, Lib.strCells_length]
  exact h2
 ·exact ((Below.refl B w).grown h3 hBw (fun k hk => (hown.lt k hk).1)).setCell (p := ⟨p, 1, none⟩) hB _
 ·exact ((Lib.OthersKept.refl _ _ w).grown h3 (Lib.ownsRowF_kind hown)).setCell ⟨p, 1, none⟩ rfl _
seal wpList in
theorem writeString_any {B p : Nat} {l : List UInt8} (s : List UInt8) {w : World} (h : Lib.IsBuilderF 58 5 B p (Lib.byteCells l) w) (hlen : l.length + s.length ≤ 140737488355328) (hBw : B ≤ w.heap.size) :
  Calls Tryz.prog 260 #[.pointer (some ⟨p, 0, none⟩), strV s] w fun e w' => e = .returned (.tuple #[.int .i64 (s.length : Nat), .nilIface]) ∧ Lib.IsBuilderF 58 5 B p (Lib.byteCells (l ++ s)) w' ∧ Below B w w' ∧ Lib.OthersKept 5 (some p) w w' := by
 have HI := hid h
 have HL := hid hlen
 have HW := hid hBw
 clear h hlen hBw
 go_enter Tryz.func260, Tryz.ntmps260
 go_upto_region 0 with fail
 refine rl ?_
 refine qv (.int .i64 0) ?_
 refine qv .nilIface ?_
 simp only [nA, nB, nC]
 refine we ?_
 go_upto_region 1 with fail
 refine rl ?_
 refine qv (.pointer (some ⟨p, 0, none⟩)) ?_
 simp only [nA, nB, nC]
 refine qc #[(.pointer (some ⟨p, 0, none⟩))] ?_
 refine (cc_any HI.out).mono ?_
 rintro e w1 ⟨rfl, hq⟩
 refine ⟨_, rfl, ?_⟩
 obtain ⟨h1, h2, h3⟩ := hq
 obtain ⟨v, v', w9, e1, e2, e3, e4, e5, e6, e7, e8, e9⟩ := ws_step (s := s) h1 HL.out (Nat.le_trans HW.out h2.size)
 have HC := hid e1
 have HA := hid e2
 have HC9 := hid e3
 have HF9 := hid e4
 have HO := hid e5
 have HO2 := hid e6
 have HE : Hid (Lib.IsBuilderF 58 5 B p (Lib.byteCells (l ++ s)) (w9.setCell ⟨p, 1, none⟩ v') ∧ Below B w (w9.setCell ⟨p, 1, none⟩ v') ∧ Lib.OthersKept 5 (some p) w (w9.setCell ⟨p, 1, none⟩ v')) := hid ⟨e7, h2.trans e8, h3.trans e9⟩
 clear h1 h2 h3 e1 e2 e3 e4 e5 e6 e7 e8 e9
 try simp only [Act.put, nA, nB, nC]
 refine we ?_
 go_upto_region 2 with fail
 refine rl ?_
 refine qv (.pointer (some ⟨p, 0, none⟩)) ?_
 refine qv (.pointer (some ⟨p, 0, none⟩)) ?_
 refine qv (.pointer (some ⟨p, 0, none⟩)) ?_
 refine qf (fa_strings_Builder_1 p 0) ?_
 simp only [nA, nB, nC]
 refine wp_y (v := v) rfl rfl (y_load rfl (hl := fun w' h => by rw [h]; exact load1 Tryz.isAgg56 HC.out)) rfl ?_
 simp only [nA, nB, nC]
 refine qv (strV s) ?_
 simp only [nA, nB, nC]
 refine wp_run (v := v') rfl rfl (run_appS rfl (by kernel_rfl) (by kernel_rfl) (HA.out _)) rfl ?_
 try simp only [nA, nB, nC]
 refine qv (.pointer (some ⟨p, 0, none⟩)) ?_
 refine qf (fa_strings_Builder_1 p 0) ?_
 simp only [nA, nB, nC]
 refine wp_do rfl rfl (run_storeOp rfl (by kernel_rfl) (by kernel_rfl) (store1 size56 _ HO.out HO2.out HC9.out HF9.out)) ?_
 try simp only [nA, nB, nC]
 refine we ?_
 go_upto_region 3 with fail
 refine rl ?_
 refine qv (strV s) ?_
 simp only [nA, nB, nC]
 refine wp_y (v := (.int .i64 ((s.length : Nat)))) rfl rfl (y_lenS (s := ⟨(s).toArray⟩) rfl (by kernel_rfl) (by kernel_rfl) (size_strV (s))) rfl ?_
 simp only [nA, nB, nC]
 refine qv (.int .i64 ((s.length : Nat))) ?_
 refine qv .nilIface ?_
 simp only [nA, nB, nC]
 refine we ?_
 go_wp2_with fail
 go_ret2
 exact ⟨rfl, HE.out⟩
inductive Wr where
 | word (s : List UInt8)
 | list (h : List UInt8) (ps : List Wr)
 | unary (s : List UInt8) (k : Wr)
 | binary (s : List UInt8) (a b : Wr)
 | choice (a b c : Wr)
 | row (ps : List Wr)
 | rows (ps : List Wr)
theorem Wr.ind {P : Wr → Prop} (h1 : ∀ s, P (.word s)) (h2 : ∀ h ps, (∀ x ∈ ps, P x) → P (.list h ps)) (h3 : ∀ s k, P k → P (.unary s k)) (h4 : ∀ s a b, P a → P b → P (.binary s a b)) (h5 : ∀ a b c, P a → P b → P c → P (.choice a b c))
  (h6 : ∀ ps, (∀ x ∈ ps, P x) → P (.row ps)) (h7 : ∀ ps, (∀ x ∈ ps, P x) → P (.rows ps)) (x : Wr) : P x :=
 match x with
 | .word s => h1 s
 | .list h ps => h2 h ps fun x _ => Wr.ind h1 h2 h3 h4 h5 h6 h7 x
 | .unary s k => h3 s k (Wr.ind h1 h2 h3 h4 h5 h6 h7 k)
 | .binary s a b => h4 s a b (Wr.ind h1 h2 h3 h4 h5 h6 h7 a) (Wr.ind h1 h2 h3 h4 h5 h6 h7 b)
 | .choice a b c => h5 a b c (Wr.ind h1 h2 h3 h4 h5 h6 h7 a) (Wr.ind h1 h2 h3 h4 h5 h6 h7 b) (Wr.ind h1 h2 h3 h4 h5 h6 h7 c)
 | .row ps => h6 ps fun x _ => Wr.ind h1 h2 h3 h4 h5 h6 h7 x
 | .rows ps => h7 ps fun x _ => Wr.ind h1 h2 h3 h4 h5 h6 h7 x
termination_by SizeOf.sizeOf x
decreasing_by
 all_goals (try (have := List.sizeOf_lt_of_mem (by assumption : x ∈ ps)))
 all_goals (simp only [Wr.list.sizeOf_spec, Wr.unary.sizeOf_spec, Wr.binary.sizeOf_spec, Wr.choice.sizeOf_spec, Wr.row.sizeOf_spec, Wr.rows.sizeOf_spec]; omega)
def Wr.isOp : Wr → Bool
 | .unary .. => true
 | .binary .. => true
 | .choice .. => true
 | _ => false
def prn (b : Bool) (l : List UInt8) : List UInt8 := bif b then [40] ++ l ++ [41] else l
mutual
def fw : Wr → List UInt8
 | .word s => s
 | .list h ps => h ++ [40] ++ fwl true ps ++ [41]
 | .unary s k => s ++ prn k.isOp (fw k)
 | .binary s a b => prn a.isOp (fw a) ++ [32] ++ s ++ [32] ++ prn b.isOp (fw b)
 | .choice a b c => [105, 102, 32] ++ fw a ++ [32, 116, 104, 101, 110, 32] ++ fw b ++ [32, 101, 108, 115, 101, 32] ++ fw c
 | .row ps => fws ps ++ [59, 10]
 | .rows ps => fws ps
def fws : List Wr → List UInt8
 | [] => []
 | x :: r => fw x ++ fws r
def fwl : Bool → List Wr → List UInt8
 | _, [] => []
 | b, x :: r => (bif b then [] else [44, 32]) ++ fw x ++ fwl false r
end
theorem fws_snoc : ∀ (xs : List Wr) (x : Wr), fws (xs ++ [x]) = fws xs ++ fw x
 | [], x => by simp [fws]
 | y :: r, x => by rw [List.cons_append, fws, fws, fws_snoc r x, List.append_assoc]
theorem fwl_snoc : ∀ (b : Bool) (xs : List Wr) (x : Wr), fwl b (xs ++ [x]) = fwl b xs ++ (bif b && xs.isEmpty then [] else [44, 32]) ++ fw x
 | b, [], x => by cases b <;> simp [fwl]
 | b, y :: r, x => by rw [List.cons_append, fwl, fwl, fwl_snoc false r x]; simp
theorem fws_take {xs : List Wr} {i : Nat} {x : Wr} (h : xs[i]? = some x) : fws (xs.take (i + 1)) = fws (xs.take i) ++ fw x := by rw [take_next h, fws_snoc]
theorem fws_le : ∀ (xs : List Wr) (i : Nat), (fws (xs.take i)).length ≤ (fws xs).length
 | [], i => by simp [fws]
 | y :: r, 0 => by simp [fws]
 | y :: r, i + 1 => by simp only [List.take_succ_cons, fws, List.length_append]; have := fws_le r i; omega
theorem fwl_le : ∀ (b : Bool) (xs : List Wr) (i : Nat), (fwl b (xs.take i)).length ≤ (fwl b xs).length
 | _, [], i => by simp [fwl]
 | _, y :: r, 0 => by simp [fwl]
 | b, y :: r, i + 1 => by simp only [List.take_succ_cons, fwl, List.length_append]; have := fwl_le false r i; omega
def Kpw (w w' : World) : Prop := ∀ (b : Nat) (cs : Array Value) (z : Nat × Nat), w.heap[b]? = some (.cells cs 36 z) → w'.heap[b]? = some (.cells cs 36 z)
inductive Wv (w : World) : Value → Wr → Prop
 | word (s : List UInt8) : Wv w (.iface 64 (strV s)) (.word s)
 | list (h : List UInt8) (ps : List Wr) (a : Option Addr) (c : Nat) (vs : Nat → Value) (hl : ps.length ≤ 9223372036854775807)
   (hc : ∀ i, i < ps.length → ∃ b o cs z, a = some ⟨b, o, none⟩ ∧ w.heap[b]? = some (.cells cs 36 z) ∧ cs[o + i]? = some (vs i)) (hk : ∀ i x, ps[i]? = some x → Wv w (vs i) x) : Wv w (.iface 123 (.agg #[strV h, .slice a ps.length c])) (.list h ps)
 | unary (s : List UInt8) (k : Wr) (v : Value) (h : Wv w v k) : Wv w (.iface 130 (.agg #[strV s, v])) (.unary s k)
 | binary (s : List UInt8) (x y : Wr) (v u : Value) (h : Wv w v x) (h' : Wv w u y) : Wv w (.iface 132 (.agg #[strV s, v, u])) (.binary s x y)
 | choice (x y z : Wr) (v u t : Value) (h : Wv w v x) (h' : Wv w u y) (h'' : Wv w t z) : Wv w (.iface 134 (.agg #[v, u, t])) (.choice x y z)
 | row (ps : List Wr) (a : Option Addr) (c : Nat) (vs : Nat → Value) (hl : ps.length ≤ 9223372036854775807)
   (hc : ∀ i, i < ps.length → ∃ b o cs z, a = some ⟨b, o, none⟩ ∧ w.heap[b]? = some (.cells cs 36 z) ∧ cs[o + i]? = some (vs i)) (hk : ∀ i x, ps[i]? = some x → Wv w (vs i) x) : Wv w (.iface 66 (.slice a ps.length c)) (.row ps)
 | rows (ps : List Wr) (a : Option Addr) (c : Nat) (vs : Nat → Value) (hl : ps.length ≤ 9223372036854775807)
   (hc : ∀ i, i < ps.length → ∃ b o cs z, a = some ⟨b, o, none⟩ ∧ w.heap[b]? = some (.cells cs 36 z) ∧ cs[o + i]? = some (vs i)) (hk : ∀ i x, ps[i]? = some x → Wv w (vs i) x) : Wv w (.iface 67 (.slice a ps.length c)) (.rows ps)
theorem Wv.keep {w w' : World} {v : Value} {x : Wr} (h : Wv w v x) (hK : Kpw w w') : Wv w' v x := by
 induction h with
 | word s => exact .word s
 | list h ps a c vs hl hc hk ih => exact .list h ps a c vs hl (fun i hi => by obtain ⟨b, o, cs, z, e, hb, hg⟩ := hc i hi; exact ⟨b, o, cs, z, e, hK _ _ _ hb, hg⟩) ih
 | unary s k v h ih => exact .unary s k v ih
 | binary s x y v u h h' ih ih' => exact .binary s x y v u ih ih'
 | choice x y z v u t h h' h'' ih ih' ih'' => exact .choice x y z v u t ih ih' ih''
 | row ps a c vs hl hc hk ih => exact .row ps a c vs hl (fun i hi => by obtain ⟨b, o, cs, z, e, hb, hg⟩ := hc i hi; exact ⟨b, o, cs, z, e, hK _ _ _ hb, hg⟩) ih
 | rows ps a c vs hl hc hk ih => exact .rows ps a c vs hl (fun i hi => by obtain ⟨b, o, cs, z, e, hb, hg⟩ := hc i hi; exact ⟨b, o, cs, z, e, hK _ _ _ hb, hg⟩) ih
theorem Wv.cl {w : World} {v : Value} {x : Wr} (h : Wv w v x) : v.cells = #[v] := by cases h <;> rfl
def Ws (w : World) (sv : Value) (xs : List Wr) : Prop := ∃ a c, sv = .slice a xs.length c ∧ xs.length ≤ 9223372036854775807 ∧ ∀ i x, xs[i]? = some x → ∃ b o cs z v, a = some ⟨b, o, none⟩ ∧ w.heap[b]? = some (.cells cs 36 z) ∧ cs[o + i]? = some v ∧ Wv w v x
theorem Ws.keep {w w' : World} {v : Value} {xs : List Wr} (h : Ws w v xs) (hK : Kpw w w') : Ws w' v xs := by
 obtain ⟨a, c, e, hl, h⟩ := h
 refine ⟨a, c, e, hl, fun i x hx => ?_⟩
 obtain ⟨b, o, cs, z, v, e, hb, hg, hv⟩ := h i x hx
 exact ⟨b, o, cs, z, v, e, hK _ _ _ hb, hg, hv.keep hK⟩
theorem Ws.mk' {w : World} {ps : List Wr} {a : Option Addr} {c : Nat} {vs : Nat → Value} (hl : ps.length ≤ 9223372036854775807)
   (hc : ∀ i, i < ps.length → ∃ b o cs z, a = some ⟨b, o, none⟩ ∧ w.heap[b]? = some (.cells cs 36 z) ∧ cs[o + i]? = some (vs i)) (hk : ∀ i x, ps[i]? = some x → Wv w (vs i) x) : Ws w (.slice a ps.length c) ps := by
 refine ⟨a, c, rfl, hl, fun i x hx => ?_⟩
 obtain ⟨b, o, cs, z, e, hb, hg⟩ := hc i (List.getElem?_eq_some_iff.1 hx).1
 exact ⟨b, o, cs, z, _, e, hb, hg, hk i x hx⟩
theorem kpw_below {w w' : World} (hB : Below w.heap.size w w') : Kpw w w' := fun _ _ _ h => below_at hB h (heap_lt h)
abbrev IsB (B : Nat) (w : World) (p : Nat) (l : List UInt8) : Prop := Lib.IsBuilderF 58 5 B p (Lib.byteCells l) w
abbrev OkP (p : Nat) (w w' : World) : Prop := Lib.OthersKept 5 (some p) w w'
theorem IsB.heap {B p : Nat} {w : World} {l : List UInt8} (h : IsB B w p l) : ∃ c, w.heap[p]? = some (.cells c 58 (0, 0)) := by
 rcases h with ⟨_, v, h, _⟩ | ⟨_, v, h, _⟩ <;> exact ⟨_, h⟩
theorem ok_at {B p : Nat} {w w' : World} {l : List UInt8} (hO : OkP p w w') (hI : IsB B w p l) {g : Nat} {c : Array Value} {t : TypeId} {z : Nat × Nat} (h : w.heap[g]? = some (.cells c t z)) (h1 : t ≠ 58) (h2 : t ≠ 5) : w'.heap[g]? = some (.cells c t z) := by
 refine hO g _ h (fun e => ?_) (fun c' fz e => ?_)
 ·obtain ⟨c', hp⟩ := hI.heap
  cases e
  rw [hp] at h
  cases h
  exact h1 rfl
 ·cases e
  exact h2 rfl
theorem kpw_ok {B p : Nat} {w w' : World} {l : List UInt8} (hO : OkP p w w') (hI : IsB B w p l) : Kpw w w' := fun _ _ _ h => ok_at hO hI h (by decide) (by decide)
theorem ok_below {p : Nat} {w w' : World} (hB : Below w.heap.size w w') : OkP p w w' := fun _ _ hk _ _ => below_at hB hk (heap_lt hk)
theorem ownsF_below {w w' : World} {B : Nat} {e : TypeId} {v : Value} {n : Nat} {xs : List Value} (h : w.ownsRowF B e 1 v n xs) (hB : Below w.heap.size w w') : w'.ownsRowF B e 1 v n xs := by
 refine ⟨h.1, ?_⟩
 rcases h.2 with h | ⟨g, cap, cur, fz, a, b, hg, r⟩
 ·exact .inl h
 ·exact .inr ⟨g, cap, cur, fz, a, b, below_at hB hg (heap_lt hg), r⟩
theorem IsB.below {B p : Nat} {w w' : World} {l : List UInt8} (h : IsB B w p l) (hB : Below w.heap.size w w') : IsB B w' p l := by
 rcases h with ⟨a, v, h, ho, hn⟩ | ⟨a, v, h, ho, hn⟩
 ·exact .inl ⟨a, v, below_at hB h (heap_lt h), ownsF_below ho hB, hn⟩
 ·exact .inr ⟨a, v, below_at hB h (heap_lt h), ownsF_below ho hB, hn⟩
def WOk (x : Wr) : Prop := ∀ (B p : Nat) (l : List UInt8) (w : World) (v : Value), Wv w v x → IsB B w p l → l.length + (fw x).length ≤ 140737488355328 → B ≤ w.heap.size →
 ∃ T pv f args, v = .iface T pv ∧ (∀ w', (callMethod v "usance/show.write" #[.pointer (some ⟨p, 0, none⟩)]).run Tryz.prog w' = .ok (.enter f args) w') ∧
  Calls Tryz.prog f args w fun e w' => e = .returned (.tuple #[]) ∧ IsB B w' p (l ++ fw x) ∧ Below B w w' ∧ OkP p w w'
theorem cm_word (v p : Value) (w : World) : (callMethod (.iface 64 v) "usance/show.write" #[p]).run Tryz.prog w = .ok (.enter 259 #[v, p]) w := by kernel_rfl
theorem cm_list (v p : Value) (w : World) : (callMethod (.iface 123 v) "usance/show.write" #[p]).run Tryz.prog w = .ok (.enter 266 #[v, p]) w := by kernel_rfl
theorem cm_unary (v p : Value) (w : World) : (callMethod (.iface 130 v) "usance/show.write" #[p]).run Tryz.prog w = .ok (.enter 267 #[v, p]) w := by kernel_rfl
theorem cm_binary (v p : Value) (w : World) : (callMethod (.iface 132 v) "usance/show.write" #[p]).run Tryz.prog w = .ok (.enter 269 #[v, p]) w := by kernel_rfl
theorem cm_choice (v p : Value) (w : World) : (callMethod (.iface 134 v) "usance/show.write" #[p]).run Tryz.prog w = .ok (.enter 270 #[v, p]) w := by kernel_rfl
theorem cm_row (v p : Value) (w : World) : (callMethod (.iface 66 v) "usance/show.write" #[p]).run Tryz.prog w = .ok (.enter 263 #[v, p]) w := by kernel_rfl
theorem cm_rows (v p : Value) (w : World) : (callMethod (.iface 67 v) "usance/show.write" #[p]).run Tryz.prog w = .ok (.enter 265 #[v, p]) w := by kernel_rfl
theorem idx_w (b o n cap k : Nat) (h : k < n) (w : World) : (Instr.indexAt 65 (.slice (some ⟨b, o, none⟩) n cap) (.int .i64 k)).run Tryz.prog w = .ok (.pointer (some ⟨b, o + k, none⟩)) w := by go_simp
theorem ws_blk {w : World} {g c : Nat} {xs : List Wr} {cs : Array Value} {z : Nat × Nat} (hl : xs.length ≤ 9223372036854775807) (h : w.heap[g]? = some (.cells cs 36 z)) (hv : ∀ (i : Nat) (x : Wr), xs[i]? = some x → ∃ v, cs[i]? = some v ∧ Wv w v x) : Ws w (.slice (some ⟨g, 0, none⟩) xs.length c) xs := by
 refine ⟨_, _, rfl, hl, fun i x hx => ?_⟩
 obtain ⟨v, hc, hw⟩ := hv i x hx
 exact ⟨g, 0, cs, z, v, rfl, h, by rw [Nat.zero_add]; exact hc, hw⟩
theorem wrap_next {j N : Nat} (h : j < N) (hN : N ≤ 9223372036854775807) : IntKind.i64.wrap (((j : Nat) : Int) + 1) = ((j + 1 : Nat) : Int) := by
 rw [IntWalk.i64_in _ ⟨by omega, by omega⟩]; omega
theorem bs_Sshow_writer_2 (w : World) (x0 x1 : Value) (h0 : x0.cells = #[x0]) (h1 : x1.cells = #[x1]) : ∃ w1 g, (Instr.buildSlice 65 2 #[(0, x0), (1, x1)]).run Tryz.prog w = .ok (.slice (some ⟨g, 0, none⟩) 2 2) w1 ∧ w1.heap[g]? = some (.cells #[x0, x1] 36 (0, 0)) ∧ Below w.heap.size w w1 := by
 refine ⟨w.alloc (.cells #[x0, x1] 36), w.heap.size, ?_, heap_alloc_last w _, (Below.refl _ _).alloc (Nat.le_refl _) _⟩
 simp [Instr.buildSlice, Instr.fill, h0, h1]
 go_simp
theorem bs_Sshow_writer_3 (w : World) (x0 x1 x2 : Value) (h0 : x0.cells = #[x0]) (h1 : x1.cells = #[x1]) (h2 : x2.cells = #[x2]) : ∃ w1 g, (Instr.buildSlice 65 3 #[(0, x0), (1, x1), (2, x2)]).run Tryz.prog w = .ok (.slice (some ⟨g, 0, none⟩) 3 3) w1 ∧ w1.heap[g]? = some (.cells #[x0, x1, x2] 36 (0, 0)) ∧ Below w.heap.size w w1 := by
 refine ⟨w.alloc (.cells #[x0, x1, x2] 36), w.heap.size, ?_, heap_alloc_last w _, (Below.refl _ _).alloc (Nat.le_refl _) _⟩
 simp [Instr.buildSlice, Instr.fill, h0, h1, h2]
 go_simp
theorem bs_Sshow_writer_6 (w : World) (x0 x1 x2 x3 x4 x5 : Value) (h0 : x0.cells = #[x0]) (h1 : x1.cells = #[x1]) (h2 : x2.cells = #[x2]) (h3 : x3.cells = #[x3]) (h4 : x4.cells = #[x4]) (h5 : x5.cells = #[x5]) : ∃ w1 g, (Instr.buildSlice 65 6 #[(0, x0), (1, x1), (2, x2), (3, x3), (4, x4), (5, x5)]).run Tryz.prog w = .ok (.slice (some ⟨g, 0, none⟩) 6 6) w1 ∧ w1.heap[g]? = some (.cells #[x0, x1, x2, x3, x4, x5] 36 (0, 0)) ∧ Below w.heap.size w w1 := by
 refine ⟨w.alloc (.cells #[x0, x1, x2, x3, x4, x5] 36), w.heap.size, ?_, heap_alloc_last w _, (Below.refl _ _).alloc (Nat.le_refl _) _⟩
 simp [Instr.buildSlice, Instr.fill, h0, h1, h2, h3, h4, h5]
 go_simp
seal wpList in
theorem write_word (s : List UInt8) {B p : Nat} {l : List UInt8} {w : World} (hI : IsB B w p l) (hlen : l.length + (s).length ≤ 140737488355328) (hBw : B ≤ w.heap.size) : Calls Tryz.prog 259 #[strV s, .pointer (some ⟨p, 0, none⟩)] w fun e w' => e = .returned (.tuple #[]) ∧ IsB B w' p (l ++ s) ∧ Below B w w' ∧ OkP p w w' := by
 have HB0 : Hid (Below B w w) := hid (Below.refl _ _)
 have HO : Hid (OkP p w w) := hid (Lib.OthersKept.refl _ _ _)
 have HI := hid hI
 have HW := hid hBw
 have HL := hid hlen
 clear hI hBw hlen
 go_enter Tryz.func259, Tryz.ntmps259
 go_upto_region 0 with fail
 refine rl ?_
 refine qv (.pointer (some ⟨p, 0, none⟩)) ?_
 refine qv (strV s) ?_
 simp only [nA, nB, nC]
 refine qc #[(.pointer (some ⟨p, 0, none⟩)), (strV s)] ?_
 refine (writeString_any s HI.out (by have := HL.out; (try simp only [fw, prn, List.length_append, List.length_cons, List.length_nil, cond_true, cond_false] at this); (try simp only [fw, prn, List.length_append, List.length_cons, List.length_nil, cond_true, cond_false]); omega) (Nat.le_trans HW.out HB0.out.size)).mono ?_
 rintro e w1 ⟨rfl, hq⟩
 refine ⟨_, rfl, ?_⟩
 obtain ⟨hi, hb, ho⟩ := hq
 replace HB0 := hid (HB0.out.trans hb)
 replace HO := hid (HO.out.trans ho)
 replace HI := hid hi
 clear hi hb ho
 try simp only [Act.put, nA, nB, nC]
 refine we ?_
 go_wp2_with fail
 exact bodyPost_end (results_none rfl _ _ _) rfl ⟨rfl, by have := HI.out; simpa [fw, prn] using this, HB0.out, HO.out⟩
theorem write_okw (s : List UInt8) : WOk (.word s) := fun B p l w v hv hI hlen hBw => by
 cases hv
 exact ⟨_, _, _, _, rfl, cm_word _ _, by have := write_word s hI (by simpa [fw] using hlen) hBw; simpa [fw] using this⟩
seal wpList in
theorem writeAll_any {B p : Nat} {l : List UInt8} {w : World} {sv : Value} {xs : List Wr} (hs : Ws w sv xs) (hx : ∀ x ∈ xs, WOk x) (hI : IsB B w p l) (hlen : l.length + (fws xs).length ≤ 140737488355328) (hBw : B ≤ w.heap.size) : Calls Tryz.prog 264 #[.pointer (some ⟨p, 0, none⟩), sv] w fun e w' => e = .returned (.tuple #[]) ∧ IsB B w' p (l ++ fws xs) ∧ Below B w w' ∧ OkP p w w' := by
 obtain ⟨a, c, rfl, hl, hs⟩ := hs
 have HX := hid hx
 obtain ⟨N, hN⟩ : ∃ N, xs.length = N := ⟨_, rfl⟩
 rw [hN] at hl ⊢
 have HN := hid hN
 have HM := hid hl
 have HI0 := hid hI
 have HB0 : Hid (Below B w w) := hid (Below.refl _ _)
 have HO : Hid (OkP p w w) := hid (Lib.OthersKept.refl _ _ _)
 have HI := hid hI
 have HW := hid hBw
 have HL := hid hlen
 clear hI hBw hlen
 have HS : Hid (∀ wr, OkP p w wr → ∀ i x, xs[i]? = some x → ∃ b o cs z v, a = some ⟨b, o, none⟩ ∧ wr.heap[b]? = some (.cells cs 36 z) ∧ cs[o + i]? = some v ∧ Wv wr v x) := hid (fun wr ho i x hx => by
   obtain ⟨b, o, cs, z, v, e, hb, hc, hv⟩ := hs i x hx
   exact ⟨b, o, cs, z, v, e, kpw_ok ho HI0.out _ _ _ hb, hc, hv.keep (kpw_ok ho HI0.out)⟩)
 clear hs hx hl hN HI0
 go_enter Tryz.func264, Tryz.ntmps264
 go_upto_region 0 with fail
 refine rl ?_
 refine qv (.slice a N c) ?_
 simp only [nA, nB, nC]
 refine wp_y (v := (.int .i64 ((N : Nat)))) rfl rfl (y_lenT len_Sshow_writer (p := a) (n := N) (c := c) rfl (by kernel_rfl) (by kernel_rfl)) rfl ?_
 simp only [nA, nB, nC]
 refine qv (.int .i64 0) ?_
 simp only [nA, nB, nC]
 refine we ?_
 go_wp2_with fail
 go_loopw [8] (fun v8 wr => ∃ j : Nat, j ≤ N ∧ v8 = .int .i64 j ∧ IsB B wr p (l ++ fws (xs.take j)) ∧ Below B w wr ∧ OkP p w wr) (fun v8 _ => N - (intOf v8).toNat)
 case atStart =>
  exact ⟨0, Nat.zero_le _, rfl, by simpa [fws] using HI.out, HB0.out, HO.out⟩
 case round =>
  obtain ⟨j, hj, rfl, hI, hB, hO⟩ := hrel
  clear HI HB0 HO
  have HI := hid hI
  have HB0 := hid hB
  have HO := hid hO
  have HJJ := hid hj
  clear hI hB hO hj
  go_upto_region 1 with fail
  refine rl ?_
  rcases bt (decide (((j : Nat) : Int) < ((N : Nat) : Int))) with Hhb1 | Hhb1
  ·have hlt : j < N := by have := of_decide_eq_true Hhb1.out; omega
   obtain ⟨x, hx⟩ : ∃ x, xs[j]? = some x := ⟨_, List.getElem?_eq_getElem (by rw [HN.out]; exact hlt)⟩
   obtain ⟨b, o, cs, z, v, rfl, hb, hc, hv⟩ := HS.out wr HO.out j x hx
   have HLT := hid hlt
   have HCE := hid (cell_at hb (o + j) hc)
   have HV := hid hv
   have HXX := hid (HX.out x (List.mem_of_getElem? hx))
   have HJ := hid hx
   have HS1 := hid (wrap_next hlt HM.out)
   have HLX : Hid ((l ++ fws (xs.take j)).length + (fw x).length ≤ 140737488355328) := hid (by have h1 := HL.out; have h2 := fws_le xs (j + 1); rw [fws_take hx] at h2; simp only [List.length_append] at h2 ⊢; omega)
   clear hlt hx hb hc hv
   refine qb (blss_int ((j : Nat) : Int) ((N : Nat) : Int) true Hhb1.out) ?_
   simp only [nA, nB, nC]
   refine we ?_
   go_upto_region 2 with fail
   refine rl ?_
   refine wp_y (v := (.pointer (some ⟨b, o + j, none⟩))) rfl rfl (y_index rfl (hr := idx_w b o N c j HLT.out)) rfl ?_
   simp only [nA, nB, nC]
   refine wp_y (v := v) rfl rfl (y_load rfl (hl := fun w' h => by rw [h]; exact load1 Tryz.isAgg36 HCE.out)) rfl ?_
   simp only [nA, nB, nC]
   refine qv v ?_
   simp only [nA, nB, nC]
   refine we ?_
   go_upto_region 3 with fail
   refine rl ?_
   refine qv v ?_
   refine qv (.pointer (some ⟨p, 0, none⟩)) ?_
   simp only [nA, nB, nC]
   obtain ⟨T, pv, f1, args1, -, hen, hca⟩ := HXX.out B p _ _ _ HV.out HI.out (by simpa using HLX.out) (Nat.le_trans HW.out HB0.out.size)
   have HEN := hid hen
   have HCA := hid hca
   clear hen hca
   refine wp_calle (f := f1) (args := args1) rfl rfl (enter_inv rfl (by kernel_rfl) (by kernel_rfl) HEN.out) ?_
   refine (HCA.out).mono ?_
   rintro e w2 ⟨rfl, hq⟩
   refine ⟨_, rfl, ?_⟩
   obtain ⟨hi, hb, ho⟩ := hq
   replace HV := hid (HV.out.keep (kpw_ok ho HI.out))
   replace HB0 := hid (HB0.out.trans hb)
   replace HO := hid (HO.out.trans ho)
   replace HI := hid hi
   clear hi hb ho
   try simp only [nA, nB, nC]
   refine we ?_
   go_upto_region 4 with fail
   refine rl ?_
   refine qb (badd_int ((j : Nat) : Int) 1 ((j + 1 : Nat) : Int) HS1.out) ?_
   refine qv (.int .i64 (((j + 1 : Nat) : Int))) ?_
   simp only [nA, nB, nC]
   refine we ?_
   go_wp2_with fail
   exact ⟨⟨j + 1, HLT.out, rfl, by rw [fws_take HJ.out, ← List.append_assoc]; exact HI.out, HB0.out, HO.out⟩, by have := HLT.out; simp [intOf]; omega⟩
  ·have hlt : j = N := by have := of_decide_eq_false Hhb1.out; have := HJJ.out; omega
   have HI2 : Hid (IsB B wr p (l ++ fws xs)) := hid (by have := HI.out; rw [hlt, List.take_of_length_le (by rw [HN.out]; exact Nat.le_refl _)] at this; exact this)
   clear hlt
   refine qb (blss_int ((j : Nat) : Int) ((N : Nat) : Int) false Hhb1.out) ?_
   simp only [nA, nB, nC]
   refine we ?_
   go_wp2_with fail
   exact bodyPost_end (results_none rfl _ _ _) rfl ⟨rfl, HI2.out, HB0.out, HO.out⟩
def Wr.ty : Wr → TypeId
 | .word .. => 64
 | .list .. => 123
 | .unary .. => 130
 | .binary .. => 132
 | .choice .. => 134
 | .row .. => 66
 | .rows .. => 67
theorem Wv.ty {w : World} {v : Value} {x : Wr} (h : Wv w v x) : ∃ pv, v = .iface x.ty pv := by cases h <;> exact ⟨_, rfl⟩
seal wpList in
theorem writeOperand_word {B p : Nat} {l : List UInt8} {w : World} {pv : Value} {x : Wr} (hop : x.isOp = false) (hv : Wv w (.iface 64 pv) x) (hx : WOk x) (hI : IsB B w p l) (hlen : l.length + (prn x.isOp (fw x)).length ≤ 140737488355328) (hBw : B ≤ w.heap.size) : Calls Tryz.prog 268 #[.pointer (some ⟨p, 0, none⟩), .iface 64 pv] w fun e w' => e = .returned (.tuple #[]) ∧ IsB B w' p (l ++ prn x.isOp (fw x)) ∧ Below B w w' ∧ OkP p w w' := by
 have HV := hid hv
 have HXX := hid hx
 have HOP := hid hop
 clear hv hx hop
 have HB0 : Hid (Below B w w) := hid (Below.refl _ _)
 have HO : Hid (OkP p w w) := hid (Lib.OthersKept.refl _ _ _)
 have HI := hid hI
 have HW := hid hBw
 have HL := hid hlen
 clear hI hBw hlen
 go_enter Tryz.func268, Tryz.ntmps268
 go_upto_region 0 with fail
 refine rl ?_
 refine qv (.iface 64 pv) ?_
 simp only [nA, nB, nC]
 refine we ?_
 go_upto_region 2 with fail
 refine rl ?_
 refine wp_y (v := (.tuple #[(.agg #[(strV []), .nilIface]), (.bool false)])) rfl rfl (y_ta (p := (.iface 64 pv)) rfl (by kernel_rfl) (by kernel_rfl) (fun w => by kernel_rfl)) rfl ?_
 simp only [nA, nB, nC]
 refine qv (.bool false) ?_
 refine qv (.agg #[(strV []), .nilIface]) ?_
 simp only [nA, nB, nC]
 refine wp_y (v := (.tuple #[(.agg #[(strV []), .nilIface, .nilIface]), (.bool false)])) rfl rfl (y_ta (p := (.iface 64 pv)) rfl (by kernel_rfl) (by kernel_rfl) (fun w => by kernel_rfl)) rfl ?_
 simp only [nA, nB, nC]
 refine qv (.bool false) ?_
 refine qv (.agg #[(strV []), .nilIface, .nilIface]) ?_
 simp only [nA, nB, nC]
 refine wp_y (v := (.tuple #[(.agg #[.nilIface, .nilIface, .nilIface]), (.bool false)])) rfl rfl (y_ta (p := (.iface 64 pv)) rfl (by kernel_rfl) (by kernel_rfl) (fun w => by kernel_rfl)) rfl ?_
 simp only [nA, nB, nC]
 refine qv (.bool false) ?_
 refine qv (.agg #[.nilIface, .nilIface, .nilIface]) ?_
 refine qv (.bool false) ?_
 refine qv (.bool false) ?_
 simp only [nA, nB, nC]
 refine we ?_
 go_upto_region 1 with fail
 refine rl ?_
 refine qv (.iface 64 pv) ?_
 refine qv (.pointer (some ⟨p, 0, none⟩)) ?_
 simp only [nA, nB, nC]
 obtain ⟨T, pv, f1, args1, -, hen, hca⟩ := HXX.out B p _ _ _ HV.out HI.out (by have := HL.out; (try simp only [HOP.out, prn, cond_false] at this); (try simp only [HOP.out, prn, List.length_append, List.length_cons, List.length_nil, cond_true, cond_false]); omega) (Nat.le_trans HW.out HB0.out.size)
 have HEN := hid hen
 have HCA := hid hca
 clear hen hca
 refine wp_calle (f := f1) (args := args1) rfl rfl (enter_inv rfl (by kernel_rfl) (by kernel_rfl) HEN.out) ?_
 refine (HCA.out).mono ?_
 rintro e w1 ⟨rfl, hq⟩
 refine ⟨_, rfl, ?_⟩
 obtain ⟨hi, hb, ho⟩ := hq
 replace HV := hid (HV.out.keep (kpw_ok ho HI.out))
 replace HB0 := hid (HB0.out.trans hb)
 replace HO := hid (HO.out.trans ho)
 replace HI := hid hi
 clear hi hb ho
 try simp only [nA, nB, nC]
 refine we ?_
 go_wp2_with fail
 exact bodyPost_end (results_none rfl _ _ _) rfl ⟨rfl, by have := HI.out; simpa [HOP.out, fws, fw, prn] using this, HB0.out, HO.out⟩
seal wpList in
theorem writeOperand_list {B p : Nat} {l : List UInt8} {w : World} {pv : Value} {x : Wr} (hop : x.isOp = false) (hv : Wv w (.iface 123 pv) x) (hx : WOk x) (hI : IsB B w p l) (hlen : l.length + (prn x.isOp (fw x)).length ≤ 140737488355328) (hBw : B ≤ w.heap.size) : Calls Tryz.prog 268 #[.pointer (some ⟨p, 0, none⟩), .iface 123 pv] w fun e w' => e = .returned (.tuple #[]) ∧ IsB B w' p (l ++ prn x.isOp (fw x)) ∧ Below B w w' ∧ OkP p w w' := by
 have HV := hid hv
 have HXX := hid hx
 have HOP := hid hop
 clear hv hx hop
 have HB0 : Hid (Below B w w) := hid (Below.refl _ _)
 have HO : Hid (OkP p w w) := hid (Lib.OthersKept.refl _ _ _)
 have HI := hid hI
 have HW := hid hBw
 have HL := hid hlen
 clear hI hBw hlen
 go_enter Tryz.func268, Tryz.ntmps268
 go_upto_region 0 with fail
 refine rl ?_
 refine qv (.iface 123 pv) ?_
 simp only [nA, nB, nC]
 refine we ?_
 go_upto_region 2 with fail
 refine rl ?_
 refine wp_y (v := (.tuple #[(.agg #[(strV []), .nilIface]), (.bool false)])) rfl rfl (y_ta (p := (.iface 123 pv)) rfl (by kernel_rfl) (by kernel_rfl) (fun w => by kernel_rfl)) rfl ?_
 simp only [nA, nB, nC]
 refine qv (.bool false) ?_
 refine qv (.agg #[(strV []), .nilIface]) ?_
 simp only [nA, nB, nC]
 refine wp_y (v := (.tuple #[(.agg #[(strV []), .nilIface, .nilIface]), (.bool false)])) rfl rfl (y_ta (p := (.iface 123 pv)) rfl (by kernel_rfl) (by kernel_rfl) (fun w => by kernel_rfl)) rfl ?_
 simp only [nA, nB, nC]
 refine qv (.bool false) ?_
 refine qv (.agg #[(strV []), .nilIface, .nilIface]) ?_
 simp only [nA, nB, nC]
 refine wp_y (v := (.tuple #[(.agg #[.nilIface, .nilIface, .nilIface]), (.bool false)])) rfl rfl (y_ta (p := (.iface 123 pv)) rfl (by kernel_rfl) (by kernel_rfl) (fun w => by kernel_rfl)) rfl ?_
 simp only [nA, nB, nC]
 refine qv (.bool false) ?_
 refine qv (.agg #[.nilIface, .nilIface, .nilIface]) ?_
 refine qv (.bool false) ?_
 refine qv (.bool false) ?_
 simp only [nA, nB, nC]
 refine we ?_
 go_upto_region 1 with fail
 refine rl ?_
 refine qv (.iface 123 pv) ?_
 refine qv (.pointer (some ⟨p, 0, none⟩)) ?_
 simp only [nA, nB, nC]
 obtain ⟨T, pv, f1, args1, -, hen, hca⟩ := HXX.out B p _ _ _ HV.out HI.out (by have := HL.out; (try simp only [HOP.out, prn, cond_false] at this); (try simp only [HOP.out, prn, List.length_append, List.length_cons, List.length_nil, cond_true, cond_false]); omega) (Nat.le_trans HW.out HB0.out.size)
 have HEN := hid hen
 have HCA := hid hca
 clear hen hca
 refine wp_calle (f := f1) (args := args1) rfl rfl (enter_inv rfl (by kernel_rfl) (by kernel_rfl) HEN.out) ?_
 refine (HCA.out).mono ?_
 rintro e w1 ⟨rfl, hq⟩
 refine ⟨_, rfl, ?_⟩
 obtain ⟨hi, hb, ho⟩ := hq
 replace HV := hid (HV.out.keep (kpw_ok ho HI.out))
 replace HB0 := hid (HB0.out.trans hb)
 replace HO := hid (HO.out.trans ho)
 replace HI := hid hi
 clear hi hb ho
 try simp only [nA, nB, nC]
 refine we ?_
 go_wp2_with fail
 exact bodyPost_end (results_none rfl _ _ _) rfl ⟨rfl, by have := HI.out; simpa [HOP.out, fws, fw, prn] using this, HB0.out, HO.out⟩
seal wpList in
theorem writeOperand_unary {B p : Nat} {l : List UInt8} {w : World} {pv : Value} {x : Wr} (hop : x.isOp = true) (hv : Wv w (.iface 130 pv) x) (hx : WOk x) (hI : IsB B w p l) (hlen : l.length + (prn x.isOp (fw x)).length ≤ 140737488355328) (hBw : B ≤ w.heap.size) : Calls Tryz.prog 268 #[.pointer (some ⟨p, 0, none⟩), .iface 130 pv] w fun e w' => e = .returned (.tuple #[]) ∧ IsB B w' p (l ++ prn x.isOp (fw x)) ∧ Below B w w' ∧ OkP p w w' := by
 have HV := hid hv
 have HXX := hid hx
 have HOP := hid hop
 clear hv hx hop
 have HB0 : Hid (Below B w w) := hid (Below.refl _ _)
 have HO : Hid (OkP p w w) := hid (Lib.OthersKept.refl _ _ _)
 have HI := hid hI
 have HW := hid hBw
 have HL := hid hlen
 clear hI hBw hlen
 go_enter Tryz.func268, Tryz.ntmps268
 go_upto_region 0 with fail
 refine rl ?_
 refine qv (.iface 130 pv) ?_
 simp only [nA, nB, nC]
 refine we ?_
 go_upto_region 2 with fail
 refine rl ?_
 refine wp_y (v := (.tuple #[pv, (.bool true)])) rfl rfl (y_ta (p := (.iface 130 pv)) rfl (by kernel_rfl) (by kernel_rfl) (fun w => by kernel_rfl)) rfl ?_
 simp only [nA, nB, nC]
 refine qv (.bool true) ?_
 refine qv pv ?_
 simp only [nA, nB, nC]
 refine wp_y (v := (.tuple #[(.agg #[(strV []), .nilIface, .nilIface]), (.bool false)])) rfl rfl (y_ta (p := (.iface 130 pv)) rfl (by kernel_rfl) (by kernel_rfl) (fun w => by kernel_rfl)) rfl ?_
 simp only [nA, nB, nC]
 refine qv (.bool false) ?_
 refine qv (.agg #[(strV []), .nilIface, .nilIface]) ?_
 simp only [nA, nB, nC]
 refine wp_y (v := (.tuple #[(.agg #[.nilIface, .nilIface, .nilIface]), (.bool false)])) rfl rfl (y_ta (p := (.iface 130 pv)) rfl (by kernel_rfl) (by kernel_rfl) (fun w => by kernel_rfl)) rfl ?_
 simp only [nA, nB, nC]
 refine qv (.bool false) ?_
 refine qv (.agg #[.nilIface, .nilIface, .nilIface]) ?_
 refine qv (.bool false) ?_
 refine qv (.bool true) ?_
 simp only [nA, nB, nC]
 refine we ?_
 go_upto_region 3 with fail
 refine rl ?_
 refine qv (.pointer (some ⟨p, 0, none⟩)) ?_
 simp only [nA, nB, nC]
 refine wp_y (v := (.iface 64 (strV [40]))) rfl rfl (y_mkI rfl (by kernel_rfl) (by kernel_rfl) (fun w => mk_show_word _ w)) rfl ?_
 simp only [nA, nB, nC]
 refine qv (.iface 130 pv) ?_
 simp only [nA, nB, nC]
 refine wp_y (v := (.iface 64 (strV [41]))) rfl rfl (y_mkI rfl (by kernel_rfl) (by kernel_rfl) (fun w => mk_show_word _ w)) rfl ?_
 simp only [nA, nB, nC]
 obtain ⟨w3, g1, (HX : Hid _), (K2 : Hid _), (HB4 : Hid _)⟩ := bs_Sshow_writer_3 w (.iface 64 (strV [40])) (.iface 130 pv) (.iface 64 (strV [41])) rfl rfl rfl
 refine wp_run (v := (.slice (some ⟨g1, 0, none⟩) 3 3)) rfl rfl (run_bsOp rfl (by kernel_rfl) HX.out) rfl ?_
 try simp only [nA, nB, nC]
 replace HB0 := hid (HB0.out.trans (HB4.out.mono (Nat.le_trans HW.out HB0.out.size)))
 replace HO := hid (HO.out.trans (ok_below HB4.out))
 replace HI := hid (HI.out.below HB4.out)
 replace HV := hid (HV.out.keep (kpw_below HB4.out))
 refine qc #[(.pointer (some ⟨p, 0, none⟩)), (.slice (some ⟨g1, 0, none⟩) 3 3)] ?_
 refine (writeAll_any (ws_blk (xs := [(.word [40]), x, (.word [41])]) (by simp) K2.out (fun i x hx => by
     match i, hx with
     | 0, hx => cases hx; exact ⟨_, rfl, .word _⟩
     | 1, hx => cases hx; exact ⟨_, rfl, HV.out⟩
     | 2, hx => cases hx; exact ⟨_, rfl, .word _⟩
     | _ + 3, hx => cases hx)) (fun x hx => by
     simp only [List.mem_cons, List.not_mem_nil, or_false] at hx
     rcases hx with rfl | rfl | rfl
     ·exact write_okw _
     ·exact HXX.out
     ·exact write_okw _
     ) HI.out (by have := HL.out; (try simp only [HOP.out, prn, List.length_append, List.length_cons, List.length_nil, cond_true] at this); (try simp only [fw, fws, List.length_append, List.length_cons, List.length_nil]); omega) (Nat.le_trans HW.out HB0.out.size)).mono ?_
 rintro e w5 ⟨rfl, hq⟩
 refine ⟨_, rfl, ?_⟩
 obtain ⟨hi, hb, ho⟩ := hq
 replace K2 := hid (ok_at ho HI.out K2.out (by decide) (by decide))
 replace HV := hid (HV.out.keep (kpw_ok ho HI.out))
 replace HB0 := hid (HB0.out.trans hb)
 replace HO := hid (HO.out.trans ho)
 replace HI := hid hi
 clear hi hb ho
 try simp only [Act.put, nA, nB, nC]
 refine we ?_
 go_wp2_with fail
 exact bodyPost_end (results_none rfl _ _ _) rfl ⟨rfl, by have := HI.out; simpa [HOP.out, fws, fw, prn] using this, HB0.out, HO.out⟩
seal wpList in
theorem writeOperand_binary {B p : Nat} {l : List UInt8} {w : World} {pv : Value} {x : Wr} (hop : x.isOp = true) (hv : Wv w (.iface 132 pv) x) (hx : WOk x) (hI : IsB B w p l) (hlen : l.length + (prn x.isOp (fw x)).length ≤ 140737488355328) (hBw : B ≤ w.heap.size) : Calls Tryz.prog 268 #[.pointer (some ⟨p, 0, none⟩), .iface 132 pv] w fun e w' => e = .returned (.tuple #[]) ∧ IsB B w' p (l ++ prn x.isOp (fw x)) ∧ Below B w w' ∧ OkP p w w' := by
 have HV := hid hv
 have HXX := hid hx
 have HOP := hid hop
 clear hv hx hop
 have HB0 : Hid (Below B w w) := hid (Below.refl _ _)
 have HO : Hid (OkP p w w) := hid (Lib.OthersKept.refl _ _ _)
 have HI := hid hI
 have HW := hid hBw
 have HL := hid hlen
 clear hI hBw hlen
 go_enter Tryz.func268, Tryz.ntmps268
 go_upto_region 0 with fail
 refine rl ?_
 refine qv (.iface 132 pv) ?_
 simp only [nA, nB, nC]
 refine we ?_
 go_upto_region 2 with fail
 refine rl ?_
 refine wp_y (v := (.tuple #[(.agg #[(strV []), .nilIface]), (.bool false)])) rfl rfl (y_ta (p := (.iface 132 pv)) rfl (by kernel_rfl) (by kernel_rfl) (fun w => by kernel_rfl)) rfl ?_
 simp only [nA, nB, nC]
 refine qv (.bool false) ?_
 refine qv (.agg #[(strV []), .nilIface]) ?_
 simp only [nA, nB, nC]
 refine wp_y (v := (.tuple #[pv, (.bool true)])) rfl rfl (y_ta (p := (.iface 132 pv)) rfl (by kernel_rfl) (by kernel_rfl) (fun w => by kernel_rfl)) rfl ?_
 simp only [nA, nB, nC]
 refine qv (.bool true) ?_
 refine qv pv ?_
 simp only [nA, nB, nC]
 refine wp_y (v := (.tuple #[(.agg #[.nilIface, .nilIface, .nilIface]), (.bool false)])) rfl rfl (y_ta (p := (.iface 132 pv)) rfl (by kernel_rfl) (by kernel_rfl) (fun w => by kernel_rfl)) rfl ?_
 simp only [nA, nB, nC]
 refine qv (.bool false) ?_
 refine qv (.agg #[.nilIface, .nilIface, .nilIface]) ?_
 refine qv (.bool true) ?_
 refine qv (.bool true) ?_
 simp only [nA, nB, nC]
 refine we ?_
 go_upto_region 3 with fail
 refine rl ?_
 refine qv (.pointer (some ⟨p, 0, none⟩)) ?_
 simp only [nA, nB, nC]
 refine wp_y (v := (.iface 64 (strV [40]))) rfl rfl (y_mkI rfl (by kernel_rfl) (by kernel_rfl) (fun w => mk_show_word _ w)) rfl ?_
 simp only [nA, nB, nC]
 refine qv (.iface 132 pv) ?_
 simp only [nA, nB, nC]
 refine wp_y (v := (.iface 64 (strV [41]))) rfl rfl (y_mkI rfl (by kernel_rfl) (by kernel_rfl) (fun w => mk_show_word _ w)) rfl ?_
 simp only [nA, nB, nC]
 obtain ⟨w3, g1, (HX : Hid _), (K2 : Hid _), (HB4 : Hid _)⟩ := bs_Sshow_writer_3 w (.iface 64 (strV [40])) (.iface 132 pv) (.iface 64 (strV [41])) rfl rfl rfl
 refine wp_run (v := (.slice (some ⟨g1, 0, none⟩) 3 3)) rfl rfl (run_bsOp rfl (by kernel_rfl) HX.out) rfl ?_
 try simp only [nA, nB, nC]
 replace HB0 := hid (HB0.out.trans (HB4.out.mono (Nat.le_trans HW.out HB0.out.size)))
 replace HO := hid (HO.out.trans (ok_below HB4.out))
 replace HI := hid (HI.out.below HB4.out)
 replace HV := hid (HV.out.keep (kpw_below HB4.out))
 refine qc #[(.pointer (some ⟨p, 0, none⟩)), (.slice (some ⟨g1, 0, none⟩) 3 3)] ?_
 refine (writeAll_any (ws_blk (xs := [(.word [40]), x, (.word [41])]) (by simp) K2.out (fun i x hx => by
     match i, hx with
     | 0, hx => cases hx; exact ⟨_, rfl, .word _⟩
     | 1, hx => cases hx; exact ⟨_, rfl, HV.out⟩
     | 2, hx => cases hx; exact ⟨_, rfl, .word _⟩
     | _ + 3, hx => cases hx)) (fun x hx => by
     simp only [List.mem_cons, List.not_mem_nil, or_false] at hx
     rcases hx with rfl | rfl | rfl
     ·exact write_okw _
     ·exact HXX.out
     ·exact write_okw _
     ) HI.out (by have := HL.out; (try simp only [HOP.out, prn, List.length_append, List.length_cons, List.length_nil, cond_true] at this); (try simp only [fw, fws, List.length_append, List.length_cons, List.length_nil]); omega) (Nat.le_trans HW.out HB0.out.size)).mono ?_
 rintro e w5 ⟨rfl, hq⟩
 refine ⟨_, rfl, ?_⟩
 obtain ⟨hi, hb, ho⟩ := hq
 replace K2 := hid (ok_at ho HI.out K2.out (by decide) (by decide))
 replace HV := hid (HV.out.keep (kpw_ok ho HI.out))
 replace HB0 := hid (HB0.out.trans hb)
 replace HO := hid (HO.out.trans ho)
 replace HI := hid hi
 clear hi hb ho
 try simp only [Act.put, nA, nB, nC]
 refine we ?_
 go_wp2_with fail
 exact bodyPost_end (results_none rfl _ _ _) rfl ⟨rfl, by have := HI.out; simpa [HOP.out, fws, fw, prn] using this, HB0.out, HO.out⟩
seal wpList in
theorem writeOperand_choice {B p : Nat} {l : List UInt8} {w : World} {pv : Value} {x : Wr} (hop : x.isOp = true) (hv : Wv w (.iface 134 pv) x) (hx : WOk x) (hI : IsB B w p l) (hlen : l.length + (prn x.isOp (fw x)).length ≤ 140737488355328) (hBw : B ≤ w.heap.size) : Calls Tryz.prog 268 #[.pointer (some ⟨p, 0, none⟩), .iface 134 pv] w fun e w' => e = .returned (.tuple #[]) ∧ IsB B w' p (l ++ prn x.isOp (fw x)) ∧ Below B w w' ∧ OkP p w w' := by
 have HV := hid hv
 have HXX := hid hx
 have HOP := hid hop
 clear hv hx hop
 have HB0 : Hid (Below B w w) := hid (Below.refl _ _)
 have HO : Hid (OkP p w w) := hid (Lib.OthersKept.refl _ _ _)
 have HI := hid hI
 have HW := hid hBw
 have HL := hid hlen
 clear hI hBw hlen
 go_enter Tryz.func268, Tryz.ntmps268
 go_upto_region 0 with fail
 refine rl ?_
 refine qv (.iface 134 pv) ?_
 simp only [nA, nB, nC]
 refine we ?_
 go_upto_region 2 with fail
 refine rl ?_
 refine wp_y (v := (.tuple #[(.agg #[(strV []), .nilIface]), (.bool false)])) rfl rfl (y_ta (p := (.iface 134 pv)) rfl (by kernel_rfl) (by kernel_rfl) (fun w => by kernel_rfl)) rfl ?_
 simp only [nA, nB, nC]
 refine qv (.bool false) ?_
 refine qv (.agg #[(strV []), .nilIface]) ?_
 simp only [nA, nB, nC]
 refine wp_y (v := (.tuple #[(.agg #[(strV []), .nilIface, .nilIface]), (.bool false)])) rfl rfl (y_ta (p := (.iface 134 pv)) rfl (by kernel_rfl) (by kernel_rfl) (fun w => by kernel_rfl)) rfl ?_
 simp only [nA, nB, nC]
 refine qv (.bool false) ?_
 refine qv (.agg #[(strV []), .nilIface, .nilIface]) ?_
 simp only [nA, nB, nC]
 refine wp_y (v := (.tuple #[pv, (.bool true)])) rfl rfl (y_ta (p := (.iface 134 pv)) rfl (by kernel_rfl) (by kernel_rfl) (fun w => by kernel_rfl)) rfl ?_
 simp only [nA, nB, nC]
 refine qv (.bool true) ?_
 refine qv pv ?_
 refine qv (.bool true) ?_
 refine qv (.bool true) ?_
 simp only [nA, nB, nC]
 refine we ?_
 go_upto_region 3 with fail
 refine rl ?_
 refine qv (.pointer (some ⟨p, 0, none⟩)) ?_
 simp only [nA, nB, nC]
 refine wp_y (v := (.iface 64 (strV [40]))) rfl rfl (y_mkI rfl (by kernel_rfl) (by kernel_rfl) (fun w => mk_show_word _ w)) rfl ?_
 simp only [nA, nB, nC]
 refine qv (.iface 134 pv) ?_
 simp only [nA, nB, nC]
 refine wp_y (v := (.iface 64 (strV [41]))) rfl rfl (y_mkI rfl (by kernel_rfl) (by kernel_rfl) (fun w => mk_show_word _ w)) rfl ?_
 simp only [nA, nB, nC]
 obtain ⟨w3, g1, (HX : Hid _), (K2 : Hid _), (HB4 : Hid _)⟩ := bs_Sshow_writer_3 w (.iface 64 (strV [40])) (.iface 134 pv) (.iface 64 (strV [41])) rfl rfl rfl
 refine wp_run (v := (.slice (some ⟨g1, 0, none⟩) 3 3)) rfl rfl (run_bsOp rfl (by kernel_rfl) HX.out) rfl ?_
 try simp only [nA, nB, nC]
 replace HB0 := hid (HB0.out.trans (HB4.out.mono (Nat.le_trans HW.out HB0.out.size)))
 replace HO := hid (HO.out.trans (ok_below HB4.out))
 replace HI := hid (HI.out.below HB4.out)
 replace HV := hid (HV.out.keep (kpw_below HB4.out))
 refine qc #[(.pointer (some ⟨p, 0, none⟩)), (.slice (some ⟨g1, 0, none⟩) 3 3)] ?_
 refine (writeAll_any (ws_blk (xs := [(.word [40]), x, (.word [41])]) (by simp) K2.out (fun i x hx => by
     match i, hx with
     | 0, hx => cases hx; exact ⟨_, rfl, .word _⟩
     | 1, hx => cases hx; exact ⟨_, rfl, HV.out⟩
     | 2, hx => cases hx; exact ⟨_, rfl, .word _⟩
     | _ + 3, hx => cases hx)) (fun x hx => by
     simp only [List.mem_cons, List.not_mem_nil, or_false] at hx
     rcases hx with rfl | rfl | rfl
     ·exact write_okw _
     ·exact HXX.out
     ·exact write_okw _
     ) HI.out (by have := HL.out; (try simp only [HOP.out, prn, List.length_append, List.length_cons, List.length_nil, cond_true] at this); (try simp only [fw, fws, List.length_append, List.length_cons, List.length_nil]); omega) (Nat.le_trans HW.out HB0.out.size)).mono ?_
 rintro e w5 ⟨rfl, hq⟩
 refine ⟨_, rfl, ?_⟩
 obtain ⟨hi, hb, ho⟩ := hq
 replace K2 := hid (ok_at ho HI.out K2.out (by decide) (by decide))
 replace HV := hid (HV.out.keep (kpw_ok ho HI.out))
 replace HB0 := hid (HB0.out.trans hb)
 replace HO := hid (HO.out.trans ho)
 replace HI := hid hi
 clear hi hb ho
 try simp only [Act.put, nA, nB, nC]
 refine we ?_
 go_wp2_with fail
 exact bodyPost_end (results_none rfl _ _ _) rfl ⟨rfl, by have := HI.out; simpa [HOP.out, fws, fw, prn] using this, HB0.out, HO.out⟩
seal wpList in
theorem writeOperand_row {B p : Nat} {l : List UInt8} {w : World} {pv : Value} {x : Wr} (hop : x.isOp = false) (hv : Wv w (.iface 66 pv) x) (hx : WOk x) (hI : IsB B w p l) (hlen : l.length + (prn x.isOp (fw x)).length ≤ 140737488355328) (hBw : B ≤ w.heap.size) : Calls Tryz.prog 268 #[.pointer (some ⟨p, 0, none⟩), .iface 66 pv] w fun e w' => e = .returned (.tuple #[]) ∧ IsB B w' p (l ++ prn x.isOp (fw x)) ∧ Below B w w' ∧ OkP p w w' := by
 have HV := hid hv
 have HXX := hid hx
 have HOP := hid hop
 clear hv hx hop
 have HB0 : Hid (Below B w w) := hid (Below.refl _ _)
 have HO : Hid (OkP p w w) := hid (Lib.OthersKept.refl _ _ _)
 have HI := hid hI
 have HW := hid hBw
 have HL := hid hlen
 clear hI hBw hlen
 go_enter Tryz.func268, Tryz.ntmps268
 go_upto_region 0 with fail
 refine rl ?_
 refine qv (.iface 66 pv) ?_
 simp only [nA, nB, nC]
 refine we ?_
 go_upto_region 2 with fail
 refine rl ?_
 refine wp_y (v := (.tuple #[(.agg #[(strV []), .nilIface]), (.bool false)])) rfl rfl (y_ta (p := (.iface 66 pv)) rfl (by kernel_rfl) (by kernel_rfl) (fun w => by kernel_rfl)) rfl ?_
 simp only [nA, nB, nC]
 refine qv (.bool false) ?_
 refine qv (.agg #[(strV []), .nilIface]) ?_
 simp only [nA, nB, nC]
 refine wp_y (v := (.tuple #[(.agg #[(strV []), .nilIface, .nilIface]), (.bool false)])) rfl rfl (y_ta (p := (.iface 66 pv)) rfl (by kernel_rfl) (by kernel_rfl) (fun w => by kernel_rfl)) rfl ?_
 simp only [nA, nB, nC]
 refine qv (.bool false) ?_
 refine qv (.agg #[(strV []), .nilIface, .nilIface]) ?_
 simp only [nA, nB, nC]
 refine wp_y (v := (.tuple #[(.agg #[.nilIface, .nilIface, .nilIface]), (.bool false)])) rfl rfl (y_ta (p := (.iface 66 pv)) rfl (by kernel_rfl) (by kernel_rfl) (fun w => by kernel_rfl)) rfl ?_
 simp only [nA, nB, nC]
 refine qv (.bool false) ?_
 refine qv (.agg #[.nilIface, .nilIface, .nilIface]) ?_
 refine qv (.bool false) ?_
 refine qv (.bool false) ?_
 simp only [nA, nB, nC]
 refine we ?_
 go_upto_region 1 with fail
 refine rl ?_
 refine qv (.iface 66 pv) ?_
 refine qv (.pointer (some ⟨p, 0, none⟩)) ?_
 simp only [nA, nB, nC]
 obtain ⟨T, pv, f1, args1, -, hen, hca⟩ := HXX.out B p _ _ _ HV.out HI.out (by have := HL.out; (try simp only [HOP.out, prn, cond_false] at this); (try simp only [HOP.out, prn, List.length_append, List.length_cons, List.length_nil, cond_true, cond_false]); omega) (Nat.le_trans HW.out HB0.out.size)
 have HEN := hid hen
 have HCA := hid hca
 clear hen hca
 refine wp_calle (f := f1) (args := args1) rfl rfl (enter_inv rfl (by kernel_rfl) (by kernel_rfl) HEN.out) ?_
 refine (HCA.out).mono ?_
 rintro e w1 ⟨rfl, hq⟩
 refine ⟨_, rfl, ?_⟩
 obtain ⟨hi, hb, ho⟩ := hq
 replace HV := hid (HV.out.keep (kpw_ok ho HI.out))
 replace HB0 := hid (HB0.out.trans hb)
 replace HO := hid (HO.out.trans ho)
 replace HI := hid hi
 clear hi hb ho
 try simp only [nA, nB, nC]
 refine we ?_
 go_wp2_with fail
 exact bodyPost_end (results_none rfl _ _ _) rfl ⟨rfl, by have := HI.out; simpa [HOP.out, fws, fw, prn] using this, HB0.out, HO.out⟩
seal wpList in
theorem writeOperand_rows {B p : Nat} {l : List UInt8} {w : World} {pv : Value} {x : Wr} (hop : x.isOp = false) (hv : Wv w (.iface 67 pv) x) (hx : WOk x) (hI : IsB B w p l) (hlen : l.length + (prn x.isOp (fw x)).length ≤ 140737488355328) (hBw : B ≤ w.heap.size) : Calls Tryz.prog 268 #[.pointer (some ⟨p, 0, none⟩), .iface 67 pv] w fun e w' => e = .returned (.tuple #[]) ∧ IsB B w' p (l ++ prn x.isOp (fw x)) ∧ Below B w w' ∧ OkP p w w' := by
 have HV := hid hv
 have HXX := hid hx
 have HOP := hid hop
 clear hv hx hop
 have HB0 : Hid (Below B w w) := hid (Below.refl _ _)
 have HO : Hid (OkP p w w) := hid (Lib.OthersKept.refl _ _ _)
 have HI := hid hI
 have HW := hid hBw
 have HL := hid hlen
 clear hI hBw hlen
 go_enter Tryz.func268, Tryz.ntmps268
 go_upto_region 0 with fail
 refine rl ?_
 refine qv (.iface 67 pv) ?_
 simp only [nA, nB, nC]
 refine we ?_
 go_upto_region 2 with fail
 refine rl ?_
 refine wp_y (v := (.tuple #[(.agg #[(strV []), .nilIface]), (.bool false)])) rfl rfl (y_ta (p := (.iface 67 pv)) rfl (by kernel_rfl) (by kernel_rfl) (fun w => by kernel_rfl)) rfl ?_
 simp only [nA, nB, nC]
 refine qv (.bool false) ?_
 refine qv (.agg #[(strV []), .nilIface]) ?_
 simp only [nA, nB, nC]
 refine wp_y (v := (.tuple #[(.agg #[(strV []), .nilIface, .nilIface]), (.bool false)])) rfl rfl (y_ta (p := (.iface 67 pv)) rfl (by kernel_rfl) (by kernel_rfl) (fun w => by kernel_rfl)) rfl ?_
 simp only [nA, nB, nC]
 refine qv (.bool false) ?_
 refine qv (.agg #[(strV []), .nilIface, .nilIface]) ?_
 simp only [nA, nB, nC]
 refine wp_y (v := (.tuple #[(.agg #[.nilIface, .nilIface, .nilIface]), (.bool false)])) rfl rfl (y_ta (p := (.iface 67 pv)) rfl (by kernel_rfl) (by kernel_rfl) (fun w => by kernel_rfl)) rfl ?_
 simp only [nA, nB, nC]
 refine qv (.bool false) ?_
 refine qv (.agg #[.nilIface, .nilIface, .nilIface]) ?_
 refine qv (.bool false) ?_
 refine qv (.bool false) ?_
 simp only [nA, nB, nC]
 refine we ?_
 go_upto_region 1 with fail
 refine rl ?_
 refine qv (.iface 67 pv) ?_
 refine qv (.pointer (some ⟨p, 0, none⟩)) ?_
 simp only [nA, nB, nC]
 obtain ⟨T, pv, f1, args1, -, hen, hca⟩ := HXX.out B p _ _ _ HV.out HI.out (by have := HL.out; (try simp only [HOP.out, prn, cond_false] at this); (try simp only [HOP.out, prn, List.length_append, List.length_cons, List.length_nil, cond_true, cond_false]); omega) (Nat.le_trans HW.out HB0.out.size)
 have HEN := hid hen
 have HCA := hid hca
 clear hen hca
 refine wp_calle (f := f1) (args := args1) rfl rfl (enter_inv rfl (by kernel_rfl) (by kernel_rfl) HEN.out) ?_
 refine (HCA.out).mono ?_
 rintro e w1 ⟨rfl, hq⟩
 refine ⟨_, rfl, ?_⟩
 obtain ⟨hi, hb, ho⟩ := hq
 replace HV := hid (HV.out.keep (kpw_ok ho HI.out))
 replace HB0 := hid (HB0.out.trans hb)
 replace HO := hid (HO.out.trans ho)
 replace HI := hid hi
 clear hi hb ho
 try simp only [nA, nB, nC]
 refine we ?_
 go_wp2_with fail
 exact bodyPost_end (results_none rfl _ _ _) rfl ⟨rfl, by have := HI.out; simpa [HOP.out, fws, fw, prn] using this, HB0.out, HO.out⟩
theorem writeOperand_any {B p : Nat} {l : List UInt8} {w : World} {v : Value} {x : Wr} (hv : Wv w v x) (hx : WOk x) (hI : IsB B w p l) (hlen : l.length + (prn x.isOp (fw x)).length ≤ 140737488355328) (hBw : B ≤ w.heap.size) : Calls Tryz.prog 268 #[.pointer (some ⟨p, 0, none⟩), v] w fun e w' => e = .returned (.tuple #[]) ∧ IsB B w' p (l ++ prn x.isOp (fw x)) ∧ Below B w w' ∧ OkP p w w' := by
 obtain ⟨pv, rfl⟩ := hv.ty
 cases x
 ·exact writeOperand_word rfl hv hx hI hlen hBw
 ·exact writeOperand_list rfl hv hx hI hlen hBw
 ·exact writeOperand_unary rfl hv hx hI hlen hBw
 ·exact writeOperand_binary rfl hv hx hI hlen hBw
 ·exact writeOperand_choice rfl hv hx hI hlen hBw
 ·exact writeOperand_row rfl hv hx hI hlen hBw
 ·exact writeOperand_rows rfl hv hx hI hlen hBw
seal wpList in
theorem write_unary (s : List UInt8) (k : Wr) (v : Value) (hk : WOk k) {B p : Nat} {l : List UInt8} {w : World} (hv : Wv w v k) (hI : IsB B w p l) (hlen : l.length + (fw (.unary s k)).length ≤ 140737488355328) (hBw : B ≤ w.heap.size) : Calls Tryz.prog 267 #[(.agg #[(strV s), v]), .pointer (some ⟨p, 0, none⟩)] w fun e w' => e = .returned (.tuple #[]) ∧ IsB B w' p (l ++ fw (.unary s k)) ∧ Below B w w' ∧ OkP p w w' := by
 have HK := hid hk
 clear hk
 have HV := hid hv
 clear hv
 have HB0 : Hid (Below B w w) := hid (Below.refl _ _)
 have HO : Hid (OkP p w w) := hid (Lib.OthersKept.refl _ _ _)
 have HI := hid hI
 have HW := hid hBw
 have HL := hid hlen
 clear hI hBw hlen
 go_enter Tryz.func267, Tryz.ntmps267
 go_upto_region 0 with fail
 refine rl ?_
 obtain ⟨w3, g1, (HX : Hid _), (K2 : Hid _), (HB4 : Hid _)⟩ := box_x 130 w #[(strV s), v]
 refine wp_run (v := (.pointer (some ⟨g1, 0, none⟩))) rfl rfl (run_boxOp rfl (by kernel_rfl) HX.out) rfl ?_
 try simp only [nA, nB, nC]
 replace HB0 := hid (HB0.out.trans (HB4.out.mono (Nat.le_trans HW.out HB0.out.size)))
 replace HO := hid (HO.out.trans (ok_below HB4.out))
 replace HI := hid (HI.out.below HB4.out)
 replace HV := hid (HV.out.keep (kpw_below HB4.out))
 refine we ?_
 go_upto_region 1 with fail
 refine rl ?_
 refine qf (fa_show_unary_0 g1 0) ?_
 refine ql (strV s) Tryz.isAgg64 0 K2 ?_
 refine qv (.pointer (some ⟨p, 0, none⟩)) ?_
 simp only [nA, nB, nC]
 refine qc #[(strV s), (.pointer (some ⟨p, 0, none⟩))] ?_
 refine (write_word s HI.out (by have := HL.out; (try simp only [fw, prn, List.length_append] at this); (try simp only [fw, prn, List.length_append, List.length_cons, List.length_nil, cond_true, cond_false]); omega) (Nat.le_trans HW.out HB0.out.size)).mono ?_
 rintro e w5 ⟨rfl, hq⟩
 refine ⟨_, rfl, ?_⟩
 obtain ⟨hi, hb, ho⟩ := hq
 replace K2 := hid (ok_at ho HI.out K2.out (by decide) (by decide))
 replace HV := hid (HV.out.keep (kpw_ok ho HI.out))
 replace HB0 := hid (HB0.out.trans hb)
 replace HO := hid (HO.out.trans ho)
 replace HI := hid hi
 clear hi hb ho
 try simp only [Act.put, nA, nB, nC]
 refine we ?_
 go_upto_region 2 with fail
 refine rl ?_
 refine qv (.pointer (some ⟨p, 0, none⟩)) ?_
 refine qf (fa_show_unary_1 g1 0) ?_
 refine ql v Tryz.isAgg36 1 K2 ?_
 simp only [nA, nB, nC]
 refine qc #[(.pointer (some ⟨p, 0, none⟩)), v] ?_
 refine (writeOperand_any HV.out HK.out HI.out (by have := HL.out; (try simp only [fw, prn, List.length_append] at this); (try simp only [prn, List.length_append]); omega) (Nat.le_trans HW.out HB0.out.size)).mono ?_
 rintro e w6 ⟨rfl, hq⟩
 refine ⟨_, rfl, ?_⟩
 obtain ⟨hi, hb, ho⟩ := hq
 replace K2 := hid (ok_at ho HI.out K2.out (by decide) (by decide))
 replace HV := hid (HV.out.keep (kpw_ok ho HI.out))
 replace HB0 := hid (HB0.out.trans hb)
 replace HO := hid (HO.out.trans ho)
 replace HI := hid hi
 clear hi hb ho
 try simp only [Act.put, nA, nB, nC]
 refine we ?_
 go_wp2_with fail
 exact bodyPost_end (results_none rfl _ _ _) rfl ⟨rfl, by have := HI.out; simpa [fw, fws, prn] using this, HB0.out, HO.out⟩
seal wpList in
theorem write_binary (s : List UInt8) (a b : Wr) (v u : Value) (ha : WOk a) (hb : WOk b) {B p : Nat} {l : List UInt8} {w : World} (hv : Wv w v a) (hu : Wv w u b) (hI : IsB B w p l) (hlen : l.length + (fw (.binary s a b)).length ≤ 140737488355328) (hBw : B ≤ w.heap.size) : Calls Tryz.prog 269 #[(.agg #[(strV s), v, u]), .pointer (some ⟨p, 0, none⟩)] w fun e w' => e = .returned (.tuple #[]) ∧ IsB B w' p (l ++ fw (.binary s a b)) ∧ Below B w w' ∧ OkP p w w' := by
 have HA := hid ha
 have HBB := hid hb
 clear ha hb
 have HV := hid hv
 have HU := hid hu
 clear hv hu
 have HB0 : Hid (Below B w w) := hid (Below.refl _ _)
 have HO : Hid (OkP p w w) := hid (Lib.OthersKept.refl _ _ _)
 have HI := hid hI
 have HW := hid hBw
 have HL := hid hlen
 clear hI hBw hlen
 go_enter Tryz.func269, Tryz.ntmps269
 go_upto_region 0 with fail
 refine rl ?_
 obtain ⟨w3, g1, (HX : Hid _), (K2 : Hid _), (HB4 : Hid _)⟩ := box_x 132 w #[(strV s), v, u]
 refine wp_run (v := (.pointer (some ⟨g1, 0, none⟩))) rfl rfl (run_boxOp rfl (by kernel_rfl) HX.out) rfl ?_
 try simp only [nA, nB, nC]
 replace HB0 := hid (HB0.out.trans (HB4.out.mono (Nat.le_trans HW.out HB0.out.size)))
 replace HO := hid (HO.out.trans (ok_below HB4.out))
 replace HI := hid (HI.out.below HB4.out)
 replace HV := hid (HV.out.keep (kpw_below HB4.out))
 replace HU := hid (HU.out.keep (kpw_below HB4.out))
 refine we ?_
 go_upto_region 1 with fail
 refine rl ?_
 refine qv (.pointer (some ⟨p, 0, none⟩)) ?_
 refine qf (fa_show_binary_1 g1 0) ?_
 refine ql v Tryz.isAgg36 1 K2 ?_
 simp only [nA, nB, nC]
 refine qc #[(.pointer (some ⟨p, 0, none⟩)), v] ?_
 refine (writeOperand_any HV.out HA.out HI.out (by have := HL.out; (try simp only [fw, prn, List.length_append, List.length_cons, List.length_nil] at this); (try simp only [prn]); omega) (Nat.le_trans HW.out HB0.out.size)).mono ?_
 rintro e w5 ⟨rfl, hq⟩
 refine ⟨_, rfl, ?_⟩
 obtain ⟨hi, hb, ho⟩ := hq
 replace K2 := hid (ok_at ho HI.out K2.out (by decide) (by decide))
 replace HV := hid (HV.out.keep (kpw_ok ho HI.out))
 replace HU := hid (HU.out.keep (kpw_ok ho HI.out))
 replace HB0 := hid (HB0.out.trans hb)
 replace HO := hid (HO.out.trans ho)
 replace HI := hid hi
 clear hi hb ho
 try simp only [Act.put, nA, nB, nC]
 refine we ?_
 go_upto_region 2 with fail
 refine rl ?_
 refine qv (.pointer (some ⟨p, 0, none⟩)) ?_
 simp only [nA, nB, nC]
 refine wp_y (v := (.iface 64 (strV [32]))) rfl rfl (y_mkI rfl (by kernel_rfl) (by kernel_rfl) (fun w => mk_show_word _ w)) rfl ?_
 simp only [nA, nB, nC]
 refine qf (fa_show_binary_0 g1 0) ?_
 refine ql (strV s) Tryz.isAgg64 0 K2 ?_
 simp only [nA, nB, nC]
 refine wp_y (v := (.iface 64 (strV s))) rfl rfl (y_mkI rfl (by kernel_rfl) (by kernel_rfl) (fun w => mk_show_word _ w)) rfl ?_
 simp only [nA, nB, nC]
 refine wp_y (v := (.iface 64 (strV [32]))) rfl rfl (y_mkI rfl (by kernel_rfl) (by kernel_rfl) (fun w => mk_show_word _ w)) rfl ?_
 simp only [nA, nB, nC]
 obtain ⟨w8, g6, (HX : Hid _), (K7 : Hid _), (HB9 : Hid _)⟩ := bs_Sshow_writer_3 w5 (.iface 64 (strV [32])) (.iface 64 (strV s)) (.iface 64 (strV [32])) rfl rfl rfl
 refine wp_run (v := (.slice (some ⟨g6, 0, none⟩) 3 3)) rfl rfl (run_bsOp rfl (by kernel_rfl) HX.out) rfl ?_
 try simp only [nA, nB, nC]
 replace K2 := ka HB9 K2
 replace HB0 := hid (HB0.out.trans (HB9.out.mono (Nat.le_trans HW.out HB0.out.size)))
 replace HO := hid (HO.out.trans (ok_below HB9.out))
 replace HI := hid (HI.out.below HB9.out)
 replace HV := hid (HV.out.keep (kpw_below HB9.out))
 replace HU := hid (HU.out.keep (kpw_below HB9.out))
 refine qc #[(.pointer (some ⟨p, 0, none⟩)), (.slice (some ⟨g6, 0, none⟩) 3 3)] ?_
 refine (writeAll_any (ws_blk (xs := [(.word [32]), (.word s), (.word [32])]) (by simp) K7.out (fun i x hx => by
     match i, hx with
     | 0, hx => cases hx; exact ⟨_, rfl, .word _⟩
     | 1, hx => cases hx; exact ⟨_, rfl, .word _⟩
     | 2, hx => cases hx; exact ⟨_, rfl, .word _⟩
     | _ + 3, hx => cases hx)) (fun x hx => by
     simp only [List.mem_cons, List.not_mem_nil, or_false] at hx
     rcases hx with rfl | rfl | rfl
     ·exact write_okw _
     ·exact write_okw _
     ·exact write_okw _
     ) HI.out (by have := HL.out; (try simp only [fw, prn, List.length_append, List.length_cons, List.length_nil] at this); (try simp only [fw, fws, prn, List.length_append, List.length_cons, List.length_nil]); omega) (Nat.le_trans HW.out HB0.out.size)).mono ?_
 rintro e w10 ⟨rfl, hq⟩
 refine ⟨_, rfl, ?_⟩
 obtain ⟨hi, hb, ho⟩ := hq
 replace K2 := hid (ok_at ho HI.out K2.out (by decide) (by decide))
 replace K7 := hid (ok_at ho HI.out K7.out (by decide) (by decide))
 replace HV := hid (HV.out.keep (kpw_ok ho HI.out))
 replace HU := hid (HU.out.keep (kpw_ok ho HI.out))
 replace HB0 := hid (HB0.out.trans hb)
 replace HO := hid (HO.out.trans ho)
 replace HI := hid hi
 clear hi hb ho
 try simp only [Act.put, nA, nB, nC]
 refine we ?_
 go_upto_region 3 with fail
 refine rl ?_
 refine qv (.pointer (some ⟨p, 0, none⟩)) ?_
 refine qf (fa_show_binary_2 g1 0) ?_
 refine ql u Tryz.isAgg36 2 K2 ?_
 simp only [nA, nB, nC]
 refine qc #[(.pointer (some ⟨p, 0, none⟩)), u] ?_
 refine (writeOperand_any HU.out HBB.out HI.out (by have := HL.out; (try simp only [fw, prn, List.length_append, List.length_cons, List.length_nil] at this); (try simp only [fw, fws, prn, List.length_append, List.length_cons, List.length_nil]); omega) (Nat.le_trans HW.out HB0.out.size)).mono ?_
 rintro e w11 ⟨rfl, hq⟩
 refine ⟨_, rfl, ?_⟩
 obtain ⟨hi, hb, ho⟩ := hq
 replace K2 := hid (ok_at ho HI.out K2.out (by decide) (by decide))
 replace K7 := hid (ok_at ho HI.out K7.out (by decide) (by decide))
 replace HV := hid (HV.out.keep (kpw_ok ho HI.out))
 replace HU := hid (HU.out.keep (kpw_ok ho HI.out))
 replace HB0 := hid (HB0.out.trans hb)
 replace HO := hid (HO.out.trans ho)
 replace HI := hid hi
 clear hi hb ho
 try simp only [Act.put, nA, nB, nC]
 refine we ?_
 go_wp2_with fail
 exact bodyPost_end (results_none rfl _ _ _) rfl ⟨rfl, by have := HI.out; simpa [fw, fws, prn] using this, HB0.out, HO.out⟩
seal wpList in
theorem write_choice (a b c : Wr) (v u t : Value) (ha : WOk a) (hb : WOk b) (hc : WOk c) {B p : Nat} {l : List UInt8} {w : World} (hv : Wv w v a) (hu : Wv w u b) (ht : Wv w t c) (hI : IsB B w p l) (hlen : l.length + (fw (.choice a b c)).length ≤ 140737488355328) (hBw : B ≤ w.heap.size) : Calls Tryz.prog 270 #[(.agg #[v, u, t]), .pointer (some ⟨p, 0, none⟩)] w fun e w' => e = .returned (.tuple #[]) ∧ IsB B w' p (l ++ fw (.choice a b c)) ∧ Below B w w' ∧ OkP p w w' := by
 have HA := hid ha
 have HBB := hid hb
 have HC := hid hc
 clear ha hb hc
 have HV := hid hv
 have HU := hid hu
 have HT := hid ht
 clear hv hu ht
 have HB0 : Hid (Below B w w) := hid (Below.refl _ _)
 have HO : Hid (OkP p w w) := hid (Lib.OthersKept.refl _ _ _)
 have HI := hid hI
 have HW := hid hBw
 have HL := hid hlen
 clear hI hBw hlen
 go_enter Tryz.func270, Tryz.ntmps270
 go_upto_region 0 with fail
 refine rl ?_
 obtain ⟨w3, g1, (HX : Hid _), (K2 : Hid _), (HB4 : Hid _)⟩ := box_x 134 w #[v, u, t]
 refine wp_run (v := (.pointer (some ⟨g1, 0, none⟩))) rfl rfl (run_boxOp rfl (by kernel_rfl) HX.out) rfl ?_
 try simp only [nA, nB, nC]
 replace HB0 := hid (HB0.out.trans (HB4.out.mono (Nat.le_trans HW.out HB0.out.size)))
 replace HO := hid (HO.out.trans (ok_below HB4.out))
 replace HI := hid (HI.out.below HB4.out)
 replace HV := hid (HV.out.keep (kpw_below HB4.out))
 replace HU := hid (HU.out.keep (kpw_below HB4.out))
 replace HT := hid (HT.out.keep (kpw_below HB4.out))
 refine we ?_
 go_upto_region 1 with fail
 refine rl ?_
 refine qv (.pointer (some ⟨p, 0, none⟩)) ?_
 simp only [nA, nB, nC]
 refine wp_y (v := (.iface 64 (strV [105, 102, 32]))) rfl rfl (y_mkI rfl (by kernel_rfl) (by kernel_rfl) (fun w => mk_show_word _ w)) rfl ?_
 simp only [nA, nB, nC]
 refine qf (fa_show_choice_0 g1 0) ?_
 refine ql v Tryz.isAgg36 0 K2 ?_
 simp only [nA, nB, nC]
 refine wp_y (v := (.iface 64 (strV [32, 116, 104, 101, 110, 32]))) rfl rfl (y_mkI rfl (by kernel_rfl) (by kernel_rfl) (fun w => mk_show_word _ w)) rfl ?_
 simp only [nA, nB, nC]
 refine qf (fa_show_choice_1 g1 0) ?_
 refine ql u Tryz.isAgg36 1 K2 ?_
 simp only [nA, nB, nC]
 refine wp_y (v := (.iface 64 (strV [32, 101, 108, 115, 101, 32]))) rfl rfl (y_mkI rfl (by kernel_rfl) (by kernel_rfl) (fun w => mk_show_word _ w)) rfl ?_
 simp only [nA, nB, nC]
 refine qf (fa_show_choice_2 g1 0) ?_
 refine ql t Tryz.isAgg36 2 K2 ?_
 simp only [nA, nB, nC]
 obtain ⟨w7, g5, (HX : Hid _), (K6 : Hid _), (HB8 : Hid _)⟩ := bs_Sshow_writer_6 w3 (.iface 64 (strV [105, 102, 32])) v (.iface 64 (strV [32, 116, 104, 101, 110, 32])) u (.iface 64 (strV [32, 101, 108, 115, 101, 32])) t rfl HV.out.cl rfl HU.out.cl rfl HT.out.cl
 refine wp_run (v := (.slice (some ⟨g5, 0, none⟩) 6 6)) rfl rfl (run_bsOp rfl (by kernel_rfl) HX.out) rfl ?_
 try simp only [nA, nB, nC]
 replace K2 := ka HB8 K2
 replace HB0 := hid (HB0.out.trans (HB8.out.mono (Nat.le_trans HW.out HB0.out.size)))
 replace HO := hid (HO.out.trans (ok_below HB8.out))
 replace HI := hid (HI.out.below HB8.out)
 replace HV := hid (HV.out.keep (kpw_below HB8.out))
 replace HU := hid (HU.out.keep (kpw_below HB8.out))
 replace HT := hid (HT.out.keep (kpw_below HB8.out))
 refine qc #[(.pointer (some ⟨p, 0, none⟩)), (.slice (some ⟨g5, 0, none⟩) 6 6)] ?_
 refine (writeAll_any (ws_blk (xs := [(.word [105, 102, 32]), a, (.word [32, 116, 104, 101, 110, 32]), b, (.word [32, 101, 108, 115, 101, 32]), c]) (by simp) K6.out (fun i x hx => by
     match i, hx with
     | 0, hx => cases hx; exact ⟨_, rfl, .word _⟩
     | 1, hx => cases hx; exact ⟨_, rfl, HV.out⟩
     | 2, hx => cases hx; exact ⟨_, rfl, .word _⟩
     | 3, hx => cases hx; exact ⟨_, rfl, HU.out⟩
     | 4, hx => cases hx; exact ⟨_, rfl, .word _⟩
     | 5, hx => cases hx; exact ⟨_, rfl, HT.out⟩
     | _ + 6, hx => cases hx)) (fun x hx => by
     simp only [List.mem_cons, List.not_mem_nil, or_false] at hx
     rcases hx with rfl | rfl | rfl | rfl | rfl | rfl
     ·exact write_okw _
     ·exact HA.out
     ·exact write_okw _
     ·exact HBB.out
     ·exact write_okw _
     ·exact HC.out
     ) HI.out (by have := HL.out; (try simp only [fw, List.length_append, List.length_cons, List.length_nil] at this); (try simp only [fw, fws, List.length_append, List.length_cons, List.length_nil]); omega) (Nat.le_trans HW.out HB0.out.size)).mono ?_
 rintro e w9 ⟨rfl, hq⟩
 refine ⟨_, rfl, ?_⟩
 obtain ⟨hi, hb, ho⟩ := hq
 replace K2 := hid (ok_at ho HI.out K2.out (by decide) (by decide))
 replace K6 := hid (ok_at ho HI.out K6.out (by decide) (by decide))
 replace HV := hid (HV.out.keep (kpw_ok ho HI.out))
 replace HU := hid (HU.out.keep (kpw_ok ho HI.out))
 replace HT := hid (HT.out.keep (kpw_ok ho HI.out))
 replace HB0 := hid (HB0.out.trans hb)
 replace HO := hid (HO.out.trans ho)
 replace HI := hid hi
 clear hi hb ho
 try simp only [Act.put, nA, nB, nC]
 refine we ?_
 go_wp2_with fail
 exact bodyPost_end (results_none rfl _ _ _) rfl ⟨rfl, by have := HI.out; simpa [fw, fws, prn] using this, HB0.out, HO.out⟩
seal wpList in
theorem write_row {sv : Value} {ps : List Wr} (hx : ∀ x ∈ ps, WOk x) {B p : Nat} {l : List UInt8} {w : World} (hs : Ws w sv ps) (hI : IsB B w p l) (hlen : l.length + (fw (.row ps)).length ≤ 140737488355328) (hBw : B ≤ w.heap.size) : Calls Tryz.prog 263 #[sv, .pointer (some ⟨p, 0, none⟩)] w fun e w' => e = .returned (.tuple #[]) ∧ IsB B w' p (l ++ fw (.row ps)) ∧ Below B w w' ∧ OkP p w w' := by
 have HX := hid hx
 have HS := hid hs
 clear hx hs
 have HB0 : Hid (Below B w w) := hid (Below.refl _ _)
 have HO : Hid (OkP p w w) := hid (Lib.OthersKept.refl _ _ _)
 have HI := hid hI
 have HW := hid hBw
 have HL := hid hlen
 clear hI hBw hlen
 go_enter Tryz.func263, Tryz.ntmps263
 go_upto_region 0 with fail
 refine rl ?_
 refine qv (.pointer (some ⟨p, 0, none⟩)) ?_
 refine qv sv ?_
 simp only [nA, nB, nC]
 refine qc #[(.pointer (some ⟨p, 0, none⟩)), sv] ?_
 refine (writeAll_any HS.out HX.out HI.out (by have := HL.out; (try simp only [fw, List.length_append, List.length_cons, List.length_nil] at this); (try simp only [fw, prn, List.length_append, List.length_cons, List.length_nil, cond_true, cond_false]); omega) (Nat.le_trans HW.out HB0.out.size)).mono ?_
 rintro e w1 ⟨rfl, hq⟩
 refine ⟨_, rfl, ?_⟩
 obtain ⟨hi, hb, ho⟩ := hq
 replace HS := hid (HS.out.keep (kpw_ok ho HI.out))
 replace HB0 := hid (HB0.out.trans hb)
 replace HO := hid (HO.out.trans ho)
 replace HI := hid hi
 clear hi hb ho
 try simp only [Act.put, nA, nB, nC]
 refine we ?_
 go_upto_region 1 with fail
 refine rl ?_
 refine qv (.pointer (some ⟨p, 0, none⟩)) ?_
 simp only [nA, nB, nC]
 refine qc #[(.pointer (some ⟨p, 0, none⟩)), (strV [59, 10])] ?_
 refine (writeString_any [59, 10] HI.out (by have := HL.out; (try simp only [fw, List.length_append, List.length_cons, List.length_nil] at this); (try simp only [List.length_append, List.length_cons, List.length_nil]); omega) (Nat.le_trans HW.out HB0.out.size)).mono ?_
 rintro e w2 ⟨rfl, hq⟩
 refine ⟨_, rfl, ?_⟩
 obtain ⟨hi, hb, ho⟩ := hq
 replace HS := hid (HS.out.keep (kpw_ok ho HI.out))
 replace HB0 := hid (HB0.out.trans hb)
 replace HO := hid (HO.out.trans ho)
 replace HI := hid hi
 clear hi hb ho
 try simp only [Act.put, nA, nB, nC]
 refine we ?_
 go_wp2_with fail
 exact bodyPost_end (results_none rfl _ _ _) rfl ⟨rfl, by have := HI.out; simpa [fw, prn] using this, HB0.out, HO.out⟩
seal wpList in
theorem write_rows {sv : Value} {ps : List Wr} (hx : ∀ x ∈ ps, WOk x) {B p : Nat} {l : List UInt8} {w : World} (hs : Ws w sv ps) (hI : IsB B w p l) (hlen : l.length + (fw (.rows ps)).length ≤ 140737488355328) (hBw : B ≤ w.heap.size) : Calls Tryz.prog 265 #[sv, .pointer (some ⟨p, 0, none⟩)] w fun e w' => e = .returned (.tuple #[]) ∧ IsB B w' p (l ++ fw (.rows ps)) ∧ Below B w w' ∧ OkP p w w' := by
 have HX := hid hx
 have HS := hid hs
 clear hx hs
 have HB0 : Hid (Below B w w) := hid (Below.refl _ _)
 have HO : Hid (OkP p w w) := hid (Lib.OthersKept.refl _ _ _)
 have HI := hid hI
 have HW := hid hBw
 have HL := hid hlen
 clear hI hBw hlen
 go_enter Tryz.func265, Tryz.ntmps265
 go_upto_region 0 with fail
 refine rl ?_
 refine qv (.pointer (some ⟨p, 0, none⟩)) ?_
 refine qv sv ?_
 simp only [nA, nB, nC]
 refine qc #[(.pointer (some ⟨p, 0, none⟩)), sv] ?_
 refine (writeAll_any HS.out HX.out HI.out (by have := HL.out; (try simp only [fw] at this); (try simp only [fw, prn, List.length_append, List.length_cons, List.length_nil, cond_true, cond_false]); omega) (Nat.le_trans HW.out HB0.out.size)).mono ?_
 rintro e w1 ⟨rfl, hq⟩
 refine ⟨_, rfl, ?_⟩
 obtain ⟨hi, hb, ho⟩ := hq
 replace HS := hid (HS.out.keep (kpw_ok ho HI.out))
 replace HB0 := hid (HB0.out.trans hb)
 replace HO := hid (HO.out.trans ho)
 replace HI := hid hi
 clear hi hb ho
 try simp only [Act.put, nA, nB, nC]
 refine we ?_
 go_wp2_with fail
 exact bodyPost_end (results_none rfl _ _ _) rfl ⟨rfl, by have := HI.out; simpa [fw, prn] using this, HB0.out, HO.out⟩
theorem fwl_next {ps : List Wr} {j : Nat} {x : Wr} (h : ps[j]? = some x) : fwl true (ps.take (j + 1)) = fwl true (ps.take j) ++ (bif decide ((0 : Int) < ((j : Nat) : Int)) then [44, 32] else []) ++ fw x := by
 have hj := (List.getElem?_eq_some_iff.1 h).1
 rw [take_next h, fwl_snoc]
 cases j with
 | zero => simp
 | succ k =>
  have h1 : (ps.take (k + 1)).isEmpty = false := by cases ps with
   | nil => simp at hj
   | cons y r => rfl
  have h2 : decide ((0 : Int) < ((k + 1 : Nat) : Int)) = true := decide_eq_true (by omega)
  rw [h1, h2]; rfl
seal wpList in
theorem write_list (h : List UInt8) {ps : List Wr} (hx : ∀ x ∈ ps, WOk x) {B p : Nat} {l : List UInt8} {w : World} {a : Option Addr} {c : Nat} (hs : Ws w (.slice a ps.length c) ps) (hI : IsB B w p l) (hlen : l.length + (fw (.list h ps)).length ≤ 140737488355328) (hBw : B ≤ w.heap.size) : Calls Tryz.prog 266 #[.agg #[strV h, .slice a ps.length c], .pointer (some ⟨p, 0, none⟩)] w fun e w' => e = .returned (.tuple #[]) ∧ IsB B w' p (l ++ fw (.list h ps)) ∧ Below B w w' ∧ OkP p w w' := by
 obtain ⟨a2, c2, he, hl, hs⟩ := hs
 cases he
 have HX := hid hx
 obtain ⟨N, hN⟩ : ∃ N, ps.length = N := ⟨_, rfl⟩
 rw [hN] at hl ⊢
 have HN := hid hN
 have HM := hid hl
 have HI0 := hid hI
 have HB0 : Hid (Below B w w) := hid (Below.refl _ _)
 have HO : Hid (OkP p w w) := hid (Lib.OthersKept.refl _ _ _)
 have HI := hid hI
 have HW := hid hBw
 have HL := hid hlen
 clear hI hBw hlen
 have HS : Hid (∀ wr, OkP p w wr → ∀ i x, ps[i]? = some x → ∃ b o cs z v, a = some ⟨b, o, none⟩ ∧ wr.heap[b]? = some (.cells cs 36 z) ∧ cs[o + i]? = some v ∧ Wv wr v x) := hid (fun wr ho i x hx => by
   obtain ⟨b, o, cs, z, v, e, hb, hc, hv⟩ := hs i x hx
   exact ⟨b, o, cs, z, v, e, kpw_ok ho HI0.out _ _ _ hb, hc, hv.keep (kpw_ok ho HI0.out)⟩)
 clear hs hx hl hN HI0
 go_enter Tryz.func266, Tryz.ntmps266
 go_upto_region 0 with fail
 refine rl ?_
 obtain ⟨w3, g1, (HX : Hid _), (K2 : Hid _), (HB4 : Hid _)⟩ := box_x 123 w #[(strV h), (.slice a N c)]
 refine wp_run (v := (.pointer (some ⟨g1, 0, none⟩))) rfl rfl (run_boxOp rfl (by kernel_rfl) HX.out) rfl ?_
 try simp only [nA, nB, nC]
 clear HX
 replace HB0 := hid (HB0.out.trans (HB4.out.mono (Nat.le_trans HW.out HB0.out.size)))
 replace HO := hid (HO.out.trans (ok_below HB4.out))
 replace HI := hid (HI.out.below HB4.out)
 refine we ?_
 go_upto_region 1 with fail
 refine rl ?_
 refine qv (.pointer (some ⟨p, 0, none⟩)) ?_
 refine qf (fa_show_list_0 g1 0) ?_
 refine ql (strV h) Tryz.isAgg64 0 K2 ?_
 simp only [nA, nB, nC]
 refine wp_y (v := (.iface 64 (strV h))) rfl rfl (y_mkI rfl (by kernel_rfl) (by kernel_rfl) (fun w => mk_show_word _ w)) rfl ?_
 simp only [nA, nB, nC]
 refine wp_y (v := (.iface 64 (strV [40]))) rfl rfl (y_mkI rfl (by kernel_rfl) (by kernel_rfl) (fun w => mk_show_word _ w)) rfl ?_
 simp only [nA, nB, nC]
 obtain ⟨w7, g5, (HX : Hid _), (K6 : Hid _), (HB8 : Hid _)⟩ := bs_Sshow_writer_2 w3 (.iface 64 (strV h)) (.iface 64 (strV [40])) rfl rfl
 refine wp_run (v := (.slice (some ⟨g5, 0, none⟩) 2 2)) rfl rfl (run_bsOp rfl (by kernel_rfl) HX.out) rfl ?_
 try simp only [nA, nB, nC]
 clear HX
 replace K2 := ka HB8 K2
 replace HB0 := hid (HB0.out.trans (HB8.out.mono (Nat.le_trans HW.out HB0.out.size)))
 replace HO := hid (HO.out.trans (ok_below HB8.out))
 replace HI := hid (HI.out.below HB8.out)
 refine qc #[(.pointer (some ⟨p, 0, none⟩)), (.slice (some ⟨g5, 0, none⟩) 2 2)] ?_
 refine (writeAll_any (ws_blk (xs := [(.word h), (.word [40])]) (by simp) K6.out (fun i x hx => by
     match i, hx with
     | 0, hx => cases hx; exact ⟨_, rfl, .word _⟩
     | 1, hx => cases hx; exact ⟨_, rfl, .word _⟩
     | _ + 2, hx => cases hx)) (fun x hx => by
     simp only [List.mem_cons, List.not_mem_nil, or_false] at hx
     rcases hx with rfl | rfl
     ·exact write_okw _
     ·exact write_okw _
     ) HI.out (by have := HL.out; (try simp only [fw, List.length_append, List.length_cons, List.length_nil] at this); (try simp only [fw, fws, List.length_append, List.length_cons, List.length_nil]); omega) (Nat.le_trans HW.out HB0.out.size)).mono ?_
 rintro e w9 ⟨rfl, hq⟩
 refine ⟨_, rfl, ?_⟩
 obtain ⟨hi, hb, ho⟩ := hq
 replace K2 := hid (ok_at ho HI.out K2.out (by decide) (by decide))
 replace K6 := hid (ok_at ho HI.out K6.out (by decide) (by decide))
 replace HB0 := hid (HB0.out.trans hb)
 replace HO := hid (HO.out.trans ho)
 replace HI := hid hi
 clear hi hb ho
 try simp only [Act.put, nA, nB, nC]
 refine we ?_
 go_upto_region 2 with fail
 refine rl ?_
 refine qf (fa_show_list_1 g1 0) ?_
 refine ql (.slice a N c) Tryz.isAgg65 1 K2 ?_
 simp only [nA, nB, nC]
 refine wp_y (v := (.int .i64 ((N : Nat)))) rfl rfl (y_lenT len_Sshow_writer (p := a) (n := N) (c := c) rfl (by kernel_rfl) (by kernel_rfl)) rfl ?_
 simp only [nA, nB, nC]
 refine qv (.int .i64 0) ?_
 simp only [nA, nB, nC]
 refine we ?_
 go_wp2_with fail
 go_loopw [16] (fun v16 wr => ∃ j : Nat, j ≤ N ∧ v16 = .int .i64 j ∧ IsB B wr p (l ++ h ++ [40] ++ fwl true (ps.take j)) ∧ Below B w wr ∧ OkP p w wr) (fun v16 _ => N - (intOf v16).toNat)
 case atStart =>
  exact ⟨0, Nat.zero_le _, rfl, by simpa [fws, fw, fwl] using HI.out, HB0.out, HO.out⟩
 case round =>
  obtain ⟨j, hj, rfl, hI, hB, hO⟩ := hrel
  clear HI HB0 HO
  have HI := hid hI
  have HB0 := hid hB
  have HO := hid hO
  have HJJ := hid hj
  clear hI hB hO hj
  go_upto_region 3 with fail
  refine rl ?_
  rcases bt (decide (((j : Nat) : Int) < ((N : Nat) : Int))) with Hhb10 | Hhb10
  ·have hlt : j < N := by have := of_decide_eq_true Hhb10.out; omega
   obtain ⟨x, hx⟩ : ∃ x, ps[j]? = some x := ⟨_, List.getElem?_eq_getElem (by rw [HN.out]; exact hlt)⟩
   obtain ⟨b, o, cs, z, v, rfl, hb, hc, hv⟩ := HS.out wr HO.out j x hx
   have HLT := hid hlt
   have HCE := hid (cell_at hb (o + j) hc)
   have HV := hid hv
   have HXX := hid (HX.out x (List.mem_of_getElem? hx))
   have HJ := hid hx
   have HS1 := hid (wrap_next hlt HM.out)
   have HLX : Hid ((l ++ h ++ [40] ++ fwl true (ps.take j)).length + (bif decide ((0 : Int) < ((j : Nat) : Int)) then ([44, 32] : List UInt8) else []).length + (fw x).length ≤ 140737488355328) := hid (by have h1 := HL.out; have h2 := fwl_le true ps (j + 1); rw [fwl_next hx] at h2; simp only [fw, List.length_append, List.length_cons, List.length_nil] at h1 h2 ⊢; omega)
   clear hlt hx hb hc hv
   refine qb (blss_int ((j : Nat) : Int) ((N : Nat) : Int) true Hhb10.out) ?_
   simp only [nA, nB, nC]
   refine we ?_
   go_upto_region 4 with fail
   refine rl ?_
   refine qv (.int .i64 (((j : Nat) : Int))) ?_
   simp only [nA, nB, nC]
   refine wp_y (v := (.pointer (some ⟨b, o + j, none⟩))) rfl rfl (y_index rfl (hr := idx_w b o N c j HLT.out)) rfl ?_
   simp only [nA, nB, nC]
   refine wp_y (v := v) rfl rfl (y_load rfl (hl := fun w' h => by rw [h]; exact load1 Tryz.isAgg36 HCE.out)) rfl ?_
   simp only [nA, nB, nC]
   refine qv (.int .i64 (((j : Nat) : Int))) ?_
   refine qv v ?_
   simp only [nA, nB, nC]
   refine we ?_
   go_upto_region 5 with fail
   refine rl ?_
   refine qv (.int .i64 (((j : Nat) : Int))) ?_
   simp only [nA, nB, nC]
   rcases bt (decide ((0 : Int) < ((j : Nat) : Int))) with Hhb11 | Hhb11
   ·replace HLX := hid (by have h9 := HLX.out; rw [Hhb11.out] at h9; simp only [cond_true] at h9; exact h9)
    refine qb (bgtr_int ((j : Nat) : Int) 0 true Hhb11.out) ?_
    simp only [nA, nB, nC]
    refine we ?_
    go_upto_region 6 with fail
    refine rl ?_
    refine qv (.pointer (some ⟨p, 0, none⟩)) ?_
    simp only [nA, nB, nC]
    refine qc #[(.pointer (some ⟨p, 0, none⟩)), (strV [44, 32])] ?_
    refine (writeString_any [44, 32] HI.out (by have := HLX.out; simp only [List.length_append, List.length_cons, List.length_nil] at this ⊢; omega) (Nat.le_trans HW.out HB0.out.size)).mono ?_
    rintro e w12 ⟨rfl, hq⟩
    refine ⟨_, rfl, ?_⟩
    obtain ⟨hi, hb, ho⟩ := hq
    replace HV := hid (HV.out.keep (kpw_ok ho HI.out))
    replace HB0 := hid (HB0.out.trans hb)
    replace HO := hid (HO.out.trans ho)
    replace HI := hid hi
    clear hi hb ho
    try simp only [Act.put, nA, nB, nC]
    refine we ?_
    go_upto_region 7 with fail
    refine rl ?_
    refine qv v ?_
    refine qv (.pointer (some ⟨p, 0, none⟩)) ?_
    simp only [nA, nB, nC]
    obtain ⟨T, pv, f1, args1, -, hen, hca⟩ := HXX.out B p _ _ _ HV.out HI.out (by have := HLX.out; simp only [List.length_append, List.length_cons, List.length_nil] at this ⊢; omega) (Nat.le_trans HW.out HB0.out.size)
    have HEN := hid hen
    have HCA := hid hca
    clear hen hca
    refine wp_calle (f := f1) (args := args1) rfl rfl (enter_inv rfl (by kernel_rfl) (by kernel_rfl) HEN.out) ?_
    refine (HCA.out).mono ?_
    rintro e w13 ⟨rfl, hq⟩
    refine ⟨_, rfl, ?_⟩
    obtain ⟨hi, hb, ho⟩ := hq
    replace HV := hid (HV.out.keep (kpw_ok ho HI.out))
    replace HB0 := hid (HB0.out.trans hb)
    replace HO := hid (HO.out.trans ho)
    replace HI := hid hi
    clear hi hb ho
    try simp only [nA, nB, nC]
    refine we ?_
    go_upto_region 8 with fail
    refine rl ?_
    refine qb (badd_int ((j : Nat) : Int) 1 ((j + 1 : Nat) : Int) HS1.out) ?_
    refine qv (.int .i64 (((j + 1 : Nat) : Int))) ?_
    simp only [nA, nB, nC]
    refine we ?_
    go_wp2_with fail
    exact ⟨⟨j + 1, HLT.out, rfl, by have h9 := HI.out; rw [fwl_next HJ.out, Hhb11.out]; simpa using h9, HB0.out, HO.out⟩, by have := HLT.out; simp [intOf]; omega⟩
   ·replace HLX := hid (by have h9 := HLX.out; rw [Hhb11.out] at h9; simp only [cond_false] at h9; exact h9)
    refine qb (bgtr_int ((j : Nat) : Int) 0 false Hhb11.out) ?_
    simp only [nA, nB, nC]
    refine we ?_
    go_upto_region 7 with fail
    refine rl ?_
    refine qv v ?_
    refine qv (.pointer (some ⟨p, 0, none⟩)) ?_
    simp only [nA, nB, nC]
    obtain ⟨T, pv, f1, args1, -, hen, hca⟩ := HXX.out B p _ _ _ HV.out HI.out (by have := HLX.out; simp only [List.length_append, List.length_cons, List.length_nil] at this ⊢; omega) (Nat.le_trans HW.out HB0.out.size)
    have HEN := hid hen
    have HCA := hid hca
    clear hen hca
    refine wp_calle (f := f1) (args := args1) rfl rfl (enter_inv rfl (by kernel_rfl) (by kernel_rfl) HEN.out) ?_
    refine (HCA.out).mono ?_
    rintro e w14 ⟨rfl, hq⟩
    refine ⟨_, rfl, ?_⟩
    obtain ⟨hi, hb, ho⟩ := hq
    replace HV := hid (HV.out.keep (kpw_ok ho HI.out))
    replace HB0 := hid (HB0.out.trans hb)
    replace HO := hid (HO.out.trans ho)
    replace HI := hid hi
    clear hi hb ho
    try simp only [nA, nB, nC]
    refine we ?_
    go_upto_region 8 with fail
    refine rl ?_
    refine qb (badd_int ((j : Nat) : Int) 1 ((j + 1 : Nat) : Int) HS1.out) ?_
    refine qv (.int .i64 (((j + 1 : Nat) : Int))) ?_
    simp only [nA, nB, nC]
    refine we ?_
    go_wp2_with fail
    exact ⟨⟨j + 1, HLT.out, rfl, by have h9 := HI.out; rw [fwl_next HJ.out, Hhb11.out]; simpa using h9, HB0.out, HO.out⟩, by have := HLT.out; simp [intOf]; omega⟩
  ·have hlt : j = N := by have := of_decide_eq_false Hhb10.out; have := HJJ.out; omega
   replace HI : Hid (IsB B wr p (l ++ h ++ [40] ++ fwl true ps)) := hid (by have := HI.out; rw [hlt, List.take_of_length_le (by rw [HN.out]; exact Nat.le_refl _)] at this; exact this)
   clear hlt
   refine qb (blss_int ((j : Nat) : Int) ((N : Nat) : Int) false Hhb10.out) ?_
   simp only [nA, nB, nC]
   refine we ?_
   go_upto_region 9 with fail
   refine rl ?_
   refine qv (.pointer (some ⟨p, 0, none⟩)) ?_
   simp only [nA, nB, nC]
   refine qc #[(.pointer (some ⟨p, 0, none⟩)), (strV [41])] ?_
   refine (writeString_any [41] HI.out (by have := HL.out; (try simp only [fw, List.length_append, List.length_cons, List.length_nil] at this); (try simp only [List.length_append, List.length_cons, List.length_nil]); omega) (Nat.le_trans HW.out HB0.out.size)).mono ?_
   rintro e w15 ⟨rfl, hq⟩
   refine ⟨_, rfl, ?_⟩
   obtain ⟨hi, hb, ho⟩ := hq
   replace HB0 := hid (HB0.out.trans hb)
   replace HO := hid (HO.out.trans ho)
   replace HI := hid hi
   clear hi hb ho
   try simp only [Act.put, nA, nB, nC]
   refine we ?_
   go_wp2_with fail
   exact bodyPost_end (results_none rfl _ _ _) rfl ⟨rfl, by have := HI.out; simpa [fw] using this, HB0.out, HO.out⟩
theorem write_ok (x : Wr) : WOk x := by
 induction x using Wr.ind with
 | h1 s => exact write_okw s
 | h2 h ps ih =>
   intro B p l w v hv hI hlen hBw
   cases hv with
   | list _ _ a c vs hl hc hk => exact ⟨_, _, _, _, rfl, cm_list _ _, write_list h ih (Ws.mk' hl hc hk) hI hlen hBw⟩
 | h3 s k ih =>
   intro B p l w v hv hI hlen hBw
   cases hv with
   | unary _ _ v h => exact ⟨_, _, _, _, rfl, cm_unary _ _, write_unary s k v ih h hI hlen hBw⟩
 | h4 s a b iha ihb =>
   intro B p l w v hv hI hlen hBw
   cases hv with
   | binary _ _ _ v u h h' => exact ⟨_, _, _, _, rfl, cm_binary _ _, write_binary s a b v u iha ihb h h' hI hlen hBw⟩
 | h5 a b c iha ihb ihc =>
   intro B p l w v hv hI hlen hBw
   cases hv with
   | choice _ _ _ v u t h h' h'' => exact ⟨_, _, _, _, rfl, cm_choice _ _, write_choice a b c v u t iha ihb ihc h h' h'' hI hlen hBw⟩
 | h6 ps ih =>
   intro B p l w v hv hI hlen hBw
   cases hv with
   | row _ a c vs hl hc hk => exact ⟨_, _, _, _, rfl, cm_row _ _, write_row ih (Ws.mk' hl hc hk) hI hlen hBw⟩
 | h7 ps ih =>
   intro B p l w v hv hI hlen hBw
   cases hv with
   | rows _ a c vs hl hc hk => exact ⟨_, _, _, _, rfl, cm_rows _ _, write_rows ih (Ws.mk' hl hc hk) hI hlen hBw⟩
end Go.Proofs.YtgpkcjpanpbhdaaGreatDoor
