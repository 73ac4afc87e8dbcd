/- texts put together: PBuild PState PHead PStat PWith PChunk PAlso PAlsoW -/
import Derived.Test.YtcmgclkbhhdnaaaGreatDoorPGa
import Derived.Laws.BitsAllLaws
import Derived.Lib.BufferWrite
import Derived.RangeFuncNested
import Derived.RegionIn
import Derived.Sort.QuietIn
namespace Go.Proofs.YtcmgclkbhhdnaaaGreatDoor
open Go Go.RowKit

theorem fill_one (pl : Nat → Option (Nat × Nat)) (z : Array Value) (i off n : Nat) (v : Value) (cs : List Value) (rest : List (Nat × Value)) (hv : v.cells = cs.toArray) (hn : cs.length = n) (hp : pl i = some (off, n)) (hb : off + n ≤ z.size) :
    Instr.fill pl z ((i, v) :: rest) = Instr.fill pl (relaid z off cs) rest := by
  rw [Instr.fill]
  simp only [hp, hv, List.size_toArray, hn]
  rw [if_neg (by simp; omega)]
  congr 1
  apply Array.ext_getElem?
  intro j
  have h := fold_get cs 0 off z j (by omega)
  rw [← Array.foldl_toList, Array.toList_zipIdx]
  simp only at h ⊢
  rw [h]
  by_cases h1 : j < off
  · rw [relaid_out z off cs (by omega) j (.inl h1)]
    simp; omega
  · by_cases h2 : j < off + cs.length
    · obtain ⟨d, rfl⟩ : ∃ d, j = off + d := ⟨j - off, by omega⟩
      rw [relaid_in z off cs (by omega) d (by omega)]
      simp; omega
    · rw [relaid_out z off cs (by omega) j (.inr (by omega))]
      simp; omega
theorem fill_end (pl : Nat → Option (Nat × Nat)) (z : Array Value) : Instr.fill pl z [] = some z := rfl
theorem build_struct {T : TypeId} {fs : Array Field} {z : Array Value} {pl : Array (Nat × Nat)} {parts : Array (Nat × Value)} {c : Array Value} (hu : Tryz.prog.underlying T = some (.struct fs)) (hz : ∀ w, (zeroValue T).run Tryz.prog w = .ok (.agg z) w)
    (hp : ∀ w, (fs.mapM fun (f : Field) => do pure (f.offset, ← Go.sizeOf f.type)).run Tryz.prog w = .ok pl w) (hf : Instr.fill (pl[·]?) z parts.toList = some c) (w : World) : (Instr.build T parts).run Tryz.prog w = .ok (.agg c) w := by
  unfold Instr.build
  simp only [Sem.run_bind, hz, Result.andThen_ok, run_underlying hu]
  have h := hp w
  simp only [Value.cells]
  rw [h, Result.andThen_ok, hf]
  rfl
theorem size74 : (Tryz.prog.info? 74).map (·.size) = some 1023 := by kernel_rfl
theorem relaid_cons (x y : Value) (l : List Value) : relaid (x :: l).toArray 0 [y] = (y :: l).toArray := by simp [relaid]
theorem relaid_c1 (x a y : Value) (l : List Value) : relaid (x :: a :: l).toArray 1 [y] = (x :: y :: l).toArray := by simp [relaid]
theorem relaid_c2 (x a b y : Value) (l : List Value) : relaid (x :: a :: b :: l).toArray 2 [y] = (x :: a :: y :: l).toArray := by simp [relaid]
theorem useB_none (n : Nat) (h : n ≤ 1023) : useB (List.replicate n false) = useB [] := by
  unfold useB
  rw [List.map_replicate, List.length_replicate, List.map_nil, List.nil_append, List.length_nil]
  show List.replicate n 0 ++ _ = _
  rw [List.replicate_append_replicate]
  congr 1; omega
set_option maxRecDepth 100000 in
theorem pbuild76 (n : Nat) (h : n ≤ 1023) (w : World) : (Instr.build 76 #[(0, .int .i64 n), (1, .int .i64 n), (2, .int .i64 (-1))]).run Tryz.prog w = .ok (St (List.replicate n false) n (-1)) w := by
  refine build_struct (pl := #[(0, 1), (1, 1), (2, 1), (3, 1023)]) (z := (stC [] 0 0).toArray) Tryz.underlying76 zero76p (fun w => by simp [Tryz.sizeOf3, run_size size74]) ?_ w
  have hs : (stC [] 0 0).toArray.size = 1026 := stC_size [] 0 0 (by simp)
  rw [fill_one _ _ 0 0 1 _ [.int .i64 n] _ rfl rfl rfl (by rw [hs]; decide)]
  unfold stC
  rw [relaid_cons, fill_one _ _ 1 1 1 _ [.int .i64 n] _ rfl rfl rfl (by simp), relaid_c1, fill_one _ _ 2 2 1 _ [.int .i64 (-1)] _ rfl rfl rfl (by simp), relaid_c2, fill_end, useB_none n h, List.length_replicate]
theorem pbuild76e (w : World) : (Instr.build 76 #[]).run Tryz.prog w = .ok (St [] 0 0) w :=
  build_struct (pl := #[(0, 1), (1, 1), (2, 1), (3, 1023)]) (z := (stC [] 0 0).toArray) Tryz.underlying76 zero76p (fun w => by simp [Tryz.sizeOf3, run_size size74]) rfl w
theorem pbuild87 (lf rt : Int) (w : World) : (Instr.build 87 #[(1, .int .i64 lf), (2, .int .i64 rt)]).run Tryz.prog w = .ok (Ch false lf rt none none) w := by
  refine build_struct (pl := #[(0, 1), (1, 1), (2, 1), (3, 1), (4, 1)]) (z := (chC false 0 0 none none).toArray) Tryz.underlying87 zero87 (fun w => by simp [Tryz.sizeOf3, Tryz.sizeOf4, Tryz.sizeOf82, Tryz.sizeOf85]) ?_ w
  unfold chC
  rw [fill_one _ _ 1 1 1 _ [.int .i64 lf] _ rfl rfl rfl (by simp), relaid_c1, fill_one _ _ 2 2 1 _ [.int .i64 rt] _ rfl rfl rfl (by simp), relaid_c2, fill_end]
theorem pbuild109 (w : World) : (Instr.build 109 #[]).run Tryz.prog w = .ok (V8 z896) w := by
  unfold Instr.build
  simp only [Sem.run_bind, zero109, Result.andThen_ok, run_underlying under109, Tryz.sizeOf5]
  rfl
/-- A pager's cells, of a journal or none. -/
def pgZ (x : Value) (l : List Bool) (kl kr : Int) (bg : Bool) (lf rt : Int) (um bm : Option Nat) : List Value := x :: (stC l kl kr ++ (chC bg lf rt um bm ++ [.int .i64 0]))
theorem zero90 (w : World) : (zeroValue 90).run Tryz.prog w = .ok (.agg (pgZ (.pointer none) [] 0 0 false 0 0 none none).toArray) w := (zero_of_info (n := 1033) (by kernel_rfl)).1 w
theorem pgZ_size (x : Value) (l : List Bool) (kl kr : Int) (bg : Bool) (lf rt : Int) (um bm : Option Nat) (h : l.length ≤ 1023) : (pgZ x l kl kr bg lf rt um bm).toArray.size = 1033 := by
  rw [List.size_toArray]; simp only [pgZ, List.length_cons, List.length_append, stC_len l kl kr h]; rfl
set_option maxRecDepth 100000 in
theorem pbuild90 (j : Nat) (l : List Bool) (kl kr lf rt : Int) (h : l.length ≤ 1023) (w : World) : (Instr.build 90 #[(0, .pointer (some ⟨j, 0, none⟩)), (1, St l kl kr), (2, Ch false lf rt none none)]).run Tryz.prog w = .ok (.agg (pgC j l kl kr false lf rt none none 0).toArray) w := by
  refine build_struct (pl := #[(0, 1), (1, 1026), (1027, 5), (1032, 1)]) (z := (pgZ (.pointer none) [] 0 0 false 0 0 none none).toArray) Tryz.underlying90 zero90 (fun w => by simp [Tryz.sizeOf25, Tryz.sizeOf33, run_size size76p, run_size size87]) ?_ w
  have h0 : ([] : List Bool).length ≤ 1023 := by simp
  rw [fill_one _ _ 0 0 1 _ [.pointer (some ⟨j, 0, none⟩)] _ rfl rfl rfl (by rw [pgZ_size _ _ _ _ _ _ _ _ _ h0]; decide)]
  unfold pgZ
  rw [relaid_cons]
  have e0 : (Value.pointer (some ⟨j, 0, none⟩) :: (stC [] 0 0 ++ (chC false 0 0 none none ++ [.int .i64 0]))).toArray.size = 1033 := pgZ_size (.pointer (some ⟨j, 0, none⟩)) [] 0 0 false 0 0 none none h0
  rw [fill_one _ _ 1 1 1026 _ (stC l kl kr) _ rfl (stC_len l kl kr h) rfl (by rw [e0]; decide)]
  have e1 : relaid (Value.pointer (some ⟨j, 0, none⟩) :: (stC [] 0 0 ++ (chC false 0 0 none none ++ [.int .i64 0]))).toArray 1 (stC l kl kr) = (Value.pointer (some ⟨j, 0, none⟩) :: (stC l kl kr ++ (chC false 0 0 none none ++ [.int .i64 0]))).toArray := by
    unfold relaid
    simp only [List.take_succ_cons, List.take_zero, List.cons_append, List.nil_append, stC_len l kl kr h]
    rw [show 1 + 1026 = 1026 + 1 from rfl, List.drop_succ_cons]
    congr 2
  rw [e1]
  have e2 : (Value.pointer (some ⟨j, 0, none⟩) :: (stC l kl kr ++ (chC false 0 0 none none ++ [.int .i64 0]))).toArray.size = 1033 := pgZ_size (.pointer (some ⟨j, 0, none⟩)) l kl kr false 0 0 none none h
  rw [fill_one _ _ 2 1027 5 _ (chC false lf rt none none) _ rfl rfl rfl (by rw [e2]; decide), fill_end]
  congr 1
  unfold relaid pgC
  have e3 : (Value.pointer (some ⟨j, 0, none⟩) :: (stC l kl kr ++ (chC false 0 0 none none ++ [.int .i64 0]))).take 1027 = .pointer (some ⟨j, 0, none⟩) :: stC l kl kr := by
    rw [show 1027 = 1026 + 1 from rfl, List.take_succ_cons, List.take_append_of_le_length (by rw [stC_len l kl kr h]; exact Nat.le_refl _), List.take_of_length_le (by rw [stC_len l kl kr h]; exact Nat.le_refl _)]
  have e4 : (Value.pointer (some ⟨j, 0, none⟩) :: (stC l kl kr ++ (chC false 0 0 none none ++ [.int .i64 0]))).drop (1027 + 5) = [.int .i64 0] := by
    rw [show 1027 + 5 = (1026 + 5) + 1 from rfl, List.drop_succ_cons, List.drop_append, stC_len l kl kr h, List.drop_of_length_le (by rw [stC_len l kl kr h]; omega)]
    rfl
  show (List.take 1027 _ ++ _ ++ List.drop (1027 + 5) _).toArray = _
  rw [e3, e4]
  simp
theorem pbox90 (w : World) (j : Nat) (l : List Bool) (kl kr : Int) (bg : Bool) (lf rt : Int) (um bm : Option Nat) (off : Int) : (Instr.box 90 (.agg (pgC j l kl kr bg lf rt um bm off).toArray)).run Tryz.prog w = .ok (.pointer (some ⟨w.heap.size, 0, none⟩)) (w.alloc (.cells (pgC j l kl kr bg lf rt um bm off).toArray 90)) := box_agg _ w _
end Go.Proofs.YtcmgclkbhhdnaaaGreatDoor
namespace Go.Proofs.YtcmgclkbhhdnaaaGreatDoor
open Go Go.RowKit

/-- A value that is returned out of its cell. -/
theorem ret_cell {f : Func} {R : Ending → World → Prop} {a : Act} {w : World} {p : Tmp} {ty : TypeId} {b : Nat} {v : Value} (hf : f.results = #[.cell p ty]) (hd : a.defers = []) (hp : a.tmps.getD p undef = .pointer (some ⟨b, 0, none⟩))
    (hl : (Instr.loadAt ty (.pointer (some ⟨b, 0, none⟩))).run Tryz.prog w = .ok v w) (hR : R (.returned v) w) : bodyPost Tryz.prog f R .ret a w := by
  refine bodyPost_ret (v := v) ?_ hd hR
  have hl' : (loadVar ty ⟨b, 0, none⟩).run Tryz.prog w = .ok v w := by
    simpa [Instr.loadAt, Instr.sureAddr, Sem.run_bind, Sem.run_pure, Result.andThen] using hl
  rw [results_cell1 hf, hp]
  simp only [asAddr, Sem.run_pure, Result.andThen]
  exact hl'
set_option maxRecDepth 100000 in
set_option maxHeartbeats 800000 in
theorem empty_any (n : Nat) (h : n ≤ 1023) (w : World) : Calls Tryz.prog 79 #[.int .i64 n] w fun e w' => e = .returned (St (List.replicate n false) n (-1)) ∧ Below w.heap.size w w' := by
  have hl : (List.replicate n false).length ≤ 1023 := by rw [List.length_replicate]; exact h
  have hl0 : ([] : List Bool).length ≤ 1023 := by simp
  have hS : Sb (w.alloc (.cells (stC [] 0 0).toArray 76)) w.heap.size [] 0 0 := heap_alloc_last w _
  have hB : Below w.heap.size w (w.alloc (.cells (stC [] 0 0).toArray 76)) := (Below.refl _ _).alloc (Nat.le_refl _) _
  have HST := hid (pstore76 hl0 hl hS (kl' := n) (kr' := -1))
  have hS2 := hS.row (List.replicate n false) n (-1)
  have HL := hid (pload76 hl hS2)
  have HBD := hid (pbuild76 n h)
  have HZ := hid (hB.trans ((Fr.setRow (w.alloc (.cells (stC [] 0 0).toArray 76)) w.heap.size (stC (List.replicate n false) n (-1)).toArray).below hB.size (by simp)))
  clear hS hB hS2 hl hl0 h
  go_enter Tryz.func79, Tryz.ntmps79
  go_upto_region 0 with fail
  refine wp_region_lit ?_
  refine wp_run (v := .pointer (some ⟨w.heap.size, 0, none⟩)) rfl rfl (run_alOp rfl (palloc76 w)) rfl ?_
  try simp only [List.setIfInBounds_toArray, List.set_cons_zero, List.set_cons_succ]
  refine wp_end ?_
  go_upto_region 1 with fail
  refine wp_region_lit ?_
  refine wp_y (v := .int .i64 n) rfl rfl (y_move rfl) rfl ?_
  refine wp_y (v := .int .i64 n) rfl rfl (y_move rfl) rfl ?_
  refine wp_run (v := St (List.replicate n false) n (-1)) rfl rfl (run_buildOp rfl (by kernel_rfl) (HBD.out _)) rfl ?_
  refine wp_do rfl rfl (run_storeOp rfl (by kernel_rfl) (by kernel_rfl) HST.out) ?_
  try simp only [List.setIfInBounds_toArray, List.set_cons_zero, List.set_cons_succ]
  refine wp_end ?_
  go_wp2_with fail
  exact ret_cell rfl rfl rfl HL.out ⟨rfl, HZ.out⟩
set_option maxRecDepth 100000 in
set_option maxHeartbeats 800000 in
theorem unchanged_any (l : List Bool) (kl kr : Int) (w : World) : Calls Tryz.prog 42 #[St l kl kr] w fun e w' => e = .returned (Ch false kl kr none none) ∧ Below w.heap.size w w' := by
  have hbx := pbox76 w l kl kr
  have hB1 : Below w.heap.size w (w.alloc (.cells (stC l kl kr).toArray 76)) := (Below.refl _ _).alloc (Nat.le_refl _) _
  have hS1 : Sb (w.alloc (.cells (stC l kl kr).toArray 76)) w.heap.size l kl kr := heap_alloc_last w _
  have hsz : (w.alloc (.cells (stC l kl kr).toArray 76)).heap.size = w.heap.size + 1 := by show (w.heap.push _).size = _; simp
  generalize hw1 : w.alloc (.cells (stC l kl kr).toArray 76) = w1 at *
  have hal := alloc87 w1
  have hB2 : Below w1.heap.size w1 (w1.alloc (.cells (chC false 0 0 none none).toArray 87)) := (Below.refl _ _).alloc (Nat.le_refl _) _
  have hC2 : Cb (w1.alloc (.cells (chC false 0 0 none none).toArray 87)) w1.heap.size false 0 0 none none := heap_alloc_last w1 _
  generalize hw2 : w1.alloc (.cells (chC false 0 0 none none).toArray 87) = w2 at *
  have hS2 := hS1.below hB2 (by omega)
  obtain ⟨g1, hg1⟩ : ∃ g, w1.heap.size = g := ⟨_, rfl⟩
  obtain ⟨g0, hg0⟩ : ∃ g, w.heap.size = g := ⟨_, rfl⟩
  rw [hg1] at hal hC2
  rw [hg0] at hbx hS2
  have HBX := hid hbx
  have HAL := hid hal
  have HC1 := hid (load1 Tryz.isAgg3 hS2.c1)
  have HC2 := hid (load1 Tryz.isAgg3 hS2.c2)
  have HBD := hid (pbuild87 kl kr)
  have HST := hid (store87 hC2 (bg' := false) (lf' := kl) (rt' := kr) (um' := none) (bm' := none))
  have hC3 := hC2.row false kl kr none none
  have HL := hid (load87 hC3)
  have HZ : Hid (Below w.heap.size w (w2.setRow g1 (chC false kl kr none none).toArray)) := hid ((hB1.trans (hB2.mono (by omega))).trans ((Fr.setRow w2 g1 _).below (Nat.le_trans hB1.size hB2.size) (by simp; omega)))
  clear hS1 hS2 hB1 hB2 hC2 hC3 hbx hal hsz hw1 hw2 hg0 hg1
  go_enter Tryz.func42, Tryz.ntmps42
  go_upto_region 0 with fail
  refine wp_region_lit ?_
  refine wp_run (v := .pointer (some ⟨g0, 0, none⟩)) rfl rfl (run_boxOp rfl (by kernel_rfl) HBX.out) rfl ?_
  refine wp_run (v := .pointer (some ⟨g1, 0, none⟩)) rfl rfl (run_alOp rfl HAL.out) rfl ?_
  try simp only [List.setIfInBounds_toArray, List.set_cons_zero, List.set_cons_succ]
  refine wp_end ?_
  go_upto_region 1 with fail
  refine wp_region_lit ?_
  refine wp_y (v := .pointer (some ⟨g0, 1, none⟩)) rfl rfl (y_faddr rfl (hf := fg76_1 (g0) (0))) rfl ?_
  refine wp_y (v := .int .i64 kl) rfl rfl (y_load rfl (hl := fun w' h => by rw [h]; exact HC1.out)) rfl ?_
  refine wp_y (v := .pointer (some ⟨g0, 2, none⟩)) rfl rfl (y_faddr rfl (hf := fg76_2 (g0) (0))) rfl ?_
  refine wp_y (v := .int .i64 kr) rfl rfl (y_load rfl (hl := fun w' h => by rw [h]; exact HC2.out)) rfl ?_
  refine wp_run (v := Ch false kl kr none none) rfl rfl (run_buildOp rfl (by kernel_rfl) (HBD.out _)) rfl ?_
  refine wp_do rfl rfl (run_storeOp rfl (by kernel_rfl) (by kernel_rfl) HST.out) ?_
  try simp only [List.setIfInBounds_toArray, List.set_cons_zero, List.set_cons_succ]
  refine wp_end ?_
  go_wp2_with fail
  exact ret_cell rfl rfl rfl HL.out ⟨rfl, HZ.out⟩
theorem qadd (a b c : Int) (h : IntKind.i64.wrap (a + b) = c) (w : World) : (binOp .add 3 (.int .i64 a) (.int .i64 b)).run Tryz.prog w = .ok (.int .i64 c) w := by subst h; go_simp
theorem qsub (a b c : Int) (h : IntKind.i64.wrap (a - b) = c) (w : World) : (binOp .sub 3 (.int .i64 a) (.int .i64 b)).run Tryz.prog w = .ok (.int .i64 c) w := by subst h; go_simp
theorem qmul (a b c : Int) (h : IntKind.i64.wrap (a * b) = c) (w : World) : (binOp .mul 3 (.int .i64 a) (.int .i64 b)).run Tryz.prog w = .ok (.int .i64 c) w := by subst h; go_simp
theorem qlss (a b : Int) (r : Bool) (h : decide (a < b) = r) (w : World) : (binOp .lss 3 (.int .i64 a) (.int .i64 b)).run Tryz.prog w = .ok (.bool r) w := by subst h; go_simp
theorem qeql (a b : Int) (r : Bool) (h : (a == b) = r) (w : World) : (binOp .eql 3 (.int .i64 a) (.int .i64 b)).run Tryz.prog w = .ok (.bool r) w := by subst h; go_simp
theorem qeqlU (a b : Int) (r : Bool) (h : (a == b) = r) (w : World) : (binOp .eql 73 (.int .u8 a) (.int .u8 b)).run Tryz.prog w = .ok (.bool r) w := by subst h; go_simp
theorem qshr8 (n : Nat) (w : World) : (binOp .shr 3 (.int .i64 n) (.int .u64 8)).run Tryz.prog w = .ok (.int .i64 ((n / 256 : Nat) : Int)) w := by
  have e : (n : Int).fdiv 256 = ((n / 256 : Nat) : Int) := by rw [Int.fdiv_eq_ediv_of_nonneg _ (by decide)]; omega
  rw [← e]
  go_simp
theorem qu8 (n : Nat) (w : World) : (convert 3 5 (.int .i64 n)).run Tryz.prog w = .ok (cb (UInt8.ofNat n)) w := by
  have e : IntKind.u8.wrap (n : Int) = (((UInt8.ofNat n).toNat : Nat) : Int) := by rw [IntKind.wrap_u8]; simp
  unfold cb
  rw [← e]
  go_simp
theorem qint (x : UInt8) (w : World) : (convert 5 3 (cb x)).run Tryz.prog w = .ok (.int .i64 (x.toNat : Nat)) w := by
  have := x.toNat_lt
  have e : IntKind.i64.wrap ((x.toNat : Nat) : Int) = ((x.toNat : Nat) : Int) := IntWalk.i64_in _ ⟨by omega, by omega⟩
  unfold cb
  go_simp
theorem or_i64_nat (a b : Nat) (ha : a < 9223372036854775808) (hb : b < 9223372036854775808) : bits .or .i64 (a : Int) (b : Int) = ((a ||| b : Nat) : Int) := by
  have hx : a ||| b < 2 ^ 63 := Nat.or_lt_two_pow (by omega) (by omega)
  have h1 : (BitVec.ofInt 64 (a : Int)).toNat = a := by
    rw [BitVec.ofInt_natCast, BitVec.toNat_ofNat]; exact Nat.mod_eq_of_lt (by omega)
  have h2 : (BitVec.ofInt 64 (b : Int)).toNat = b := by
    rw [BitVec.ofInt_natCast, BitVec.toNat_ofNat]; exact Nat.mod_eq_of_lt (by omega)
  show IntKind.i64.wrap ((BitVec.ofInt 64 (a : Int) ||| BitVec.ofInt 64 (b : Int)).toNat : Int) = _
  rw [BitVec.toNat_or, h1, h2, IntKind.wrap_i64]
  omega
theorem qshl8 (n : Nat) (h : n < 65536) (w : World) : (binOp .shl 3 (.int .i64 n) (.int .u64 8)).run Tryz.prog w = .ok (.int .i64 ((n * 256 : Nat) : Int)) w := by
  have e : IntKind.i64.wrap ((n : Int) * 256) = ((n * 256 : Nat) : Int) := by rw [IntWalk.i64_in _ ⟨by omega, by omega⟩]; omega
  rw [← e]
  go_simp
theorem qor (a b : Nat) (ha : a < 65536) (hb : b < 256) (w : World) : (binOp .or 3 (.int .i64 ((a * 256 : Nat) : Int)) (.int .i64 b)).run Tryz.prog w = .ok (.int .i64 ((a * 256 + b : Nat) : Int)) w := by
  have h1 := or_i64_nat (a * 256) b (by omega) (by omega)
  have h2 : a * 256 ||| b = a * 256 + b := by
    have := Nat.two_pow_add_eq_or_of_lt (i := 8) (b := b) (by simpa using hb) a
    rw [show (2 : Nat) ^ 8 = 256 from rfl, Nat.mul_comm 256 a] at this
    omega
  rw [h2] at h1
  rw [← h1]
  generalize ((a * 256 : Nat) : Int) = x
  go_simp
set_option maxRecDepth 100000 in
set_option maxHeartbeats 1600000 in
theorem putNumber_any {w : World} {g : Nat} {h : List UInt8} (hg : Rw w g 70 h) (hl : h.length = 224) (at_ n : Nat) (ha : at_ + 1 < 224) :
    Calls Tryz.prog 113 #[.pointer (some ⟨g, 0, none⟩), .int .i64 at_, .int .i64 n] w fun e w' => e = .returned (.tuple #[]) ∧ Rw w' g 70 ((h.set at_ (UInt8.ofNat (n / 256))).set (at_ + 1) (UInt8.ofNat n)) ∧ Fr [g] w w' := by
  have hgd : Rw w.drew g 70 h := hg
  have hs1 := store5r hgd (by omega : at_ < h.length) (UInt8.ofNat (n / 256))
  have hg1 := hgd.set at_ (UInt8.ofNat (n / 256))
  have hs2 := store5r hg1 (by rw [List.length_set]; omega : at_ + 1 < _) (UInt8.ofNat n)
  have hg2 := hg1.set (at_ + 1) (UInt8.ofNat n)
  have hF : Fr [g] w ((w.drew.setCell ⟨g, at_, none⟩ (cb (UInt8.ofNat (n / 256)))).setCell ⟨g, at_ + 1, none⟩ (cb (UInt8.ofNat n))) := ((Fr.drew w).mono (by simp)).trans ((Fr.setCell _ _ _ _).trans (Fr.setCell _ _ _ _) (fun x hx => .inl hx)) (fun x hx => .inl hx)
  have HS1 := hid hs1
  have HS2 := hid hs2
  have HZ := hid (And.intro hg2 hF)
  have HAD : Hid (IntKind.i64.wrap ((at_ : Int) + 1) = ((at_ + 1 : Nat) : Int)) := hid (by rw [IntWalk.i64_in _ ⟨by omega, by omega⟩]; omega)
  have HA := hid ha
  clear hs1 hs2 hg1 hg2 hF hgd hg hl ha
  go_enter Tryz.func113, Tryz.ntmps113
  go_upto_region 0 with fail
  refine h_openL (S := fun _ => True) (by kernel_rfl) (by kernel_rfl) (fun _ _ _ _ _ h => h) (L := #[false, false, false, false, false, false, false, false, false, false, false, false, false, false, false, false]) (by kernel_rfl) ?_
  intro Q' hns hP hN
  have hS := trivial
  refine h_takeL (i := 0) (v := .pointer (some ⟨g, 0, none⟩)) hns rfl rfl (by kernel_rfl) (by kernel_rfl) hP (y_move rfl) hS rfl (L' := #[true, false, false, false, false, false, false, false, false, false, false, false, false, false, false, false]) (by kernel_rfl) ?_
  refine h_takeL (i := 1) (v := .int .i64 at_) hns rfl rfl (by kernel_rfl) (by kernel_rfl) hP (y_move rfl) hS rfl (L' := #[true, true, false, false, false, false, false, false, false, false, false, false, false, false, false, false]) (by kernel_rfl) ?_
  refine h_takeL (i := 2) (v := .pointer (some ⟨g, 0, none⟩)) hns rfl rfl (by kernel_rfl) (by kernel_rfl) hP (y_move rfl) hS rfl (L' := #[true, true, true, false, false, false, false, false, false, false, false, false, false, false, false, false]) (by kernel_rfl) ?_
  refine h_takeL (i := 3) (v := .int .i64 at_) hns rfl rfl (by kernel_rfl) (by kernel_rfl) hP (y_move rfl) hS rfl (L' := #[true, true, true, true, false, false, false, false, false, false, false, false, false, false, false, false]) (by kernel_rfl) ?_
  refine h_takeL (i := 4) (v := .int .i64 ((at_ + 1 : Nat) : Int)) hns rfl rfl (by kernel_rfl) (by kernel_rfl) hP (y_bin (k := .i64) (k' := .i64) (m := at_) (n := 1) rfl (by kernel_rfl) (by kernel_rfl) (by kernel_rfl) (qadd _ _ _ HAD.out)) hS rfl (L' := #[true, true, true, true, true, false, false, false, false, false, false, false, false, false, false, false]) (by kernel_rfl) ?_
  refine h_takeL (i := 5) (v := .int .i64 n) hns rfl rfl (by kernel_rfl) (by kernel_rfl) hP (y_move rfl) hS rfl (L' := #[true, true, true, true, true, true, false, false, false, false, false, false, false, false, false, false]) (by kernel_rfl) ?_
  refine h_takeL (i := 6) (v := .int .i64 ((n / 256 : Nat) : Int)) hns rfl rfl (by kernel_rfl) (by kernel_rfl) hP (y_bin (k := .i64) (k' := .u64) (m := n) (n := 8) rfl (by kernel_rfl) (by kernel_rfl) (by kernel_rfl) (qshr8 n)) hS rfl (L' := #[true, true, true, true, true, true, true, false, false, false, false, false, false, false, false, false]) (by kernel_rfl) ?_
  try simp only [List.setIfInBounds_toArray, List.set_cons_zero, List.set_cons_succ]
  refine h_takeL (i := 7) (v := cb (UInt8.ofNat (n / 256))) hns rfl rfl (by kernel_rfl) (by kernel_rfl) hP (y_cnv rfl (by kernel_rfl) (by kernel_rfl) (qu8 (n / 256))) hS rfl (L' := #[true, true, true, true, true, true, true, true, false, false, false, false, false, false, false, false]) (by kernel_rfl) ?_
  refine h_takeL (i := 8) (v := .int .i64 n) hns rfl rfl (by kernel_rfl) (by kernel_rfl) hP (y_move rfl) hS rfl (L' := #[true, true, true, true, true, true, true, true, true, false, false, false, false, false, false, false]) (by kernel_rfl) ?_
  refine h_takeL (i := 9) (v := cb (UInt8.ofNat n)) hns rfl rfl (by kernel_rfl) (by kernel_rfl) hP (y_cnv rfl (by kernel_rfl) (by kernel_rfl) (qu8 n)) hS rfl (L' := #[true, true, true, true, true, true, true, true, true, true, false, false, false, false, false, false]) (by kernel_rfl) ?_
  refine h_takeL (i := 10) (v := .pointer (some ⟨g, 0, none⟩)) hns rfl rfl (by kernel_rfl) (by kernel_rfl) hP (y_nil rfl) hS rfl (L' := #[true, true, true, true, true, true, true, true, true, true, true, false, false, false, false, false]) (by kernel_rfl) ?_
  refine h_takeL (i := 11) (v := .pointer (some ⟨g, at_, none⟩)) hns rfl rfl (by kernel_rfl) (by kernel_rfl) hP (y_index rfl (hr := ix70 g at_ (by have := HA.out; omega))) hS rfl (L' := #[true, true, true, true, true, true, true, true, true, true, true, true, false, false, false, false]) (by kernel_rfl) ?_
  refine h_takeL (i := 13) (v := .pointer (some ⟨g, 0, none⟩)) hns rfl rfl (by kernel_rfl) (by kernel_rfl) hP (y_nil rfl) hS rfl (L' := #[true, true, true, true, true, true, true, true, true, true, true, true, false, true, false, false]) (by kernel_rfl) ?_
  refine h_skipL (i := 12) (by kernel_rfl) rfl rfl (by kernel_rfl) (run_storeOp rfl (by kernel_rfl) (by kernel_rfl) HS1.out) trivial (L' := #[true, true, true, true, true, true, true, true, true, true, true, true, true, true, false, false]) (by kernel_rfl) ?_
  refine h_takeL (i := 14) (v := .pointer (some ⟨g, at_ + 1, none⟩)) hns rfl rfl (by kernel_rfl) (by kernel_rfl) hP (y_index rfl (hr := ix70 g (at_ + 1) HA.out)) hS rfl (L' := #[true, true, true, true, true, true, true, true, true, true, true, true, true, true, true, false]) (by kernel_rfl) ?_
  try simp only [List.setIfInBounds_toArray, List.set_cons_zero, List.set_cons_succ]
  refine h_skipL (i := 15) (by kernel_rfl) rfl rfl (by kernel_rfl) (run_storeOp rfl (by kernel_rfl) (by kernel_rfl) HS2.out) trivial (L' := #[true, true, true, true, true, true, true, true, true, true, true, true, true, true, true, true]) (by kernel_rfl) ?_
  try simp only [List.setIfInBounds_toArray, List.set_cons_zero, List.set_cons_succ]
  refine wpAnyH_done (by kernel_rfl) ?_ _
  refine hN _ _ ?_
  clear hP hN hns
  go_wp2_with fail
  go_end0
  exact ⟨rfl, HZ.out⟩
set_option maxRecDepth 100000 in
set_option maxHeartbeats 1600000 in
theorem number_any (h : List UInt8) (hl : h.length = 224) (at_ : Nat) (ha : at_ + 1 < 224) (w : World) :
    Calls Tryz.prog 82 #[V8 h, .int .i64 at_] w fun e w' => e = .returned (.int .i64 (((h.getD at_ 0).toNat * 256 + (h.getD (at_ + 1) 0).toNat : Nat) : Int)) ∧ Below w.heap.size w w' := by
  obtain ⟨g, hg⟩ : ∃ g, w.heap.size = g := ⟨_, rfl⟩
  have hbx := pbox70 w h
  have hB : Below w.heap.size w (w.alloc (.cells (cells8 h).toArray 70)) := (Below.refl _ _).alloc (Nat.le_refl _) _
  have hR : Rw (w.alloc (.cells (cells8 h).toArray 70)) w.heap.size 70 h := heap_alloc_last w _
  rw [hg] at hbx hR
  generalize w.alloc (.cells (cells8 h).toArray 70) = w1 at *
  have hd : Below w1.heap.size w1 w1.drew := (Below.refl _ _).drew
  have cell : ∀ k, k < 224 → ∀ w', Rw w' g 70 h → (Instr.loadAt 5 (.pointer (some ⟨g, k, none⟩))).run Tryz.prog w' = .ok (cb (h.getD k 0)) w' := fun k hk w' h' => by
    have hc := h'.rd k (by omega)
    rw [Nat.zero_add] at hc
    exact load1 Tryz.isAgg5 hc
  have HBX := hid hbx
  have HS : Hid (Rw w1.drew g 70 h) := hid hR
  have HC1 := hid (cell at_ (by omega))
  have HC2 := hid (cell (at_ + 1) ha)
  have HZ : Hid (Below w.heap.size w w1.drew) := hid (hB.trans (hd.mono hB.size))
  have HAD : Hid (IntKind.i64.wrap ((at_ : Int) + 1) = ((at_ + 1 : Nat) : Int)) := hid (by rw [IntWalk.i64_in _ ⟨by omega, by omega⟩]; omega)
  have HA := hid ha
  generalize hx : h.getD at_ 0 = x at *
  generalize hy : h.getD (at_ + 1) 0 = y at *
  have HX := hid x.toNat_lt
  have HY := hid y.toNat_lt
  clear hbx hB hR hd cell hg hl ha hx hy
  go_enter Tryz.func82, Tryz.ntmps82
  go_upto_region 0 with fail
  refine wp_region_lit ?_
  refine wp_run (v := .pointer (some ⟨g, 0, none⟩)) rfl rfl (run_boxOp rfl (by kernel_rfl) HBX.out) rfl ?_
  refine wp_y (v := (.int .i64 0)) rfl rfl (y_assign rfl) rfl ?_
  try simp only [List.setIfInBounds_toArray, List.set_cons_zero, List.set_cons_succ]
  refine wp_end ?_
  go_upto_region 1 with fail
  refine h_openL (S := fun w' => Rw w' g 70 h) (by kernel_rfl) (by kernel_rfl) (fun _ _ _ _ _ h => h) (L := #[false, false, false, false, false, false, false, false, false, false, false, false]) (by kernel_rfl) ?_
  intro Q' hns hP hN
  have hS := HS.out
  refine h_takeL (i := 0) (v := .int .i64 at_) hns rfl rfl (by kernel_rfl) (by kernel_rfl) hP (y_move rfl) hS rfl (L' := #[true, false, false, false, false, false, false, false, false, false, false, false]) (by kernel_rfl) ?_
  refine h_takeL (i := 1) (v := .pointer (some ⟨g, at_, none⟩)) hns rfl rfl (by kernel_rfl) (by kernel_rfl) hP (y_index rfl (hr := ix70 g at_ (by have := HA.out; omega))) hS rfl (L' := #[true, true, false, false, false, false, false, false, false, false, false, false]) (by kernel_rfl) ?_
  refine h_takeL (i := 2) (v := cb x) hns rfl rfl (by kernel_rfl) (by kernel_rfl) hP (y_load rfl (hl := HC1.out)) hS rfl (L' := #[true, true, true, false, false, false, false, false, false, false, false, false]) (by kernel_rfl) ?_
  refine h_takeL (i := 3) (v := .int .i64 (x.toNat : Nat)) hns rfl rfl (by kernel_rfl) (by kernel_rfl) hP (y_cnv rfl (by kernel_rfl) (by kernel_rfl) (qint x)) hS rfl (L' := #[true, true, true, true, false, false, false, false, false, false, false, false]) (by kernel_rfl) ?_
  refine h_takeL (i := 4) (v := .int .i64 ((x.toNat * 256 : Nat) : Int)) hns rfl rfl (by kernel_rfl) (by kernel_rfl) hP (y_bin (k := .i64) (k' := .u64) (m := (x.toNat : Nat)) (n := 8) rfl (by kernel_rfl) (by kernel_rfl) (by kernel_rfl) (qshl8 x.toNat (by have := HX.out; omega))) hS rfl (L' := #[true, true, true, true, true, false, false, false, false, false, false, false]) (by kernel_rfl) ?_
  refine h_takeL (i := 5) (v := .int .i64 at_) hns rfl rfl (by kernel_rfl) (by kernel_rfl) hP (y_move rfl) hS rfl (L' := #[true, true, true, true, true, true, false, false, false, false, false, false]) (by kernel_rfl) ?_
  refine h_takeL (i := 6) (v := .int .i64 ((at_ + 1 : Nat) : Int)) hns rfl rfl (by kernel_rfl) (by kernel_rfl) hP (y_bin (k := .i64) (k' := .i64) (m := at_) (n := 1) rfl (by kernel_rfl) (by kernel_rfl) (by kernel_rfl) (qadd _ _ _ HAD.out)) hS rfl (L' := #[true, true, true, true, true, true, true, false, false, false, false, false]) (by kernel_rfl) ?_
  try simp only [List.setIfInBounds_toArray, List.set_cons_zero, List.set_cons_succ]
  refine h_takeL (i := 7) (v := .pointer (some ⟨g, at_ + 1, none⟩)) hns rfl rfl (by kernel_rfl) (by kernel_rfl) hP (y_index rfl (hr := ix70 g (at_ + 1) HA.out)) hS rfl (L' := #[true, true, true, true, true, true, true, true, false, false, false, false]) (by kernel_rfl) ?_
  refine h_takeL (i := 8) (v := cb y) hns rfl rfl (by kernel_rfl) (by kernel_rfl) hP (y_load rfl (hl := HC2.out)) hS rfl (L' := #[true, true, true, true, true, true, true, true, true, false, false, false]) (by kernel_rfl) ?_
  refine h_takeL (i := 9) (v := .int .i64 (y.toNat : Nat)) hns rfl rfl (by kernel_rfl) (by kernel_rfl) hP (y_cnv rfl (by kernel_rfl) (by kernel_rfl) (qint y)) hS rfl (L' := #[true, true, true, true, true, true, true, true, true, true, false, false]) (by kernel_rfl) ?_
  refine h_takeL (i := 10) (v := .int .i64 ((x.toNat * 256 + y.toNat : Nat) : Int)) hns rfl rfl (by kernel_rfl) (by kernel_rfl) hP (y_bin (k := .i64) (k' := .i64) (m := ((x.toNat * 256 : Nat) : Int)) (n := (y.toNat : Nat)) rfl (by kernel_rfl) (by kernel_rfl) (by kernel_rfl) (qor x.toNat y.toNat (by have := HX.out; omega) HY.out)) hS rfl (L' := #[true, true, true, true, true, true, true, true, true, true, true, false]) (by kernel_rfl) ?_
  refine h_takeL (i := 11) (v := .int .i64 ((x.toNat * 256 + y.toNat : Nat) : Int)) hns rfl rfl (by kernel_rfl) (by kernel_rfl) hP (y_assign rfl) hS rfl (L' := #[true, true, true, true, true, true, true, true, true, true, true, true]) (by kernel_rfl) ?_
  try simp only [List.setIfInBounds_toArray, List.set_cons_zero, List.set_cons_succ]
  refine wpAnyH_done (by kernel_rfl) ?_ _
  refine hN _ _ ?_
  clear hP hN hns
  clear hS HS
  go_wp2_with fail
  go_ret
  exact ⟨rfl, HZ.out⟩
end Go.Proofs.YtcmgclkbhhdnaaaGreatDoor
namespace Go.Proofs.YtcmgclkbhhdnaaaGreatDoor
open Go Go.RowKit

theorem run_copySOp {o : Oper} {a : Act} {w w1 : World} {t u : TypeId} {x y : Operand} {p q v : Value} (hop : o.op = .call { callee := .builtin .copy, args := #[x, y], argTypes := #[t, u] }) (hx : a.eval x = p) (hy : a.eval y = q) (hr : (Builtin.copy_ #[t, u] o.type #[p, q]).run Tryz.prog w = .ok v w1) :
    (execOp a.eval o).run Tryz.prog w = .ok (.value v) w1 := by
  unfold execOp
  simp only [hop, resolve, invoke, builtin, Sem.run_bind, Sem.run_pure, Result.andThen_ok, List.map_toArray, List.map_cons, List.map_nil, hx, hy, hr]
theorem copy_sgn {w : World} {g o n cap : Nat} {h : List UInt8} (hg : Rw w g 70 h) (hn : 16 ≤ n) (ho : o + 16 ≤ h.length) (ty : TypeId) :
    (Builtin.copy_ #[49, 9] ty #[.slice (some ⟨g, o, none⟩) n cap, .string { data := #[117, 115, 97, 110, 99, 101, 58, 32, 97, 32, 112, 97, 103, 101, 114, 10] }]).run Tryz.prog w = .ok (goInt 16) (w.setRow g (cells8 (h.take o ++ sgn ++ h.drop (o + 16))).toArray) := by
  have hsz : (Tryz.prog.info? 5).map (·.size) = some 1 := by kernel_rfl
  have := Lib.run_copy_row_string (P := Tryz.prog) w 49 9 ty 5 g o n cap { data := #[117, 115, 97, 110, 99, 101, 58, 32, 97, 32, 112, 97, 103, 101, 114, 10] } _ _ Tryz.underlying49 hsz hg hn (by rw [cells8_size]; exact ho)
  refine this.trans (congrArg (fun c => Result.ok (goInt 16) (w.setRow g c)) ?_)
  show (List.take o (cells8 h) ++ cells8 sgn ++ List.drop (o + 16) (cells8 h)).toArray = _
  simp only [cells8, List.map_append, List.map_take, List.map_drop]
theorem head_made (n r : Nat) : (((((List.take 208 (List.take 0 z224 ++ sgn ++ List.drop (0 + 16) z224) ++ sgn ++ List.drop (208 + 16) (List.take 0 z224 ++ sgn ++ List.drop (0 + 16) z224)).set 16 (UInt8.ofNat (n / 256))).set (16 + 1) (UInt8.ofNat n)).set 18 (UInt8.ofNat (r / 256))).set (18 + 1) (UInt8.ofNat r)) = hd0 n r := by kernel_rfl
theorem qquo8 (k : Nat) (hk : k < 65536) (w : World) : (binOp .quo 3 (.int .i64 k) (.int .i64 8)).run Tryz.prog w = .ok (.int .i64 ((k / 8 : Nat) : Int)) w := by
  rw [binOp_quo]
  unfold Op.intDiv
  rw [if_neg (by decide)]
  show Result.ok (Value.int .i64 (IntKind.i64.wrap ((k : Int).tdiv 8))) w = _
  rw [Int.tdiv_eq_ediv_of_nonneg (by omega), IntWalk.i64_in _ ⟨by omega, by omega⟩]
  rfl
theorem qrem8 (k : Nat) (w : World) : (binOp .rem 3 (.int .i64 k) (.int .i64 8)).run Tryz.prog w = .ok (.int .i64 ((k % 8 : Nat) : Int)) w := by
  rw [binOp_rem]
  unfold Op.intDiv
  rw [if_neg (by decide)]
  show Result.ok (Value.int .i64 ((k : Int).tmod 8)) w = _
  rw [Int.tmod_eq_emod_of_nonneg (by omega)]
  rfl
theorem qshlU (b : Bool) (k : Nat) (hk : k < 8) (w : World) : (binOp .shl 5 (cb (b2u b)) (.int .i64 k)).run Tryz.prog w = .ok (cb (b2u b <<< UInt8.ofNat k)) w := by
  have e : IntKind.u8.wrap (((b2u b).toNat : Int) * 2 ^ k) = ((b2u b <<< UInt8.ofNat k).toNat : Nat) := by
    have h : ∀ (b : Bool) (k : Fin 8), IntKind.u8.wrap (((b2u b).toNat : Int) * 2 ^ k.val) = ((b2u b <<< UInt8.ofNat k.val).toNat : Nat) := by decide +kernel
    exact h b ⟨k, hk⟩
  unfold cb
  rw [← e]
  go_simp
theorem qorU (x y : UInt8) (w : World) : (binOp .or 5 (cb x) (cb y)).run Tryz.prog w = .ok (cb (x ||| y)) w := by
  have e := u8_or_nat x.toNat y.toNat x.toNat_lt y.toNat_lt
  unfold cb
  rw [UInt8.toNat_or, ← e]
  go_simp
set_option maxRecDepth 100000 in
set_option maxHeartbeats 4000000 in
theorem head_state (l : List Bool) (kl kr : Int) (hl : l.length ≤ 1023) (r : Nat) (hr : kr + 1 = (r : Int)) (hr2 : r < 65536) (w : World) :
    Calls Tryz.prog 84 #[St l kl kr] w fun e w' => e = .returned (V8 (hdOf l r)) ∧ Below w.heap.size w w' := by
  obtain ⟨g0, hg0⟩ : ∃ g, w.heap.size = g := ⟨_, rfl⟩
  have hbx := pbox76 w l kl kr
  have hB1 : Below w.heap.size w (w.alloc (.cells (stC l kl kr).toArray 76)) := (Below.refl _ _).alloc (Nat.le_refl _) _
  have hS1 : Sb (w.alloc (.cells (stC l kl kr).toArray 76)) w.heap.size l kl kr := heap_alloc_last w _
  have hz1 : (w.alloc (.cells (stC l kl kr).toArray 76)).heap.size = w.heap.size + 1 := by show (w.heap.push _).size = _; simp
  generalize hw1 : w.alloc (.cells (stC l kl kr).toArray 76) = w1 at *
  obtain ⟨g1, hg1⟩ : ∃ g, w1.heap.size = g := ⟨_, rfl⟩
  have hal := palloc70 w1
  have hB2 : Below w1.heap.size w1 (w1.alloc (.cells (cells8 z224).toArray 70)) := (Below.refl _ _).alloc (Nat.le_refl _) _
  have hR2 : Rw (w1.alloc (.cells (cells8 z224).toArray 70)) w1.heap.size 70 z224 := heap_alloc_last w1 _
  have hz2 : (w1.alloc (.cells (cells8 z224).toArray 70)).heap.size = w1.heap.size + 1 := by show (w1.heap.push _).size = _; simp
  generalize hw2 : w1.alloc (.cells (cells8 z224).toArray 70) = w2 at *
  obtain ⟨g2, hg2⟩ : ∃ g, w2.heap.size = g := ⟨_, rfl⟩
  have hal2 := palloc70 w2
  have hB3 : Below w2.heap.size w2 (w2.alloc (.cells (cells8 z224).toArray 70)) := (Below.refl _ _).alloc (Nat.le_refl _) _
  have hR3 : Rw (w2.alloc (.cells (cells8 z224).toArray 70)) w2.heap.size 70 z224 := heap_alloc_last w2 _
  generalize hw3 : w2.alloc (.cells (cells8 z224).toArray 70) = w3 at *
  rw [hg0] at hbx hS1 hz1 hB1
  rw [hg1] at hal hR2 hz2 hB2 hz1
  rw [hg2] at hal2 hR3 hB3 hz2
  have hzl := z224_len
  have hc1 := copy_sgn (n := 224) (cap := 224) hR3 (by decide) (by rw [hzl]; decide : 0 + 16 ≤ z224.length) 3
  have hR4 := hR3.row (List.take 0 z224 ++ sgn ++ List.drop (0 + 16) z224)
  have hF4 := Fr.setRow w3 g2 (cells8 (List.take 0 z224 ++ sgn ++ List.drop (0 + 16) z224)).toArray
  have hl4 : (List.take 0 z224 ++ sgn ++ List.drop (0 + 16) z224).length = 224 := by kernel_rfl
  obtain ⟨h4, hh4⟩ : ∃ h4, h4 = List.take 0 z224 ++ sgn ++ List.drop (0 + 16) z224 := ⟨_, rfl⟩
  rw [← hh4] at hc1 hR4 hF4 hl4
  generalize w3.setRow g2 (cells8 h4).toArray = w4 at *
  have hc2 := copy_sgn (n := 16) (cap := 16) hR4 (by decide) (by rw [hl4]; decide : 208 + 16 ≤ h4.length) 3
  have hR5 := hR4.row (List.take 208 h4 ++ sgn ++ List.drop (208 + 16) h4)
  have hF5 := Fr.setRow w4 g2 (cells8 (List.take 208 h4 ++ sgn ++ List.drop (208 + 16) h4)).toArray
  have hl5 : (List.take 208 h4 ++ sgn ++ List.drop (208 + 16) h4).length = 224 := by rw [hh4]; kernel_rfl
  obtain ⟨h5, hh5⟩ : ∃ h5, h5 = List.take 208 h4 ++ sgn ++ List.drop (208 + 16) h4 := ⟨_, rfl⟩
  rw [← hh5] at hc2 hR5 hF5 hl5
  generalize w4.setRow g2 (cells8 h5).toArray = w5 at *
  have hF35 : Fr [g2] w3 w5 := hF4.trans hF5 (fun x hx => .inl hx)
  have hS3 : Sb w3 g0 l kl kr := (hS1.below hB2 (by omega)).below hB3 (by omega)
  have hR23 : Rw w3 g1 70 z224 := hR2.below hB3 (by omega)
  have hS5 : Sb w5 g0 l kl kr := hS3.fr hF35 (by simp; omega)
  have hR25 : Rw w5 g1 70 z224 := hF35.at hR23 (by simp; omega)
  have hB5 : Below g0 w w5 := (hB1.trans ((hB2.mono (by omega)).trans (hB3.mono (by omega)))).trans (hF35.below (by have := hB3.size; have := heap_lt hR3; omega) (by simp; omega))
  have HBX := hid hbx
  have HAL := hid hal
  have HAL2 := hid hal2
  have HC1 := hid hc1
  have HC2 := hid hc2
  have HN1 := hid (load1 Tryz.isAgg3 hS5.c0)
  have H5 := hid (And.intro hS5 (And.intro hR25 (And.intro hB5 (And.intro hR5 (And.intro hl5 (show g0 < g1 ∧ g1 < g2 from ⟨by omega, by omega⟩))))))
  have HH := hid (And.intro hh4 hh5)
  have HL := hid hl
  have HRR := hid (And.intro hr hr2)
  have HG0 := hid hg0
  clear hbx hal hal2 hc1 hc2 hS1 hS3 hS5 hR2 hR3 hR4 hR5 hR23 hR25 hB1 hB2 hB3 hB5 hF4 hF5 hF35 hl4 hl5 hz1 hz2 hg1 hg2 hw1 hw2 hw3 hh4 hh5 hzl hl hr hr2 hg0
  go_enter Tryz.func84, Tryz.ntmps84
  go_upto_region 0 with fail
  refine wp_region_lit ?_
  refine wp_run (v := .pointer (some ⟨g0, 0, none⟩)) rfl rfl (run_boxOp rfl (by kernel_rfl) HBX.out) rfl ?_
  refine wp_run (v := .pointer (some ⟨g1, 0, none⟩)) rfl rfl (run_alOp rfl HAL.out) rfl ?_
  try simp only [List.setIfInBounds_toArray, List.set_cons_zero, List.set_cons_succ]
  refine wp_end ?_
  go_upto_region 1 with fail
  refine wp_region_lit ?_
  refine wp_run (v := .pointer (some ⟨g2, 0, none⟩)) rfl rfl (run_alOp rfl HAL2.out) rfl ?_
  try simp only [List.setIfInBounds_toArray, List.set_cons_zero, List.set_cons_succ]
  refine wp_end ?_
  go_upto_region 2 with fail
  refine wp_region_lit ?_
  refine wp_y (v := .slice (some ⟨g2, 0, none⟩) 224 224) rfl rfl (y_slice rfl (by kernel_rfl) (by kernel_rfl) (by kernel_rfl) (by kernel_rfl) (by kernel_rfl) (sl70 g2)) rfl ?_
  refine wp_run (v := goInt 16) rfl rfl (run_copySOp rfl (by kernel_rfl) (by kernel_rfl) HC1.out) rfl ?_
  try simp only [List.setIfInBounds_toArray, List.set_cons_zero, List.set_cons_succ]
  refine wp_end ?_
  go_upto_region 3 with fail
  refine wp_region_lit ?_
  refine wp_y (v := .slice (some ⟨g2, 208, none⟩) 16 16) rfl rfl (y_slice rfl (by kernel_rfl) (by kernel_rfl) (by kernel_rfl) (by kernel_rfl) (by kernel_rfl) (sl70b g2)) rfl ?_
  refine wp_run (v := goInt 16) rfl rfl (run_copySOp rfl (by kernel_rfl) (by kernel_rfl) HC2.out) rfl ?_
  try simp only [List.setIfInBounds_toArray, List.set_cons_zero, List.set_cons_succ]
  refine wp_end ?_
  clear HBX HAL HAL2 HC1 HC2
  have h0 := H5.out.1.c0
  generalize hn : l.length = n at *
  have hnl := HL.out
  go_wp2_with fail
  refine (putNumber_any H5.out.2.2.2.1 H5.out.2.2.2.2.1 16 n (by decide)).mono ?_
  rintro e w6 ⟨rfl, hR6, hF6⟩
  have h5 := H5.out
  have H6 := hid (And.intro (h5.1.fr hF6 (by simp; omega)) (And.intro (hF6.at h5.2.1 (by simp; omega)) (And.intro (h5.2.2.1.trans (hF6.below (by have := h5.2.2.1.size; have := HG0.out; omega) (by simp; omega))) (And.intro hR6 h5.2.2.2.2))))
  clear h5 hR6 hF6 H5 h0 HN1
  have hw7 : IntKind.i64.wrap (kr + 1) = ((r : Nat) : Int) := by
    have := HRR.out
    rw [IntWalk.i64_in _ ⟨by omega, by omega⟩]; omega
  have h2 := H6.out.1.c2
  go_wp2_with fail
  refine (putNumber_any H6.out.2.2.2.1 (by rw [List.length_set, List.length_set]; exact H6.out.2.2.2.2.1) 18 r (by decide)).mono ?_
  rintro e w7 ⟨rfl, hR7, hF7⟩
  have h6 := H6.out
  have hmade : ((((h5.set 16 (UInt8.ofNat (n / 256))).set (16 + 1) (UInt8.ofNat n)).set 18 (UInt8.ofNat (r / 256))).set (18 + 1) (UInt8.ofNat r)) = hd0 n r := by
    rw [HH.out.2, HH.out.1]; exact head_made n r
  rw [hmade] at hR7
  have H7 : Hid (Sb w7 g0 l kl kr ∧ Rw w7 g1 70 z224 ∧ Below g0 w w7 ∧ Rw w7 g2 70 (hd0 n r) ∧ g0 < g1 ∧ g1 < g2) := hid ⟨h6.1.fr hF7 (by simp; omega), hF7.at h6.2.1 (by simp; omega), h6.2.2.1.trans (hF7.below (by have := h6.2.2.1.size; have := HG0.out; omega) (by simp; omega)), hR7, h6.2.2.2.2.2⟩
  clear h6 hR7 hF7 H6 h2 hw7 hmade HH
  have h0 := H7.out.1.c0
  rw [hn] at h0
  go_wp2_with fail
  go_loopw [18, 4] (fun y _ wr => ∃ k : Nat, k ≤ n ∧ y = .int .i64 k ∧ Sb wr g0 l kl kr ∧ Rw wr g1 70 z224 ∧ Below g0 w wr ∧ Rw wr g2 70 (hbits l k (hd0 n r))) (fun y _ _ => n - (intOf y).toNat)
  case atStart => exact ⟨0, Nat.zero_le _, rfl, H7.out.1, H7.out.2.1, H7.out.2.2.1, H7.out.2.2.2.1⟩
  case round =>
    have HGG := hid H7.out.2.2.2.2
    clear H7 h0
    obtain ⟨k, hk, rfl, hS, hR1, hB, hR⟩ := hrel
    have hwk : IntKind.i64.wrap ((k : Int) + 1) = ((k + 1 : Nat) : Int) := by rw [IntWalk.i64_in _ ⟨by omega, by omega⟩]; omega
    have hhl : (hbits l k (hd0 n r)).length = 224 := by rw [hbits_len, hd0_len]
    by_cases hlt : k < n
    · have hlt' : (k : Int) < (n : Int) := by omega
      have hix : 20 + k / 8 < 224 := by omega
      obtain ⟨hh, hhe⟩ : ∃ hh, hh = hbits l k (hd0 n r) := ⟨_, rfl⟩
      obtain ⟨bk, hbk⟩ : ∃ bk, bk = l.getD k false := ⟨_, rfl⟩
      rw [← hhe] at hR hhl
      have hRd : Rw wr.drew g2 70 hh := hR
      have hSd : Sb wr.drew g0 l kl kr := hS
      have HS9 := hid (And.intro hRd hSd)
      have HLD1 : Hid (∀ w', Rw w' g2 70 hh → (Instr.loadAt 5 (.pointer (some ⟨g2, 20 + k / 8, none⟩))).run Tryz.prog w' = .ok (cb (hh.getD (20 + k / 8) 0)) w') := hid (fun w' h' => by
        have hc := h'.rd (20 + k / 8) (by omega)
        rw [Nat.zero_add] at hc
        exact load1 Tryz.isAgg5 hc)
      have HLD2 : Hid (∀ w', Sb w' g0 l kl kr → (Instr.loadAt 73 (.pointer (some ⟨g0, 3 + k, none⟩))).run Tryz.prog w' = .ok (cb (b2u bk)) w') := hid (fun w' h' => by
        have hc := h'.cu (by omega) k (by omega)
        rw [at8, useB_get l k (by omega), ← hbk] at hc
        exact load1 Tryz.isAgg73 hc)
      have HST := hid (store5r hRd (by omega : 20 + k / 8 < hh.length) (hh.getD (20 + k / 8) 0 ||| b2u bk <<< UInt8.ofNat (k % 8)))
      have hR2 := hRd.set (20 + k / 8) (hh.getD (20 + k / 8) 0 ||| b2u bk <<< UInt8.ofNat (k % 8))
      have hF : Fr [g2] wr _ := ((Fr.drew wr).mono (Y := [g2]) (by simp)).trans (Fr.setCell wr.drew g2 (20 + k / 8) (cb (hh.getD (20 + k / 8) 0 ||| b2u bk <<< UInt8.ofNat (k % 8)))) (fun x hx => .inl hx)
      have hG := HGG.out
      have he : hh.set (20 + k / 8) (hh.getD (20 + k / 8) 0 ||| b2u bk <<< UInt8.ofNat (k % 8)) = hbits l (k + 1) (hd0 n r) := by rw [hhe, hbk]; rfl
      rw [he] at hR2
      have HZ := hid (And.intro (hS.fr hF (by simp; omega)) (And.intro (hF.at hR1 (by simp; omega)) (And.intro (hB.trans (hF.below (by have := hB.size; have := HG0.out; omega) (by simp; omega))) hR2)))
      have HIX := hid hix
      have HLT := hid hlt
      have HAD : Hid (IntKind.i64.wrap (20 + ((k / 8 : Nat) : Int)) = ((20 + k / 8 : Nat) : Int)) := hid (by rw [IntWalk.i64_in _ ⟨by omega, by omega⟩]; omega)
      clear hS hR1 hB hR hSd hRd hR2 hF hG hhe hbk hhl hix hlt hk he
      go_wp2_with fail
      refine z_open (S := fun w' => Rw w' g2 70 hh ∧ Sb w' g0 l kl kr) 14 (by kernel_rfl) (by kernel_rfl) (fun _ _ _ _ _ h => h) (L := #[false, false, false, false, false, false, false, false, false, false, false, false, false, false, false]) (by kernel_rfl) ?_
      intro Q' hns hP hN
      have hS := HS9.out
      refine z_pure (i := 0) (v := .int .i64 k) hns rfl rfl rfl (by kernel_rfl) (by kernel_rfl) hP (y_move rfl) (fun _ => hS) rfl (L' := #[true, false, false, false, false, false, false, false, false, false, false, false, false, false, false]) (by kernel_rfl) ?_
      refine z_pure (i := 1) (v := .int .i64 ((k / 8 : Nat) : Int)) hns rfl rfl rfl (by kernel_rfl) (by kernel_rfl) hP (y_bin (k := .i64) (k' := .i64) (m := k) (n := 8) rfl (by kernel_rfl) (by kernel_rfl) (by kernel_rfl) (qquo8 k (by have := HLT.out; omega))) (fun _ => hS) rfl (L' := #[true, true, false, false, false, false, false, false, false, false, false, false, false, false, false]) (by kernel_rfl) ?_
      refine z_pure (i := 2) (v := .int .i64 ((20 + k / 8 : Nat) : Int)) hns rfl rfl rfl (by kernel_rfl) (by kernel_rfl) hP (y_bin (k := .i64) (k' := .i64) (m := 20) (n := ((k / 8 : Nat) : Int)) rfl (by kernel_rfl) (by kernel_rfl) (by kernel_rfl) (qadd _ _ _ HAD.out)) (fun _ => hS) rfl (L' := #[true, true, true, false, false, false, false, false, false, false, false, false, false, false, false]) (by kernel_rfl) ?_
      refine z_pure (i := 3) (v := .pointer (some ⟨g2, 20 + k / 8, none⟩)) hns rfl rfl rfl (by kernel_rfl) (by kernel_rfl) hP (y_index rfl (hr := ix70 g2 (20 + k / 8) HIX.out)) (fun _ => hS) rfl (L' := #[true, true, true, true, false, false, false, false, false, false, false, false, false, false, false]) (by kernel_rfl) ?_
      refine z_read (i := 4) (v := cb (hh.getD (20 + k / 8) 0)) hns rfl (by kernel_rfl) rfl rfl (by kernel_rfl) (by kernel_rfl) hP (y_load rfl (hl := fun w' h => HLD1.out w' h.1)) rfl hS rfl (L' := #[true, true, true, true, true, false, false, false, false, false, false, false, false, false, false]) (by kernel_rfl) ?_
      refine z_pure (i := 5) (v := .int .i64 k) hns rfl rfl rfl (by kernel_rfl) (by kernel_rfl) hP (y_move rfl) (fun _ => hS) rfl (L' := #[true, true, true, true, true, true, false, false, false, false, false, false, false, false, false]) (by kernel_rfl) ?_
      refine z_pure (i := 6) (v := .pointer (some ⟨g0, 3, none⟩)) hns rfl rfl rfl (by kernel_rfl) (by kernel_rfl) hP (y_faddr rfl (hf := fg76_3 (g0) (0))) (fun _ => hS) rfl (L' := #[true, true, true, true, true, true, true, false, false, false, false, false, false, false, false]) (by kernel_rfl) ?_
      try simp only [List.setIfInBounds_toArray, List.set_cons_zero, List.set_cons_succ]
      refine z_pure (i := 7) (v := .pointer (some ⟨g0, 3 + k, none⟩)) hns rfl rfl rfl (by kernel_rfl) (by kernel_rfl) hP (y_index rfl (hr := ix74 g0 3 k (by have := HLT.out; omega))) (fun _ => hS) rfl (L' := #[true, true, true, true, true, true, true, true, false, false, false, false, false, false, false]) (by kernel_rfl) ?_
      refine z_read (i := 8) (v := cb (b2u bk)) hns rfl (by kernel_rfl) rfl rfl (by kernel_rfl) (by kernel_rfl) hP (y_load rfl (hl := fun w' h => HLD2.out w' h.2)) rfl hS rfl (L' := #[true, true, true, true, true, true, true, true, true, false, false, false, false, false, false]) (by kernel_rfl) ?_
      refine z_pure (i := 9) (v := .int .i64 k) hns rfl rfl rfl (by kernel_rfl) (by kernel_rfl) hP (y_move rfl) (fun _ => hS) rfl (L' := #[true, true, true, true, true, true, true, true, true, true, false, false, false, false, false]) (by kernel_rfl) ?_
      refine z_pure (i := 10) (v := .int .i64 ((k % 8 : Nat) : Int)) hns rfl rfl rfl (by kernel_rfl) (by kernel_rfl) hP (y_bin (k := .i64) (k' := .i64) (m := k) (n := 8) rfl (by kernel_rfl) (by kernel_rfl) (by kernel_rfl) (qrem8 k)) (fun _ => hS) rfl (L' := #[true, true, true, true, true, true, true, true, true, true, true, false, false, false, false]) (by kernel_rfl) ?_
      refine z_pure (i := 11) (v := cb (b2u bk <<< UInt8.ofNat (k % 8))) hns rfl rfl rfl (by kernel_rfl) (by kernel_rfl) hP (y_bin (k := .u8) (k' := .i64) (m := (b2u bk).toNat) (n := ((k % 8 : Nat) : Int)) rfl (by kernel_rfl) (by kernel_rfl) (by kernel_rfl) (qshlU bk (k % 8) (Nat.mod_lt _ (by decide)))) (fun _ => hS) rfl (L' := #[true, true, true, true, true, true, true, true, true, true, true, true, false, false, false]) (by kernel_rfl) ?_
      refine z_pure (i := 12) (v := cb (hh.getD (20 + k / 8) 0 ||| b2u bk <<< UInt8.ofNat (k % 8))) hns rfl rfl rfl (by kernel_rfl) (by kernel_rfl) hP (y_bin (k := .u8) (k' := .u8) (m := (hh.getD (20 + k / 8) 0).toNat) (n := (b2u bk <<< UInt8.ofNat (k % 8)).toNat) rfl (by kernel_rfl) (by kernel_rfl) (by kernel_rfl) (qorU _ _)) (fun _ => hS) rfl (L' := #[true, true, true, true, true, true, true, true, true, true, true, true, true, false, false]) (by kernel_rfl) ?_
      refine z_pure (i := 13) (v := .pointer (some ⟨g2, 20 + k / 8, none⟩)) hns rfl rfl rfl (by kernel_rfl) (by kernel_rfl) hP (y_index rfl (hr := ix70 g2 (20 + k / 8) HIX.out)) (fun _ => hS) rfl (L' := #[true, true, true, true, true, true, true, true, true, true, true, true, true, true, false]) (by kernel_rfl) ?_
      refine z_last (by kernel_rfl) rfl rfl (by kernel_rfl) (run_storeOp rfl (by kernel_rfl) (by kernel_rfl) HST.out) rfl (L' := #[true, true, true, true, true, true, true, true, true, true, true, true, true, true, true]) (by kernel_rfl) ?_
      try simp only [List.setIfInBounds_toArray, List.set_cons_zero, List.set_cons_succ]
      refine z_done (by kernel_rfl) ?_ _
      refine hN _ _ ?_
      clear hP hN hns
      clear hS HS9
      go_wp2_with fail
      exact ⟨⟨k + 1, HLT.out, rfl, HZ.out⟩, by have := HLT.out; simp [intOf]; omega⟩
    · obtain rfl : k = n := by omega
      have hlt' : ¬ (k : Int) < (k : Int) := by omega
      have he : hbits l k (hd0 k r) = hdOf l r := by rw [hdOf, hn]
      rw [he] at hR hhl
      obtain ⟨hd, hhd⟩ : ∃ hd, hdOf l r = hd := ⟨_, rfl⟩
      rw [hhd] at hR hhl
      have HHD := hid hhd
      have HL3 := hid (pload70 hhl hR)
      have HST := hid (pstore70 z224_len hhl hR1)
      have HLR := hid (pload70 hhl (hR1.row hd))
      have HZ : Hid (Below w.heap.size w (wr.setRow g1 (cells8 hd).toArray)) := hid (by
        rw [HG0.out]
        exact hB.trans ((Fr.setRow wr g1 _).below (by have := hB.size; have := HG0.out; omega) (by simp; have := HGG.out; omega)))
      clear hS hR1 hB hR hhl hk hlt he hhd
      go_upto_region 11 with fail
      refine wp_region_lit ?_
      refine wp_y (v := V8 hd) rfl rfl (y_load rfl (hl := fun w' h => by rw [h]; exact HL3.out)) rfl ?_
      refine wp_do rfl rfl (run_storeOp rfl (by kernel_rfl) (by kernel_rfl) HST.out) ?_
      try simp only [List.setIfInBounds_toArray, List.set_cons_zero, List.set_cons_succ]
      refine wp_end ?_
      go_wp2_with fail
      exact ret_cell rfl rfl rfl HLR.out ⟨by rw [HHD.out], HZ.out⟩
end Go.Proofs.YtcmgclkbhhdnaaaGreatDoor
namespace Go.Proofs.YtcmgclkbhhdnaaaGreatDoor
open Go Go.RowKit

set_option maxRecDepth 100000 in
set_option maxHeartbeats 1600000 in
theorem rooted_none {w : World} {g : Nat} {l : List Bool} {kl : Int} (h : Sb w g l kl (-1)) : Calls Tryz.prog 83 #[.pointer (some ⟨g, 0, none⟩)] w fun e w' => e = .returned (.bool true) ∧ w' = w.drew := by
  have HS : Hid (Sb w.drew g l kl (-1)) := hid h
  clear h
  go_enter Tryz.func83, Tryz.ntmps83
  go_upto_region 1 with fail
  refine h_openL (S := fun w' => Sb w' g l kl (-1)) (by kernel_rfl) (by kernel_rfl) (fun _ _ _ _ _ h => h) (L := #[false, false, false, false, false, false, false, false, false, false, false, false, false, false, false, false, false, false, false, false, false, false, false, false, false, false, false, false, false]) (by kernel_rfl) ?_
  intro Q' hns hP hN
  have hS := HS.out
  refine h_takeL (i := 0) (v := .pointer (some ⟨g, 0, none⟩)) hns rfl rfl (by kernel_rfl) (by kernel_rfl) hP (y_move rfl) hS rfl (L' := #[true, false, false, false, false, false, false, false, false, false, false, false, false, false, false, false, false, false, false, false, false, false, false, false, false, false, false, false, false]) (by kernel_rfl) ?_
  refine h_takeL (i := 1) (v := .pointer (some ⟨g, 0, none⟩)) hns rfl rfl (by kernel_rfl) (by kernel_rfl) hP (y_nil rfl) hS rfl (L' := #[true, true, false, false, false, false, false, false, false, false, false, false, false, false, false, false, false, false, false, false, false, false, false, false, false, false, false, false, false]) (by kernel_rfl) ?_
  refine h_takeL (i := 2) (v := .pointer (some ⟨g, 2, none⟩)) hns rfl rfl (by kernel_rfl) (by kernel_rfl) hP (y_faddr rfl (hf := fg76_2 (g) (0))) hS rfl (L' := #[true, true, true, false, false, false, false, false, false, false, false, false, false, false, false, false, false, false, false, false, false, false, false, false, false, false, false, false, false]) (by kernel_rfl) ?_
  refine h_takeL (i := 3) (v := .int .i64 (-1)) hns rfl rfl (by kernel_rfl) (by kernel_rfl) hP (y_load rfl (hl := fun w' h => load1 Tryz.isAgg3 h.c2)) hS rfl (L' := #[true, true, true, true, false, false, false, false, false, false, false, false, false, false, false, false, false, false, false, false, false, false, false, false, false, false, false, false, false]) (by kernel_rfl) ?_
  refine h_takeL (i := 4) (v := .bool true) hns rfl rfl (by kernel_rfl) (by kernel_rfl) hP (y_bin (k := .i64) (k' := .i64) (m := -1) (n := -1) rfl (by kernel_rfl) (by kernel_rfl) (by kernel_rfl) (qeql _ _ _ rfl)) hS rfl (L' := #[true, true, true, true, true, false, false, false, false, false, false, false, false, false, false, false, false, false, false, false, false, false, false, false, false, false, false, false, false]) (by kernel_rfl) ?_
  refine h_takeL (i := 5) (v := .bool true) hns rfl rfl (by kernel_rfl) (by kernel_rfl) hP (y_move rfl) hS rfl (L' := #[true, true, true, true, true, true, false, false, false, false, false, false, false, false, false, false, false, false, false, false, false, false, false, false, false, false, false, false, false]) (by kernel_rfl) ?_
  refine h_takeL (i := 6) (v := undef) hns rfl rfl (by kernel_rfl) (by kernel_rfl) hP (y_skip (by kernel_rfl) rfl) hS rfl (L' := #[true, true, true, true, true, true, true, false, false, false, false, false, false, false, false, false, false, false, false, false, false, false, false, false, false, false, false, false, false]) (by kernel_rfl) ?_
  try simp only [List.setIfInBounds_toArray, List.set_cons_zero, List.set_cons_succ]
  refine h_takeL (i := 7) (v := undef) hns rfl rfl (by kernel_rfl) (by kernel_rfl) hP (y_skip (by kernel_rfl) rfl) hS rfl (L' := #[true, true, true, true, true, true, true, true, false, false, false, false, false, false, false, false, false, false, false, false, false, false, false, false, false, false, false, false, false]) (by kernel_rfl) ?_
  refine h_takeL (i := 8) (v := undef) hns rfl rfl (by kernel_rfl) (by kernel_rfl) hP (y_skip (by kernel_rfl) rfl) hS rfl (L' := #[true, true, true, true, true, true, true, true, true, false, false, false, false, false, false, false, false, false, false, false, false, false, false, false, false, false, false, false, false]) (by kernel_rfl) ?_
  refine h_takeL (i := 9) (v := undef) hns rfl rfl (by kernel_rfl) (by kernel_rfl) hP (y_skip (by kernel_rfl) rfl) hS rfl (L' := #[true, true, true, true, true, true, true, true, true, true, false, false, false, false, false, false, false, false, false, false, false, false, false, false, false, false, false, false, false]) (by kernel_rfl) ?_
  refine h_takeL (i := 10) (v := undef) hns rfl rfl (by kernel_rfl) (by kernel_rfl) hP (y_skip (by kernel_rfl) rfl) hS rfl (L' := #[true, true, true, true, true, true, true, true, true, true, true, false, false, false, false, false, false, false, false, false, false, false, false, false, false, false, false, false, false]) (by kernel_rfl) ?_
  refine h_takeL (i := 11) (v := undef) hns rfl rfl (by kernel_rfl) (by kernel_rfl) hP (y_skip (by kernel_rfl) rfl) hS rfl (L' := #[true, true, true, true, true, true, true, true, true, true, true, true, false, false, false, false, false, false, false, false, false, false, false, false, false, false, false, false, false]) (by kernel_rfl) ?_
  refine h_takeL (i := 12) (v := undef) hns rfl rfl (by kernel_rfl) (by kernel_rfl) hP (y_skip (by kernel_rfl) rfl) hS rfl (L' := #[true, true, true, true, true, true, true, true, true, true, true, true, true, false, false, false, false, false, false, false, false, false, false, false, false, false, false, false, false]) (by kernel_rfl) ?_
  refine h_takeL (i := 13) (v := undef) hns rfl rfl (by kernel_rfl) (by kernel_rfl) hP (y_skip (by kernel_rfl) rfl) hS rfl (L' := #[true, true, true, true, true, true, true, true, true, true, true, true, true, true, false, false, false, false, false, false, false, false, false, false, false, false, false, false, false]) (by kernel_rfl) ?_
  refine h_takeL (i := 14) (v := undef) hns rfl rfl (by kernel_rfl) (by kernel_rfl) hP (y_skip (by kernel_rfl) rfl) hS rfl (L' := #[true, true, true, true, true, true, true, true, true, true, true, true, true, true, true, false, false, false, false, false, false, false, false, false, false, false, false, false, false]) (by kernel_rfl) ?_
  try simp only [List.setIfInBounds_toArray, List.set_cons_zero, List.set_cons_succ]
  refine h_takeL (i := 15) (v := undef) hns rfl rfl (by kernel_rfl) (by kernel_rfl) hP (y_skip (by kernel_rfl) rfl) hS rfl (L' := #[true, true, true, true, true, true, true, true, true, true, true, true, true, true, true, true, false, false, false, false, false, false, false, false, false, false, false, false, false]) (by kernel_rfl) ?_
  refine h_takeL (i := 16) (v := undef) hns rfl rfl (by kernel_rfl) (by kernel_rfl) hP (y_skip (by kernel_rfl) rfl) hS rfl (L' := #[true, true, true, true, true, true, true, true, true, true, true, true, true, true, true, true, true, false, false, false, false, false, false, false, false, false, false, false, false]) (by kernel_rfl) ?_
  refine h_takeL (i := 17) (v := undef) hns rfl rfl (by kernel_rfl) (by kernel_rfl) hP (y_skip (by kernel_rfl) rfl) hS rfl (L' := #[true, true, true, true, true, true, true, true, true, true, true, true, true, true, true, true, true, true, false, false, false, false, false, false, false, false, false, false, false]) (by kernel_rfl) ?_
  refine h_takeL (i := 18) (v := undef) hns rfl rfl (by kernel_rfl) (by kernel_rfl) hP (y_skip (by kernel_rfl) rfl) hS rfl (L' := #[true, true, true, true, true, true, true, true, true, true, true, true, true, true, true, true, true, true, true, false, false, false, false, false, false, false, false, false, false]) (by kernel_rfl) ?_
  refine h_takeL (i := 19) (v := undef) hns rfl rfl (by kernel_rfl) (by kernel_rfl) hP (y_skip (by kernel_rfl) rfl) hS rfl (L' := #[true, true, true, true, true, true, true, true, true, true, true, true, true, true, true, true, true, true, true, true, false, false, false, false, false, false, false, false, false]) (by kernel_rfl) ?_
  refine h_takeL (i := 20) (v := undef) hns rfl rfl (by kernel_rfl) (by kernel_rfl) hP (y_skip (by kernel_rfl) rfl) hS rfl (L' := #[true, true, true, true, true, true, true, true, true, true, true, true, true, true, true, true, true, true, true, true, true, false, false, false, false, false, false, false, false]) (by kernel_rfl) ?_
  refine h_takeL (i := 21) (v := undef) hns rfl rfl (by kernel_rfl) (by kernel_rfl) hP (y_skip (by kernel_rfl) rfl) hS rfl (L' := #[true, true, true, true, true, true, true, true, true, true, true, true, true, true, true, true, true, true, true, true, true, true, false, false, false, false, false, false, false]) (by kernel_rfl) ?_
  refine h_takeL (i := 22) (v := undef) hns rfl rfl (by kernel_rfl) (by kernel_rfl) hP (y_skip (by kernel_rfl) rfl) hS rfl (L' := #[true, true, true, true, true, true, true, true, true, true, true, true, true, true, true, true, true, true, true, true, true, true, true, false, false, false, false, false, false]) (by kernel_rfl) ?_
  try simp only [List.setIfInBounds_toArray, List.set_cons_zero, List.set_cons_succ]
  refine h_takeL (i := 23) (v := undef) hns rfl rfl (by kernel_rfl) (by kernel_rfl) hP (y_skip (by kernel_rfl) rfl) hS rfl (L' := #[true, true, true, true, true, true, true, true, true, true, true, true, true, true, true, true, true, true, true, true, true, true, true, true, false, false, false, false, false]) (by kernel_rfl) ?_
  refine h_takeL (i := 24) (v := undef) hns rfl rfl (by kernel_rfl) (by kernel_rfl) hP (y_skip (by kernel_rfl) rfl) hS rfl (L' := #[true, true, true, true, true, true, true, true, true, true, true, true, true, true, true, true, true, true, true, true, true, true, true, true, true, false, false, false, false]) (by kernel_rfl) ?_
  refine h_takeL (i := 25) (v := undef) hns rfl rfl (by kernel_rfl) (by kernel_rfl) hP (y_skip (by kernel_rfl) rfl) hS rfl (L' := #[true, true, true, true, true, true, true, true, true, true, true, true, true, true, true, true, true, true, true, true, true, true, true, true, true, true, false, false, false]) (by kernel_rfl) ?_
  refine h_takeL (i := 26) (v := undef) hns rfl rfl (by kernel_rfl) (by kernel_rfl) hP (y_skip (by kernel_rfl) rfl) hS rfl (L' := #[true, true, true, true, true, true, true, true, true, true, true, true, true, true, true, true, true, true, true, true, true, true, true, true, true, true, true, false, false]) (by kernel_rfl) ?_
  refine h_takeL (i := 27) (v := .bool true) hns rfl rfl (by kernel_rfl) (by kernel_rfl) hP (y_pick (b := true) rfl) hS rfl (L' := #[true, true, true, true, true, true, true, true, true, true, true, true, true, true, true, true, true, true, true, true, true, true, true, true, true, true, true, true, false]) (by kernel_rfl) ?_
  refine h_takeL (i := 28) (v := .bool true) hns rfl rfl (by kernel_rfl) (by kernel_rfl) hP (y_assign rfl) hS rfl (L' := #[true, true, true, true, true, true, true, true, true, true, true, true, true, true, true, true, true, true, true, true, true, true, true, true, true, true, true, true, true]) (by kernel_rfl) ?_
  try simp only [List.setIfInBounds_toArray, List.set_cons_zero, List.set_cons_succ]
  refine wpAnyH_done (by kernel_rfl) ?_ _
  refine hN _ _ ?_
  clear hP hN hns
  clear hS HS
  go_wp2_with fail
  go_ret
  exact ⟨rfl, rfl⟩
set_option maxRecDepth 100000 in
set_option maxHeartbeats 1600000 in
theorem rooted_in {w : World} {g : Nat} {l : List Bool} {kl : Int} {q : Nat} (h : Sb w g l kl q) (hl : l.length ≤ 1023) (hq : l[q]? = some true) : Calls Tryz.prog 83 #[.pointer (some ⟨g, 0, none⟩)] w fun e w' => e = .returned (.bool true) ∧ w' = w.drew := by
  have hql : q < l.length := (List.getElem?_eq_some_iff.1 hq).1
  have HS : Hid (Sb w.drew g l kl q) := hid h
  have HLD : Hid (∀ w', Sb w' g l kl q → (Instr.loadAt 73 (.pointer (some ⟨g, 3 + q, none⟩))).run Tryz.prog w' = .ok (.int .u8 1) w') := hid (fun w' h' => by
    have hc := h'.cu hl q hql
    rw [at8_useB l q hql] at hc
    have : l.getD q false = true := by simp [List.getD, hq]
    rw [this] at hc
    exact load1 Tryz.isAgg73 hc)
  have HE : Hid (((q : Int) == -1) = false) := hid (by rw [beq_eq_false_iff_ne]; omega)
  have HLT : Hid (decide ((q : Int) < (l.length : Int)) = true) := hid (decide_eq_true (by omega))
  have HQ := hid (show q < 1023 by omega)
  clear h hq hl hql
  go_enter Tryz.func83, Tryz.ntmps83
  go_upto_region 1 with fail
  refine h_openL (S := fun w' => Sb w' g l kl q) (by kernel_rfl) (by kernel_rfl) (fun _ _ _ _ _ h => h) (L := #[false, false, false, false, false, false, false, false, false, false, false, false, false, false, false, false, false, false, false, false, false, false, false, false, false, false, false, false, false]) (by kernel_rfl) ?_
  intro Q' hns hP hN
  have hS := HS.out
  refine h_takeL (i := 0) (v := .pointer (some ⟨g, 0, none⟩)) hns rfl rfl (by kernel_rfl) (by kernel_rfl) hP (y_move rfl) hS rfl (L' := #[true, false, false, false, false, false, false, false, false, false, false, false, false, false, false, false, false, false, false, false, false, false, false, false, false, false, false, false, false]) (by kernel_rfl) ?_
  refine h_takeL (i := 1) (v := .pointer (some ⟨g, 0, none⟩)) hns rfl rfl (by kernel_rfl) (by kernel_rfl) hP (y_nil rfl) hS rfl (L' := #[true, true, false, false, false, false, false, false, false, false, false, false, false, false, false, false, false, false, false, false, false, false, false, false, false, false, false, false, false]) (by kernel_rfl) ?_
  refine h_takeL (i := 2) (v := .pointer (some ⟨g, 2, none⟩)) hns rfl rfl (by kernel_rfl) (by kernel_rfl) hP (y_faddr rfl (hf := fg76_2 (g) (0))) hS rfl (L' := #[true, true, true, false, false, false, false, false, false, false, false, false, false, false, false, false, false, false, false, false, false, false, false, false, false, false, false, false, false]) (by kernel_rfl) ?_
  refine h_takeL (i := 3) (v := .int .i64 q) hns rfl rfl (by kernel_rfl) (by kernel_rfl) hP (y_load rfl (hl := fun w' h => load1 Tryz.isAgg3 h.c2)) hS rfl (L' := #[true, true, true, true, false, false, false, false, false, false, false, false, false, false, false, false, false, false, false, false, false, false, false, false, false, false, false, false, false]) (by kernel_rfl) ?_
  refine h_takeL (i := 4) (v := .bool false) hns rfl rfl (by kernel_rfl) (by kernel_rfl) hP (y_bin (k := .i64) (k' := .i64) (m := q) (n := -1) rfl (by kernel_rfl) (by kernel_rfl) (by kernel_rfl) (qeql _ _ _ HE.out)) hS rfl (L' := #[true, true, true, true, true, false, false, false, false, false, false, false, false, false, false, false, false, false, false, false, false, false, false, false, false, false, false, false, false]) (by kernel_rfl) ?_
  refine h_takeL (i := 5) (v := .bool false) hns rfl rfl (by kernel_rfl) (by kernel_rfl) hP (y_move rfl) hS rfl (L' := #[true, true, true, true, true, true, false, false, false, false, false, false, false, false, false, false, false, false, false, false, false, false, false, false, false, false, false, false, false]) (by kernel_rfl) ?_
  refine h_takeL (i := 6) (v := .pointer (some ⟨g, 0, none⟩)) hns rfl rfl (by kernel_rfl) (by kernel_rfl) hP (y_move rfl) hS rfl (L' := #[true, true, true, true, true, true, true, false, false, false, false, false, false, false, false, false, false, false, false, false, false, false, false, false, false, false, false, false, false]) (by kernel_rfl) ?_
  try simp only [List.setIfInBounds_toArray, List.set_cons_zero, List.set_cons_succ]
  refine h_takeL (i := 7) (v := .pointer (some ⟨g, 0, none⟩)) hns rfl rfl (by kernel_rfl) (by kernel_rfl) hP (y_nil rfl) hS rfl (L' := #[true, true, true, true, true, true, true, true, false, false, false, false, false, false, false, false, false, false, false, false, false, false, false, false, false, false, false, false, false]) (by kernel_rfl) ?_
  refine h_takeL (i := 8) (v := .pointer (some ⟨g, 2, none⟩)) hns rfl rfl (by kernel_rfl) (by kernel_rfl) hP (y_faddr rfl (hf := fg76_2 (g) (0))) hS rfl (L' := #[true, true, true, true, true, true, true, true, true, false, false, false, false, false, false, false, false, false, false, false, false, false, false, false, false, false, false, false, false]) (by kernel_rfl) ?_
  refine h_takeL (i := 9) (v := .int .i64 q) hns rfl rfl (by kernel_rfl) (by kernel_rfl) hP (y_load rfl (hl := fun w' h => load1 Tryz.isAgg3 h.c2)) hS rfl (L' := #[true, true, true, true, true, true, true, true, true, true, false, false, false, false, false, false, false, false, false, false, false, false, false, false, false, false, false, false, false]) (by kernel_rfl) ?_
  refine h_takeL (i := 10) (v := .pointer (some ⟨g, 0, none⟩)) hns rfl rfl (by kernel_rfl) (by kernel_rfl) hP (y_move rfl) hS rfl (L' := #[true, true, true, true, true, true, true, true, true, true, true, false, false, false, false, false, false, false, false, false, false, false, false, false, false, false, false, false, false]) (by kernel_rfl) ?_
  refine h_takeL (i := 11) (v := .pointer (some ⟨g, 0, none⟩)) hns rfl rfl (by kernel_rfl) (by kernel_rfl) hP (y_nil rfl) hS rfl (L' := #[true, true, true, true, true, true, true, true, true, true, true, true, false, false, false, false, false, false, false, false, false, false, false, false, false, false, false, false, false]) (by kernel_rfl) ?_
  refine h_takeL (i := 12) (v := .pointer (some ⟨g, 0, none⟩)) hns rfl rfl (by kernel_rfl) (by kernel_rfl) hP (y_faddr rfl (hf := fg76_0 (g) (0))) hS rfl (L' := #[true, true, true, true, true, true, true, true, true, true, true, true, true, false, false, false, false, false, false, false, false, false, false, false, false, false, false, false, false]) (by kernel_rfl) ?_
  refine h_takeL (i := 13) (v := .int .i64 l.length) hns rfl rfl (by kernel_rfl) (by kernel_rfl) hP (y_load rfl (hl := fun w' h => load1 Tryz.isAgg3 h.c0)) hS rfl (L' := #[true, true, true, true, true, true, true, true, true, true, true, true, true, true, false, false, false, false, false, false, false, false, false, false, false, false, false, false, false]) (by kernel_rfl) ?_
  refine h_takeL (i := 14) (v := .bool true) hns rfl rfl (by kernel_rfl) (by kernel_rfl) hP (y_bin (k := .i64) (k' := .i64) (m := q) (n := l.length) rfl (by kernel_rfl) (by kernel_rfl) (by kernel_rfl) (qlss _ _ _ HLT.out)) hS rfl (L' := #[true, true, true, true, true, true, true, true, true, true, true, true, true, true, true, false, false, false, false, false, false, false, false, false, false, false, false, false, false]) (by kernel_rfl) ?_
  try simp only [List.setIfInBounds_toArray, List.set_cons_zero, List.set_cons_succ]
  refine h_takeL (i := 15) (v := .bool true) hns rfl rfl (by kernel_rfl) (by kernel_rfl) hP (y_move rfl) hS rfl (L' := #[true, true, true, true, true, true, true, true, true, true, true, true, true, true, true, true, false, false, false, false, false, false, false, false, false, false, false, false, false]) (by kernel_rfl) ?_
  refine h_takeL (i := 16) (v := .pointer (some ⟨g, 0, none⟩)) hns rfl rfl (by kernel_rfl) (by kernel_rfl) hP (y_move rfl) hS rfl (L' := #[true, true, true, true, true, true, true, true, true, true, true, true, true, true, true, true, true, false, false, false, false, false, false, false, false, false, false, false, false]) (by kernel_rfl) ?_
  refine h_takeL (i := 17) (v := .pointer (some ⟨g, 0, none⟩)) hns rfl rfl (by kernel_rfl) (by kernel_rfl) hP (y_move rfl) hS rfl (L' := #[true, true, true, true, true, true, true, true, true, true, true, true, true, true, true, true, true, true, false, false, false, false, false, false, false, false, false, false, false]) (by kernel_rfl) ?_
  refine h_takeL (i := 18) (v := .pointer (some ⟨g, 0, none⟩)) hns rfl rfl (by kernel_rfl) (by kernel_rfl) hP (y_nil rfl) hS rfl (L' := #[true, true, true, true, true, true, true, true, true, true, true, true, true, true, true, true, true, true, true, false, false, false, false, false, false, false, false, false, false]) (by kernel_rfl) ?_
  refine h_takeL (i := 19) (v := .pointer (some ⟨g, 2, none⟩)) hns rfl rfl (by kernel_rfl) (by kernel_rfl) hP (y_faddr rfl (hf := fg76_2 (g) (0))) hS rfl (L' := #[true, true, true, true, true, true, true, true, true, true, true, true, true, true, true, true, true, true, true, true, false, false, false, false, false, false, false, false, false]) (by kernel_rfl) ?_
  refine h_takeL (i := 20) (v := .int .i64 q) hns rfl rfl (by kernel_rfl) (by kernel_rfl) hP (y_load rfl (hl := fun w' h => load1 Tryz.isAgg3 h.c2)) hS rfl (L' := #[true, true, true, true, true, true, true, true, true, true, true, true, true, true, true, true, true, true, true, true, true, false, false, false, false, false, false, false, false]) (by kernel_rfl) ?_
  refine h_takeL (i := 21) (v := .pointer (some ⟨g, 0, none⟩)) hns rfl rfl (by kernel_rfl) (by kernel_rfl) hP (y_nil rfl) hS rfl (L' := #[true, true, true, true, true, true, true, true, true, true, true, true, true, true, true, true, true, true, true, true, true, true, false, false, false, false, false, false, false]) (by kernel_rfl) ?_
  refine h_takeL (i := 22) (v := .pointer (some ⟨g, 3, none⟩)) hns rfl rfl (by kernel_rfl) (by kernel_rfl) hP (y_faddr rfl (hf := fg76_3 (g) (0))) hS rfl (L' := #[true, true, true, true, true, true, true, true, true, true, true, true, true, true, true, true, true, true, true, true, true, true, true, false, false, false, false, false, false]) (by kernel_rfl) ?_
  try simp only [List.setIfInBounds_toArray, List.set_cons_zero, List.set_cons_succ]
  refine h_takeL (i := 23) (v := .pointer (some ⟨g, 3 + q, none⟩)) hns rfl rfl (by kernel_rfl) (by kernel_rfl) hP (y_index rfl (hr := ix74 g 3 q HQ.out)) hS rfl (L' := #[true, true, true, true, true, true, true, true, true, true, true, true, true, true, true, true, true, true, true, true, true, true, true, true, false, false, false, false, false]) (by kernel_rfl) ?_
  refine h_takeL (i := 24) (v := .int .u8 1) hns rfl rfl (by kernel_rfl) (by kernel_rfl) hP (y_load rfl (hl := HLD.out)) hS rfl (L' := #[true, true, true, true, true, true, true, true, true, true, true, true, true, true, true, true, true, true, true, true, true, true, true, true, true, false, false, false, false]) (by kernel_rfl) ?_
  refine h_takeL (i := 25) (v := .bool true) hns rfl rfl (by kernel_rfl) (by kernel_rfl) hP (y_bin (k := .u8) (k' := .u8) (m := 1) (n := 1) rfl (by kernel_rfl) (by kernel_rfl) (by kernel_rfl) (qeqlU _ _ _ rfl)) hS rfl (L' := #[true, true, true, true, true, true, true, true, true, true, true, true, true, true, true, true, true, true, true, true, true, true, true, true, true, true, false, false, false]) (by kernel_rfl) ?_
  refine h_takeL (i := 26) (v := .bool true) hns rfl rfl (by kernel_rfl) (by kernel_rfl) hP (y_pick (b := true) rfl) hS rfl (L' := #[true, true, true, true, true, true, true, true, true, true, true, true, true, true, true, true, true, true, true, true, true, true, true, true, true, true, true, false, false]) (by kernel_rfl) ?_
  refine h_takeL (i := 27) (v := .bool true) hns rfl rfl (by kernel_rfl) (by kernel_rfl) hP (y_pick (b := false) rfl) hS rfl (L' := #[true, true, true, true, true, true, true, true, true, true, true, true, true, true, true, true, true, true, true, true, true, true, true, true, true, true, true, true, false]) (by kernel_rfl) ?_
  refine h_takeL (i := 28) (v := .bool true) hns rfl rfl (by kernel_rfl) (by kernel_rfl) hP (y_assign rfl) hS rfl (L' := #[true, true, true, true, true, true, true, true, true, true, true, true, true, true, true, true, true, true, true, true, true, true, true, true, true, true, true, true, true]) (by kernel_rfl) ?_
  try simp only [List.setIfInBounds_toArray, List.set_cons_zero, List.set_cons_succ]
  refine wpAnyH_done (by kernel_rfl) ?_ _
  refine hN _ _ ?_
  clear hP hN hns
  clear hS HS
  go_wp2_with fail
  go_ret
  exact ⟨rfl, rfl⟩
theorem qshrU (x : UInt8) (k : Nat) (hk : k < 8) (w : World) : (binOp .shr 5 (cb x) (.int .i64 k)).run Tryz.prog w = .ok (cb (x >>> UInt8.ofNat k)) w := by
  have e : ((x.toNat : Nat) : Int).fdiv (2 ^ k) = ((x >>> UInt8.ofNat k).toNat : Nat) := by
    have h : ∀ (n : Fin 256) (k : Fin 8), ((n.val : Nat) : Int).fdiv (2 ^ k.val) = ((UInt8.ofNat n.val >>> UInt8.ofNat k.val).toNat : Nat) := by decide +kernel
    have := h ⟨x.toNat, x.toNat_lt⟩ ⟨k, hk⟩
    simpa using this
  unfold cb
  rw [← e]
  generalize (x.toNat : Int) = y
  go_simp
  exact (Int.fdiv_eq_ediv_of_nonneg _ (Int.le_of_lt (Int.pow_pos (by decide)))).symm
theorem qandU (x : UInt8) (w : World) : (binOp .and 5 (cb x) (.int .u8 1)).run Tryz.prog w = .ok (cb (x &&& 1)) w := by
  have e := u8_and_nat x.toNat 1 x.toNat_lt (by decide)
  have e2 : (x &&& 1).toNat = x.toNat &&& 1 := by rw [UInt8.toNat_and]; rfl
  unfold cb
  rw [e2, ← e]
  generalize (x.toNat : Int) = y
  go_simp
theorem rbit_01 (h : List UInt8) (k : Nat) : rbit h k = b2u (rbit h k == 1) := by
  have hx : ∀ y : UInt8, y &&& 1 = b2u (y &&& 1 == 1) := fun y => by
    have h : ∀ n : Fin 256, UInt8.ofNat n.val &&& 1 = b2u (UInt8.ofNat n.val &&& 1 == 1) := by decide +kernel
    have := h ⟨y.toNat, y.toNat_lt⟩
    simpa using this
  exact hx _
/-- The first k bits of a head's pages. -/
def lk (h : List UInt8) (n k : Nat) : List Bool := (List.range n).map fun q => decide (q < k) && (rbit h q == 1)
theorem lk_len (h : List UInt8) (n k : Nat) : (lk h n k).length = n := by simp [lk]
theorem lk_get (h : List UInt8) (n k q : Nat) (hq : q < n) : (lk h n k)[q]? = some (decide (q < k) && (rbit h q == 1)) := by simp [lk, hq]
theorem lk_zero (h : List UInt8) (n : Nat) : lk h n 0 = List.replicate n false := by
  apply List.ext_getElem?
  intro q
  by_cases hq : q < n
  · rw [lk_get h n 0 q hq]; simp [hq]
  · rw [List.getElem?_eq_none (by rw [lk_len]; omega), List.getElem?_eq_none (by simp; omega)]
theorem lk_succ (h : List UInt8) (n k : Nat) (hk : k < n) : (lk h n k).set k (rbit h k == 1) = lk h n (k + 1) := by
  apply List.ext_getElem?
  intro q
  by_cases hq : q < n
  · by_cases e : k = q
    · subst e
      rw [List.getElem?_set_self (by rw [lk_len]; exact hk), lk_get h n (k + 1) k hk]
      simp
    · rw [List.getElem?_set_ne e, lk_get h n k q hq, lk_get h n (k + 1) q hq]
      congr 2
      by_cases h1 : q < k
      · rw [decide_eq_true h1, decide_eq_true (by omega)]
      · rw [decide_eq_false h1, decide_eq_false (by omega)]
  · rw [List.getElem?_eq_none (by rw [List.length_set, lk_len]; omega), List.getElem?_eq_none (by rw [lk_len]; omega)]
theorem lef_none (n : Nat) : lef (List.replicate n false) = n := by simp [lef]
theorem lef_step (h : List UInt8) (n k : Nat) (hk : k < n) : (lef (lk h n (k + 1)) : Int) = (lef (lk h n k) : Int) - (if (rbit h k == 1) then 1 else 0) := by
  have h0 : (lk h n k)[k]? = some false := by rw [lk_get h n k k hk]; simp
  rw [← lk_succ h n k hk]
  cases hb : (rbit h k == 1) with
  | true => have := lef_set_true (lk h n k) k h0; simp; omega
  | false =>
    have e : (lk h n k).set k false = lk h n k := by
      obtain ⟨hl, he⟩ := List.getElem?_eq_some_iff.1 h0
      rw [← he]
      exact List.set_getElem_self hl
    rw [e]; simp
theorem lk_full (l : List Bool) (r : Nat) (hl : l.length ≤ 1023) : lk (hdOf l r) l.length l.length = l := by
  apply List.ext_getElem?
  intro q
  by_cases hq : q < l.length
  · rw [lk_get _ _ _ q hq, rbit_hd l r hl q hq]
    simp only [hq, decide_true, Bool.true_and, List.getD, List.getElem?_eq_getElem hq, Option.getD_some]
    cases l[q] <;> rfl
  · rw [List.getElem?_eq_none (by rw [lk_len]; omega), List.getElem?_eq_none (by omega)]
/-- Two heads are compared. -/
theorem equal70 (a b : List UInt8) (ha : a.length = 224) (hb : b.length = 224) (w : World) : (Op.equalIn 10000 70 (V8 a) (V8 b)).run Tryz.prog w = .ok (decide (a = b)) w := by
  unfold V8
  rw [show (10000 : Nat) = 9998 + 1 + 1 from rfl]
  have hs : ∀ w, (Go.sizeOf 5).run Tryz.prog w = .ok 1 w := Tryz.sizeOf5
  have hg : ∀ w, (isAgg 5).run Tryz.prog w = .ok false w := Tryz.isAgg5
  rw [Op.equalIn]
  simp only [Sem.run_bind, run_underlying punder70, Result.andThen_ok, hs]
  rw [Std.Legacy.Range.forIn_eq_forIn_range']
  have key : ∀ n s, s + n = 224 → (Sem.run Tryz.prog
          (forIn (List.range' s n 1) ((none, ()) : Option Bool × Unit) fun i __s => do
            let x ← part 5 (cells8 a).toArray (i * 1)
            let y ← part 5 (cells8 b).toArray (i * 1)
            let r ← Op.equalIn (9998 + 1) 5 x y
            if (!r) = true then pure (ForInStep.done (some false, ())) else pure (ForInStep.yield (none, ()))) w) =
        .ok (if a.drop s = b.drop s then (none, ()) else (some false, ())) w := by
    intro n
    induction n with
    | zero =>
      intro s h
      rw [List.drop_of_length_le (by omega), List.drop_of_length_le (by omega)]
      simp
    | succ n ih =>
      intro s h
      have h1 : (part 5 (cells8 a).toArray (s * 1)).run Tryz.prog w = .ok (.int .u8 (at8 a s)) w := by
        have hc : (cells8 a).toArray[s * 1]? = some (.int .u8 (at8 a s)) := by rw [Nat.mul_one]; simpa using cells8_get a s (by omega)
        simp only [part, Sem.run_bind, hg, Result.andThen_ok, hc]
        rfl
      have h2 : (part 5 (cells8 b).toArray (s * 1)).run Tryz.prog w = .ok (.int .u8 (at8 b s)) w := by
        have hc : (cells8 b).toArray[s * 1]? = some (.int .u8 (at8 b s)) := by rw [Nat.mul_one]; simpa using cells8_get b s (by omega)
        simp only [part, Sem.run_bind, hg, Result.andThen_ok, hc]
        rfl
      have h3 : (Op.equalIn (9998 + 1) 5 (.int .u8 (at8 a s)) (.int .u8 (at8 b s))).run Tryz.prog w = .ok (at8 a s == at8 b s) w := run_equalIn_int w 9998 5 .u8 .u8 _ _ Tryz.underlying5
      rw [List.range'_succ, List.forIn_cons]
      simp only [Sem.run_bind, h1, h2, h3, Result.andThen_ok]
      rw [drop_cons8 a s (by omega), drop_cons8 b s (by omega)]
      by_cases he : at8 a s = at8 b s
      · have hab : a.getD s 0 = b.getD s 0 := by unfold at8 at he; exact u8_ext (by omega)
        have hbe : (at8 a s == at8 b s) = true := by simp [he]
        rw [hbe]
        simp only [Bool.not_true, Bool.false_eq_true, if_false, Sem.run_pure, Result.andThen_ok]
        rw [ih (s + 1) (by omega), hab]
        simp
      · have hab : a.getD s 0 ≠ b.getD s 0 := fun e => he (by unfold at8; rw [e])
        have hbe : (at8 a s == at8 b s) = false := by simp [he]
        rw [hbe]
        simp only [Bool.not_false, if_true, Sem.run_pure, Result.andThen_ok]
        rw [if_neg (by intro e; simp only [List.cons.injEq] at e; exact hab e.1)]
  have hk := key 224 0 rfl
  rw [List.drop_zero, List.drop_zero] at hk
  have hsz : ({ start := 0, stop := 224, step := 1, step_pos := by decide } : Std.Legacy.Range).size = 224 := by decide
  simp only [hsz]
  rw [hk]
  by_cases e : a = b
  · simp [e]
  · simp [e]
theorem neq70 (a b : List UInt8) (ha : a.length = 224) (hb : b.length = 224) (w : World) : (binOp .neq 70 (V8 a) (V8 b)).run Tryz.prog w = .ok (.bool (!decide (a = b))) w := by
  have h := equal70 a b ha hb w
  unfold V8 at h ⊢
  rw [run_neq_struct, h]
  rfl
theorem y_neq70 {ops : Array Oper} {S : World → Prop} {o : Oper} {x : Act} {p q : Operand} {a b : List UInt8} {r : Bool} (ha : a.length = 224) (hb : b.length = 224) (hop : o.op = .binOp .neq 70 p q 70) (hw : Region.wanted o (yielded ops x.tmps) = true) (hp : x.eval p = V8 a) (hq : x.eval q = V8 b) (hr : (!decide (a = b)) = r) :
    YieldsIf Tryz.prog ops S o (.bool r) x :=
  .inl ⟨hw, fun w _ => by
    subst hr
    unfold execOp; rw [hop]; simp only [hp, hq, Sem.run_bind]
    have hg : (eqGuard .neq 70 p q (V8 a) (V8 b)).run Tryz.prog w = .ok () w := run_eqGuard_agg w .neq 70 p q _ _ (by kernel_rfl)
    rw [hg]; simp only [Result.andThen_ok, neq70 a b ha hb]; rfl⟩
set_option maxRecDepth 100000 in
set_option maxHeartbeats 4000000 in
theorem state_any (h : List UInt8) (hl : h.length = 224) (n : Nat) (hn : n ≤ 1023) (r : Nat) (hr : r = (h.getD 18 0).toNat * 256 + (h.getD 19 0).toNat) (hroot : r = 0 ∨ ∃ q, r = q + 1 ∧ (lk h n n)[q]? = some true) (w : World) :
    Calls Tryz.prog 40 #[V8 h, .int .i64 n] w fun e w' => e = .returned (.tuple #[if hdOf (lk h n n) r = h then St (lk h n n) (lef (lk h n n)) ((r : Int) - 1) else St [] 0 0, .bool (decide (hdOf (lk h n n) r = h))]) ∧ Below w.heap.size w w' := by
  obtain ⟨l, hle⟩ : ∃ l, lk h n n = l := ⟨_, rfl⟩
  rw [hle] at hroot ⊢
  have HLE := hid hle
  clear hle
  obtain ⟨hd, hhd⟩ : ∃ hd, hdOf l r = hd := ⟨_, rfl⟩
  rw [hhd]
  have HHDE := hid hhd
  clear hhd
  obtain ⟨V, hV⟩ : ∃ V, (if hd = h then St l (lef l) ((r : Int) - 1) else St [] 0 0) = V := ⟨_, rfl⟩
  obtain ⟨bb, hbb⟩ : ∃ bb, decide (hd = h) = bb := ⟨_, rfl⟩
  rw [hV, hbb]
  have HV := hid hV
  have HBB := hid hbb
  clear hV hbb
  obtain ⟨g0, hg0⟩ : ∃ g, w.heap.size = g := ⟨_, rfl⟩
  have hbx := pbox70 w h
  have hB1 : Below w.heap.size w (w.alloc (.cells (cells8 h).toArray 70)) := (Below.refl _ _).alloc (Nat.le_refl _) _
  have hR1 : Rw (w.alloc (.cells (cells8 h).toArray 70)) w.heap.size 70 h := heap_alloc_last w _
  have hz1 : (w.alloc (.cells (cells8 h).toArray 70)).heap.size = w.heap.size + 1 := by show (w.heap.push _).size = _; simp
  generalize hw1 : w.alloc (.cells (cells8 h).toArray 70) = w1 at *
  obtain ⟨g1, hg1⟩ : ∃ g, w1.heap.size = g := ⟨_, rfl⟩
  have hal := palloc76 w1
  have hB2 : Below w1.heap.size w1 (w1.alloc (.cells (stC [] 0 0).toArray 76)) := (Below.refl _ _).alloc (Nat.le_refl _) _
  have hS2 : Sb (w1.alloc (.cells (stC [] 0 0).toArray 76)) w1.heap.size [] 0 0 := heap_alloc_last w1 _
  have hz2 : (w1.alloc (.cells (stC [] 0 0).toArray 76)).heap.size = w1.heap.size + 1 := by show (w1.heap.push _).size = _; simp
  generalize hw2 : w1.alloc (.cells (stC [] 0 0).toArray 76) = w2 at *
  rw [hg0] at hbx hR1 hz1 hB1
  rw [hg1] at hal hS2 hz2 hB2 hz1
  have hR2 : Rw w2 g0 70 h := hR1.below hB2 (by omega)
  have hB02 : Below g0 w w2 := hB1.trans (hB2.mono (by omega))
  have HBX := hid hbx
  have HAL := hid hal
  have H2 := hid (And.intro hR2 (And.intro hS2 (And.intro hB02 (show w2.heap.size = g0 + 2 ∧ g1 = g0 + 1 from ⟨by omega, by omega⟩))))
  have HL := hid hl
  have HN := hid hn
  have HR := hid hr
  have HROOT := hid hroot
  have HG0 := hid hg0
  clear hbx hal hR1 hR2 hS2 hB1 hB2 hB02 hz1 hz2 hg1 hw1 hw2 hl hn hr hroot hg0
  go_enter Tryz.func40, Tryz.ntmps40
  go_upto_region 0 with fail
  refine wp_region_lit ?_
  refine wp_run (v := .pointer (some ⟨g0, 0, none⟩)) rfl rfl (run_boxOp rfl (by kernel_rfl) HBX.out) rfl ?_
  refine wp_run (v := .pointer (some ⟨g1, 0, none⟩)) rfl rfl (run_alOp rfl HAL.out) rfl ?_
  refine wp_y (v := (.bool false)) rfl rfl (y_assign rfl) rfl ?_
  try simp only [List.setIfInBounds_toArray, List.set_cons_zero, List.set_cons_succ]
  refine wp_end ?_
  clear HBX HAL
  go_upto_region 1 with fail
  refine wp_region_lit ?_
  refine wp_y (v := .int .i64 n) rfl rfl (y_move rfl) rfl ?_
  refine wp_call (f := 79) (args := #[.int .i64 n]) (by kernel_rfl) (fun w => by go_simp) ?_
  refine (empty_any n HN.out w2).mono ?_
  rintro e w3 ⟨rfl, hB3⟩
  refine ⟨_, rfl, ?_⟩
  have h2 := H2.out
  have hR3 : Rw w3 g0 70 h := h2.1.below hB3 (by omega)
  have hS3 : Sb w3 g1 [] 0 0 := h2.2.1.below hB3 (by omega)
  have hB3g : Below g0 w w3 := h2.2.2.1.trans (hB3.mono (by omega))
  obtain ⟨g2, hg2⟩ : ∃ g, w3.heap.size = g := ⟨_, rfl⟩
  have hal3 := palloc76 w3
  have hB4 : Below w3.heap.size w3 (w3.alloc (.cells (stC [] 0 0).toArray 76)) := (Below.refl _ _).alloc (Nat.le_refl _) _
  have hS4 : Sb (w3.alloc (.cells (stC [] 0 0).toArray 76)) w3.heap.size [] 0 0 := heap_alloc_last w3 _
  have hz4 := hB3.size
  generalize w3.alloc (.cells (stC [] 0 0).toArray 76) = w4 at *
  rw [hg2] at hal3 hB4 hS4 hz4
  have hs5 := pstore76 (by simp : ([] : List Bool).length ≤ 1023) (by rw [List.length_replicate]; exact HN.out : (List.replicate n false).length ≤ 1023) hS4 (kl' := n) (kr' := -1)
  have hS5 := hS4.row (List.replicate n false) n (-1)
  have hF5 := Fr.setRow w4 g2 (stC (List.replicate n false) n (-1)).toArray
  generalize w4.setRow g2 (stC (List.replicate n false) n (-1)).toArray = w5 at *
  have HAL3 := hid hal3
  have HS5 := hid hs5
  have hg4 : g2 ≤ w4.heap.size := by rw [← hg2]; exact hB4.size
  clear hal3 hs5 hS4 hB3 H2
  dsimp only [Act.put]
  refine wp_run (v := .pointer (some ⟨g2, 0, none⟩)) rfl rfl (run_alOp rfl HAL3.out) rfl ?_
  refine wp_do rfl rfl (run_storeOp rfl (by kernel_rfl) (by kernel_rfl) HS5.out) ?_
  try simp only [List.setIfInBounds_toArray, List.set_cons_zero, List.set_cons_succ]
  refine wp_end ?_
  have H5 : Hid (Rw w5 g0 70 h ∧ Sb w5 g1 [] 0 0 ∧ Sb w5 g2 (List.replicate n false) n (-1) ∧ Below g0 w w5 ∧ g0 < g1 ∧ g1 < g2 ∧ g2 < w5.heap.size) := hid ⟨hF5.at (hR3.below hB4 (by omega)) (by simp; omega), (hS3.below hB4 (by omega)).fr hF5 (by simp; omega), hS5, (hB3g.trans (hB4.mono (by omega))).trans (hF5.below (by omega) (by simp; omega)), by omega, by omega, heap_lt hS5⟩
  clear hF5 hB4 hR3 hS3 hS5 hB3g h2 hg2 hz4
  go_upto_region 2 with fail
  refine wp_region_lit ?_
  refine wp_y (v := V8 h) rfl rfl (y_load rfl (hl := fun w' h => by rw [h]; exact pload70 HL.out H5.out.1)) rfl ?_
  refine wp_call (f := 82) (args := #[V8 h, .int .i64 18]) (by kernel_rfl) (fun w => by go_simp) ?_
  refine (number_any h HL.out 18 (by decide) w5).mono ?_
  rintro e w6 ⟨rfl, hB6⟩
  rw [show (18 + 1 : Nat) = 19 from rfl, ← HR.out]
  refine ⟨_, rfl, ?_⟩
  have h5 := H5.out
  have hS6 : Sb w6 g2 (List.replicate n false) n (-1) := h5.2.2.1.below hB6 h5.2.2.2.2.2.2
  have hc2 := hS6.c2
  have HST7 := hid (store1 Tryz.sizeOf3 (.int .i64 ((r : Int) - 1)) rfl rfl hc2 (hS6.fz 2))
  have hF7 : Fr [g2] w6 (w6.setCell ⟨g2, 2, none⟩ (.int .i64 ((r : Int) - 1))) := Fr.setCell _ _ _ _
  have H7 : Hid (Rw (w6.setCell ⟨g2, 2, none⟩ (.int .i64 ((r : Int) - 1))) g0 70 h ∧ Sb (w6.setCell ⟨g2, 2, none⟩ (.int .i64 ((r : Int) - 1))) g1 [] 0 0 ∧ Sb (w6.setCell ⟨g2, 2, none⟩ (.int .i64 ((r : Int) - 1))) g2 (List.replicate n false) n ((r : Int) - 1) ∧ Below g0 w (w6.setCell ⟨g2, 2, none⟩ (.int .i64 ((r : Int) - 1))) ∧ g0 < g1 ∧ g1 < g2) := hid ⟨hF7.at (h5.1.below hB6 (by omega)) (by simp; omega), (h5.2.1.below hB6 (by omega)).fr hF7 (by simp; omega), hS6.s2 _, (h5.2.2.2.1.trans (hB6.mono (by omega))).trans (hF7.below (by have := hB6.size; omega) (by simp; omega)), h5.2.2.2.2.1, h5.2.2.2.2.2.1⟩
  have HSUB : Hid (IntKind.i64.wrap ((r : Int) - 1) = (r : Int) - 1) := hid (by
    have h1 := (h.getD 18 0).toNat_lt
    have h2 := (h.getD 19 0).toNat_lt
    have h3 := HR.out
    rw [IntWalk.i64_in _ ⟨by omega, by omega⟩])
  generalize w6.setCell ⟨g2, 2, none⟩ (.int .i64 ((r : Int) - 1)) = w7 at *
  clear h5 hS6 hc2 hF7 hB6
  dsimp only [Act.put]
  refine wp_y (v := .int .i64 ((r : Int) - 1)) rfl rfl (y_bin (k := .i64) (k' := .i64) (m := (r : Nat)) (n := 1) rfl (by kernel_rfl) (by kernel_rfl) (by kernel_rfl) (qsub _ _ _ HSUB.out)) rfl ?_
  refine wp_y (v := .pointer (some ⟨g2, 2, none⟩)) rfl rfl (y_faddr rfl (hf := fg76_2 (g2) (0))) rfl ?_
  refine wp_do rfl rfl (run_storeOp rfl (by kernel_rfl) (by kernel_rfl) HST7.out) ?_
  try simp only [List.setIfInBounds_toArray, List.set_cons_zero, List.set_cons_succ]
  refine wp_end ?_
  clear H5
  go_wp2_with fail
  go_loopw [15, 7] (fun y _ wr => ∃ k : Nat, k ≤ n ∧ y = .int .i64 k ∧ Rw wr g0 70 h ∧ Sb wr g1 [] 0 0 ∧ Sb wr g2 (lk h n k) (lef (lk h n k)) ((r : Int) - 1) ∧ Below g0 w wr) (fun y _ _ => n - (intOf y).toNat)
  case atStart => exact ⟨0, Nat.zero_le _, rfl, H7.out.1, H7.out.2.1, by rw [lk_zero, lef_none]; exact H7.out.2.2.1, H7.out.2.2.2.1⟩
  case round =>
    have HGG := hid H7.out.2.2.2.2
    clear H7
    obtain ⟨k, hk, rfl, hR, hS1, hS, hB⟩ := hrel
    have hn := HN.out
    have hwk : IntKind.i64.wrap ((k : Int) + 1) = ((k + 1 : Nat) : Int) := by rw [IntWalk.i64_in _ ⟨by omega, by omega⟩]; omega
    by_cases hlt : k < n
    · have hlt' : (k : Int) < (n : Int) := by omega
      have hix : 20 + k / 8 < 224 := by omega
      have hG := HGG.out
      have hG0 := HG0.out
      have hle := lef_le (lk h n k)
      rw [lk_len] at hle
      obtain ⟨x, hx⟩ : ∃ x, x = h.getD (20 + k / 8) 0 := ⟨_, rfl⟩
      obtain ⟨bk, hbk⟩ : ∃ bk, bk = (rbit h k == 1) := ⟨_, rfl⟩
      have hxb : x >>> UInt8.ofNat (k % 8) &&& 1 = b2u bk := by rw [hx, hbk]; exact rbit_01 h k
      have hkl : k < (lk h n k).length := by rw [lk_len]; exact hlt
      have HLD1 := hid (show (Instr.loadAt 5 (.pointer (some ⟨g0, 20 + k / 8, none⟩))).run Tryz.prog wr = .ok (cb x) wr by
        have hc := hR.rd (20 + k / 8) (by rw [HL.out]; omega)
        rw [Nat.zero_add] at hc
        rw [hx]
        exact load1 Tryz.isAgg5 hc)
      have hcu := hS.cu (by rw [lk_len]; exact hn) k hkl
      have HST1 := hid (store1 Tryz.sizeOf73 (.int .u8 (b2u bk).toNat) rfl rfl hcu (hS.fz (3 + k)))
      have hS6 := hS.su k bk hkl
      rw [hbk, lk_succ h n k hlt, ← hbk] at hS6
      have hF6 : Fr [g2] wr (wr.setCell ⟨g2, 3 + k, none⟩ (.int .u8 (b2u bk).toNat)) := Fr.setCell _ _ _ _
      generalize hw6 : wr.setCell ⟨g2, 3 + k, none⟩ (.int .u8 (b2u bk).toNat) = w6 at *
      have hlk6 : k < (lk h n (k + 1)).length := by rw [lk_len]; exact hlt
      have hcu6 := hS6.cu (by rw [lk_len]; exact hn) k hlk6
      have hgb : (lk h n (k + 1)).getD k false = bk := by rw [hbk, List.getD, lk_get h n (k + 1) k hlt]; simp
      rw [at8, useB_get _ k hlk6, hgb] at hcu6
      have HLD2 := hid (load1 Tryz.isAgg73 hcu6)
      have hR6 : Rw w6 g0 70 h := hF6.at hR (by simp; omega)
      have hS16 := hS1.fr hF6 (by simp; omega)
      have hB6 := hB.trans (hF6.below (by have := hB.size; omega) (by simp; omega))
      have hst := lef_step h n k hlt
      rw [← hbk] at hst
      have HXB := hid hxb
      have HIX := hid hix
      have HLT := hid hlt
      have HAD : Hid (IntKind.i64.wrap (20 + ((k / 8 : Nat) : Int)) = ((20 + k / 8 : Nat) : Int)) := hid (by rw [IntWalk.i64_in _ ⟨by omega, by omega⟩]; omega)
      cases bk with
      | true =>
        simp only [if_true] at hst
        have hc1 := hS6.c1
        have HSUB : Hid (IntKind.i64.wrap ((lef (lk h n k) : Int) - 1) = (lef (lk h n (k + 1)) : Int)) := hid (by rw [IntWalk.i64_in _ ⟨by omega, by omega⟩]; omega)
        have HLD3 := hid (load1 Tryz.isAgg3 hc1)
        have HST2 := hid (store1 Tryz.sizeOf3 (.int .i64 (lef (lk h n (k + 1)))) rfl rfl hc1 (hS6.fz 1))
        have hF7 : Fr [g2] w6 (w6.setCell ⟨g2, 1, none⟩ (.int .i64 (lef (lk h n (k + 1))))) := Fr.setCell _ _ _ _
        have HZ : Hid (Rw (w6.setCell ⟨g2, 1, none⟩ (.int .i64 (lef (lk h n (k + 1))))) g0 70 h ∧ Sb (w6.setCell ⟨g2, 1, none⟩ (.int .i64 (lef (lk h n (k + 1))))) g1 [] 0 0 ∧ Sb (w6.setCell ⟨g2, 1, none⟩ (.int .i64 (lef (lk h n (k + 1))))) g2 (lk h n (k + 1)) (lef (lk h n (k + 1))) ((r : Int) - 1) ∧ Below g0 w (w6.setCell ⟨g2, 1, none⟩ (.int .i64 (lef (lk h n (k + 1)))))) := hid ⟨hF7.at hR6 (by simp; omega), hS16.fr hF7 (by simp; omega), hS6.s1 _, hB6.trans (hF7.below (by have := hB6.size; omega) (by simp; omega))⟩
        clear hR hS1 hS hB hcu hS6 hF6 hw6 hcu6 hgb hR6 hS16 hB6 hst hxb hix hlt hk hG hG0 hle hx hbk hkl hlk6 hc1 hF7
        go_upto_region 6 with fail
        refine wp_region_lit ?_
        refine wp_y (v := .int .i64 k) rfl rfl (y_move rfl) rfl ?_
        refine wp_y (v := .int .i64 k) rfl rfl (y_move rfl) rfl ?_
        refine wp_y (v := .int .i64 ((k / 8 : Nat) : Int)) rfl rfl (y_bin (k := .i64) (k' := .i64) (m := k) (n := 8) rfl (by kernel_rfl) (by kernel_rfl) (by kernel_rfl) (qquo8 k (by have := HLT.out; omega))) rfl ?_
        refine wp_y (v := .int .i64 ((20 + k / 8 : Nat) : Int)) rfl rfl (y_bin (k := .i64) (k' := .i64) (m := 20) (n := ((k / 8 : Nat) : Int)) rfl (by kernel_rfl) (by kernel_rfl) (by kernel_rfl) (qadd _ _ _ HAD.out)) rfl ?_
        refine wp_y (v := .pointer (some ⟨g0, 20 + k / 8, none⟩)) rfl rfl (y_index rfl (hr := ix70 g0 (20 + k / 8) HIX.out)) rfl ?_
        refine wp_y (v := cb x) rfl rfl (y_load rfl (hl := fun w' h => by rw [h]; exact HLD1.out)) rfl ?_
        refine wp_y (v := .int .i64 k) rfl rfl (y_move rfl) rfl ?_
        refine wp_y (v := .int .i64 ((k % 8 : Nat) : Int)) rfl rfl (y_bin (k := .i64) (k' := .i64) (m := k) (n := 8) rfl (by kernel_rfl) (by kernel_rfl) (by kernel_rfl) (qrem8 k)) rfl ?_
        try simp only [List.setIfInBounds_toArray, List.set_cons_zero, List.set_cons_succ]
        refine wp_y (v := cb (x >>> UInt8.ofNat (k % 8))) rfl rfl (y_bin (k := .u8) (k' := .i64) (m := x.toNat) (n := ((k % 8 : Nat) : Int)) rfl (by kernel_rfl) (by kernel_rfl) (by kernel_rfl) (qshrU x (k % 8) (Nat.mod_lt _ (by decide)))) rfl ?_
        refine wp_y (v := .int .u8 (b2u true).toNat) rfl rfl (y_bin (k := .u8) (k' := .u8) (m := (x >>> UInt8.ofNat (k % 8)).toNat) (n := 1) rfl (by kernel_rfl) (by kernel_rfl) (by kernel_rfl) (by have := qandU (x >>> UInt8.ofNat (k % 8)); rw [HXB.out] at this; exact this)) rfl ?_
        refine wp_y (v := .pointer (some ⟨g2, 3, none⟩)) rfl rfl (y_faddr rfl (hf := fg76_3 (g2) (0))) rfl ?_
        refine wp_y (v := .pointer (some ⟨g2, 3 + k, none⟩)) rfl rfl (y_index rfl (hr := ix74 g2 3 k (by have := HLT.out; omega))) rfl ?_
        refine wp_do rfl rfl (run_storeOp rfl (by kernel_rfl) (by kernel_rfl) HST1.out) ?_
        try simp only [List.setIfInBounds_toArray, List.set_cons_zero, List.set_cons_succ]
        refine wp_end ?_
        go_upto_region 7 with fail
        refine wp_region_lit ?_
        refine wp_y (v := .int .i64 k) rfl rfl (y_move rfl) rfl ?_
        refine wp_y (v := .pointer (some ⟨g2, 3, none⟩)) rfl rfl (y_faddr rfl (hf := fg76_3 (g2) (0))) rfl ?_
        refine wp_y (v := .pointer (some ⟨g2, 3 + k, none⟩)) rfl rfl (y_index rfl (hr := ix74 g2 3 k (by have := HLT.out; omega))) rfl ?_
        refine wp_y (v := .int .u8 (b2u true).toNat) rfl rfl (y_load rfl (hl := fun w' h => by rw [h]; exact HLD2.out)) rfl ?_
        refine wp_y (v := .bool true) rfl rfl (y_bin (k := .u8) (k' := .u8) (m := (b2u true).toNat) (n := 1) rfl (by kernel_rfl) (by kernel_rfl) (by kernel_rfl) (qeqlU _ _ _ rfl)) rfl ?_
        try simp only [List.setIfInBounds_toArray, List.set_cons_zero, List.set_cons_succ]
        refine wp_end ?_
        go_upto_region 8 with fail
        refine wp_region_lit ?_
        refine wp_y (v := .pointer (some ⟨g2, 1, none⟩)) rfl rfl (y_faddr rfl (hf := fg76_1 (g2) (0))) rfl ?_
        refine wp_y (v := .int .i64 (lef (lk h n k))) rfl rfl (y_load rfl (hl := fun w' h => by rw [h]; exact HLD3.out)) rfl ?_
        refine wp_y (v := .int .i64 (lef (lk h n (k + 1)))) rfl rfl (y_bin (k := .i64) (k' := .i64) (m := (lef (lk h n k))) (n := 1) rfl (by kernel_rfl) (by kernel_rfl) (by kernel_rfl) (qsub _ _ _ HSUB.out)) rfl ?_
        refine wp_y (v := .pointer (some ⟨g2, 1, none⟩)) rfl rfl (y_faddr rfl (hf := fg76_1 (g2) (0))) rfl ?_
        refine wp_do rfl rfl (run_storeOp rfl (by kernel_rfl) (by kernel_rfl) HST2.out) ?_
        try simp only [List.setIfInBounds_toArray, List.set_cons_zero, List.set_cons_succ]
        refine wp_end ?_
        go_wp2_with fail
        exact ⟨⟨k + 1, HLT.out, rfl, HZ.out⟩, by have := HLT.out; simp [intOf]; omega⟩
      | false =>
        simp only [Bool.false_eq_true, if_false, Int.sub_zero] at hst
        rw [← hst] at hS6
        have HZ : Hid (Rw w6 g0 70 h ∧ Sb w6 g1 [] 0 0 ∧ Sb w6 g2 (lk h n (k + 1)) (lef (lk h n (k + 1))) ((r : Int) - 1) ∧ Below g0 w w6) := hid ⟨hR6, hS16, hS6, hB6⟩
        clear hR hS1 hS hB hcu hS6 hF6 hw6 hcu6 hgb hR6 hS16 hB6 hst hxb hix hlt hk hG hG0 hle hx hbk hkl hlk6
        go_upto_region 6 with fail
        refine wp_region_lit ?_
        refine wp_y (v := .int .i64 k) rfl rfl (y_move rfl) rfl ?_
        refine wp_y (v := .int .i64 k) rfl rfl (y_move rfl) rfl ?_
        refine wp_y (v := .int .i64 ((k / 8 : Nat) : Int)) rfl rfl (y_bin (k := .i64) (k' := .i64) (m := k) (n := 8) rfl (by kernel_rfl) (by kernel_rfl) (by kernel_rfl) (qquo8 k (by have := HLT.out; omega))) rfl ?_
        refine wp_y (v := .int .i64 ((20 + k / 8 : Nat) : Int)) rfl rfl (y_bin (k := .i64) (k' := .i64) (m := 20) (n := ((k / 8 : Nat) : Int)) rfl (by kernel_rfl) (by kernel_rfl) (by kernel_rfl) (qadd _ _ _ HAD.out)) rfl ?_
        refine wp_y (v := .pointer (some ⟨g0, 20 + k / 8, none⟩)) rfl rfl (y_index rfl (hr := ix70 g0 (20 + k / 8) HIX.out)) rfl ?_
        refine wp_y (v := cb x) rfl rfl (y_load rfl (hl := fun w' h => by rw [h]; exact HLD1.out)) rfl ?_
        refine wp_y (v := .int .i64 k) rfl rfl (y_move rfl) rfl ?_
        refine wp_y (v := .int .i64 ((k % 8 : Nat) : Int)) rfl rfl (y_bin (k := .i64) (k' := .i64) (m := k) (n := 8) rfl (by kernel_rfl) (by kernel_rfl) (by kernel_rfl) (qrem8 k)) rfl ?_
        try simp only [List.setIfInBounds_toArray, List.set_cons_zero, List.set_cons_succ]
        refine wp_y (v := cb (x >>> UInt8.ofNat (k % 8))) rfl rfl (y_bin (k := .u8) (k' := .i64) (m := x.toNat) (n := ((k % 8 : Nat) : Int)) rfl (by kernel_rfl) (by kernel_rfl) (by kernel_rfl) (qshrU x (k % 8) (Nat.mod_lt _ (by decide)))) rfl ?_
        refine wp_y (v := .int .u8 (b2u false).toNat) rfl rfl (y_bin (k := .u8) (k' := .u8) (m := (x >>> UInt8.ofNat (k % 8)).toNat) (n := 1) rfl (by kernel_rfl) (by kernel_rfl) (by kernel_rfl) (by have := qandU (x >>> UInt8.ofNat (k % 8)); rw [HXB.out] at this; exact this)) rfl ?_
        refine wp_y (v := .pointer (some ⟨g2, 3, none⟩)) rfl rfl (y_faddr rfl (hf := fg76_3 (g2) (0))) rfl ?_
        refine wp_y (v := .pointer (some ⟨g2, 3 + k, none⟩)) rfl rfl (y_index rfl (hr := ix74 g2 3 k (by have := HLT.out; omega))) rfl ?_
        refine wp_do rfl rfl (run_storeOp rfl (by kernel_rfl) (by kernel_rfl) HST1.out) ?_
        try simp only [List.setIfInBounds_toArray, List.set_cons_zero, List.set_cons_succ]
        refine wp_end ?_
        go_upto_region 7 with fail
        refine wp_region_lit ?_
        refine wp_y (v := .int .i64 k) rfl rfl (y_move rfl) rfl ?_
        refine wp_y (v := .pointer (some ⟨g2, 3, none⟩)) rfl rfl (y_faddr rfl (hf := fg76_3 (g2) (0))) rfl ?_
        refine wp_y (v := .pointer (some ⟨g2, 3 + k, none⟩)) rfl rfl (y_index rfl (hr := ix74 g2 3 k (by have := HLT.out; omega))) rfl ?_
        refine wp_y (v := .int .u8 (b2u false).toNat) rfl rfl (y_load rfl (hl := fun w' h => by rw [h]; exact HLD2.out)) rfl ?_
        refine wp_y (v := .bool false) rfl rfl (y_bin (k := .u8) (k' := .u8) (m := (b2u false).toNat) (n := 1) rfl (by kernel_rfl) (by kernel_rfl) (by kernel_rfl) (qeqlU _ _ _ rfl)) rfl ?_
        try simp only [List.setIfInBounds_toArray, List.set_cons_zero, List.set_cons_succ]
        refine wp_end ?_
        go_wp2_with fail
        exact ⟨⟨k + 1, HLT.out, rfl, HZ.out⟩, by have := HLT.out; simp [intOf]; omega⟩
    · obtain rfl : k = n := by omega
      have hlt' : ¬ (k : Int) < (k : Int) := by omega
      have hll : l.length ≤ 1023 := by rw [← HLE.out, lk_len]; exact hn
      rw [HLE.out] at hS
      have hG := HGG.out
      have hG0 := HG0.out
      have hrl : r < 65536 := by
        have h1 := (h.getD 18 0).toNat_lt
        have h2 := (h.getD 19 0).toNat_lt
        have h3 := HR.out
        omega
      have HRT : Hid (Calls Tryz.prog 83 #[.pointer (some ⟨g2, 0, none⟩)] wr.drew fun e w' => e = .returned (.bool true) ∧ w' = wr.drew.drew) := hid (by
        have hSd : Sb wr.drew g2 l (lef l) ((r : Int) - 1) := hS
        rcases HROOT.out with h0 | ⟨q, hq, hlq⟩
        · rw [h0] at hSd
          exact rooted_none hSd
        · rw [hq, show (((q + 1 : Nat) : Int) - 1) = (q : Nat) by omega] at hSd
          exact rooted_in hSd hll hlq)
      have hd2 : Below wr.heap.size wr wr.drew.drew := ((Below.refl _ _).drew).trans ((Below.refl _ _).drew)
      have HS10 := hid (show Sb wr.drew g2 l (lef l) ((r : Int) - 1) ∧ Rw wr.drew g0 70 h from ⟨hS, hR⟩)
      have HS11 := hid (show Sb wr.drew.drew g2 l (lef l) ((r : Int) - 1) ∧ Rw wr.drew.drew g0 70 h from ⟨hS, hR⟩)
      have HHD := hid (head_state l (lef l) ((r : Int) - 1) hll r (by omega) hrl wr.drew.drew)
      have HLL := hid hll
      have HK := hid (And.intro hS1 (And.intro hB (And.intro hd2 (show g0 < g1 ∧ g1 < g2 ∧ g2 < wr.heap.size from ⟨hG.1, hG.2, heap_lt hS⟩))))
      have HHL := hid (show hd.length = 224 by rw [← HHDE.out]; exact hdOf_len l r)
      rw [HHDE.out] at HHD
      generalize (lef l : Int) = ll at *
      generalize ((r : Int) - 1) = rr at *
      clear hR hS1 hS hB hk hlt hG hG0 hrl hd2 hll HROOT HR
      go_wp2_with fail
      refine h_openL (S := fun w' => Sb w' g2 l ll rr ∧ Rw w' g0 70 h) (by kernel_rfl) (by kernel_rfl) (fun _ _ _ _ _ h => h) (L := #[false, false, false, false, false, false, false, false]) (by kernel_rfl) ?_
      intro Q' hns hP hN
      have hS := HS10.out
      refine h_callL (i := 0) (f := 83) (args := #[.pointer (some ⟨g2, 0, none⟩)]) (by kernel_rfl) rfl rfl (by kernel_rfl) (enter_go rfl (by kernel_rfl) (fun w => by go_simp)) (L' := #[true, false, false, false, false, false, false, false]) (by kernel_rfl) ?_
      refine HRT.out.mono ?_
      rintro e w8 ⟨rfl, rfl⟩
      refine ⟨_, rfl, HS11.out, ?_⟩
      have hS2 := HS11.out
      clear hS
      have hS := hS2
      refine h_takeL (i := 1) (v := .bool false) hns rfl rfl (by kernel_rfl) (by kernel_rfl) hP (y_un rfl (by kernel_rfl) (by kernel_rfl) (not_b true)) hS rfl (L' := #[true, true, false, false, false, false, false, false]) (by kernel_rfl) ?_
      refine h_takeL (i := 2) (v := .bool false) hns rfl rfl (by kernel_rfl) (by kernel_rfl) hP (y_move rfl) hS rfl (L' := #[true, true, true, false, false, false, false, false]) (by kernel_rfl) ?_
      refine h_takeL (i := 3) (v := St l ll rr) hns rfl rfl (by kernel_rfl) (by kernel_rfl) hP (y_load rfl (hl := fun w' h => pload76 HLL.out h.1)) hS rfl (L' := #[true, true, true, true, false, false, false, false]) (by kernel_rfl) ?_
      refine h_takeL (i := 5) (v := V8 h) hns rfl rfl (by kernel_rfl) (by kernel_rfl) hP (y_load rfl (hl := fun w' h => pload70 HL.out h.2)) hS rfl (L' := #[true, true, true, true, false, true, false, false]) (by kernel_rfl) ?_
      refine h_callL (i := 4) (f := 84) (args := #[St l ll rr]) (by kernel_rfl) rfl rfl (by kernel_rfl) (enter_go rfl (by kernel_rfl) (fun w => by go_simp)) (L' := #[true, true, true, true, true, true, false, false]) (by kernel_rfl) ?_
      refine HHD.out.mono ?_
      rintro e w9 ⟨rfl, hB9⟩
      have hS9 : Sb w9 g2 l ll rr ∧ Rw w9 g0 70 h := ⟨hS.1.below hB9 (heap_lt hS.1), hS.2.below hB9 hS.2.lt⟩
      refine ⟨_, rfl, hS9, ?_⟩
      clear hS
      have hS := hS9
      refine h_takeL (i := 6) (v := .bool (!decide (hd = h))) hns rfl rfl (by kernel_rfl) (by kernel_rfl) hP (y_neq70 HHL.out HL.out rfl (by kernel_rfl) (by kernel_rfl) (by kernel_rfl) rfl) hS rfl (L' := #[true, true, true, true, true, true, true, false]) (by kernel_rfl) ?_
      try simp only [List.setIfInBounds_toArray, List.set_cons_zero, List.set_cons_succ]
      refine h_takeL (i := 7) (v := .bool (!decide (hd = h))) hns rfl rfl (by kernel_rfl) (by kernel_rfl) hP (y_pick (b := false) rfl) hS rfl (L' := #[true, true, true, true, true, true, true, true]) (by kernel_rfl) ?_
      try simp only [List.setIfInBounds_toArray, List.set_cons_zero, List.set_cons_succ]
      refine wpAnyH_done (by kernel_rfl) ?_ _
      refine hN _ _ ?_
      clear hP hN hns
      clear hS hS2
      have hk := HK.out
      have hG0 := HG0.out
      have hs1 : Sb w9 g1 [] 0 0 := (hk.1.below hk.2.2.1 (by omega)).below hB9 (by have := hk.2.2.1.size; omega)
      have hs2 : Sb w9 g2 l ll rr := hS9.1
      have hb9 : Below g0 w w9 := (hk.2.1.trans (hk.2.2.1.mono (by have := hk.2.1.size; omega))).trans (hB9.mono (by have := hk.2.1.size; have := hk.2.2.1.size; omega))
      have hl0 : ([] : List Bool).length ≤ 1023 := by simp
      clear hS9 HS10 HS11
      by_cases he : hd = h
      · have HST := hid (pstore76 hl0 HLL.out hs1 (kl' := ll) (kr' := rr))
        have HLR := hid (pload76 HLL.out (hs1.row l ll rr))
        have HLD := hid (pload76 HLL.out hs2)
        have HZ : Hid (Below w.heap.size w (w9.setRow g1 (stC l ll rr).toArray)) := hid (by
          rw [HG0.out]
          exact hb9.trans ((Fr.setRow w9 g1 _).below (by have := hb9.size; omega) (by simp; omega)))
        have HFIN : Hid (Ending.returned (.tuple #[St l ll rr, .bool true]) = .returned (.tuple #[V, .bool bb])) := hid (by rw [← HV.out, ← HBB.out, if_pos he, decide_eq_true he])
        simp only [decide_eq_true he, Bool.not_true]
        clear hs1 hs2 hb9 hl0 hk hG0 hB9 he HV HBB
        go_upto_region 12 with fail
        refine wp_region_lit ?_
        refine wp_y (v := St l ll rr) rfl rfl (y_load rfl (hl := fun w' h => by rw [h]; exact HLD.out)) rfl ?_
        refine wp_do rfl rfl (run_storeOp rfl (by kernel_rfl) (by kernel_rfl) HST.out) ?_
        refine wp_y (v := (.bool true)) rfl rfl (y_assign rfl) rfl ?_
        try simp only [List.setIfInBounds_toArray, List.set_cons_zero, List.set_cons_succ]
        refine wp_end ?_
        go_wp2_with fail
        exact ret_pair rfl rfl rfl HLR.out ⟨HFIN.out, HZ.out⟩
      · have HST := hid (pstore76 hl0 hl0 hs1 (kl' := 0) (kr' := 0))
        have HLR := hid (pload76 hl0 (hs1.row [] 0 0))
        have HZ : Hid (Below w.heap.size w (w9.setRow g1 (stC [] 0 0).toArray)) := hid (by
          rw [HG0.out]
          exact hb9.trans ((Fr.setRow w9 g1 _).below (by have := hb9.size; omega) (by simp; omega)))
        have HFIN : Hid (Ending.returned (.tuple #[St [] 0 0, .bool false]) = .returned (.tuple #[V, .bool bb])) := hid (by rw [← HV.out, ← HBB.out, if_neg he, decide_eq_false he])
        simp only [decide_eq_false he, Bool.not_false]
        clear hs1 hs2 hb9 hl0 hk hG0 hB9 he HV HBB
        go_upto_region 11 with fail
        refine wp_region_lit ?_
        refine wp_run (v := St [] 0 0) rfl rfl (run_buildOp rfl (by kernel_rfl) (pbuild76e _)) rfl ?_
        refine wp_do rfl rfl (run_storeOp rfl (by kernel_rfl) (by kernel_rfl) HST.out) ?_
        refine wp_y (v := (.bool false)) rfl rfl (y_assign rfl) rfl ?_
        try simp only [List.setIfInBounds_toArray, List.set_cons_zero, List.set_cons_succ]
        refine wp_end ?_
        go_wp2_with fail
        exact ret_pair rfl rfl rfl HLR.out ⟨HFIN.out, HZ.out⟩
end Go.Proofs.YtcmgclkbhhdnaaaGreatDoor
namespace Go.Proofs.YtcmgclkbhhdnaaaGreatDoor
open Go Go.RowKit

/-- What a table of uses holds, as values. -/
def uV (u : Int → Option Bool) : Int → Option Value := fun k => (u k).map fun b => .int .u8 (b2u b).toNat
def gV (g : Int → Option (List UInt8)) : Int → Option Value := fun k => (g k).map V8
def updF {α : Type} (u : Int → Option α) (k : Int) (v : Option α) : Int → Option α := fun x => if x = k then v else u x
theorem uV_upd (u : Int → Option Bool) (k : Int) (b : Bool) : upd (uV u) k (some (.int .u8 (b2u b).toNat)) = uV (updF u k (some b)) := by
  funext x
  unfold upd uV updF
  by_cases h : x = k <;> simp [h]
theorem gV_upd (g : Int → Option (List UInt8)) (k : Int) (c : List UInt8) : upd (gV g) k (some (V8 c)) = gV (updF g k (some c)) := by
  funext x
  unfold upd gV updF
  by_cases h : x = k <;> simp [h]
theorem gV_del (g : Int → Option (List UInt8)) (k : Int) : upd (gV g) k none = gV (updF g k none) := by
  funext x
  unfold upd gV updF
  by_cases h : x = k <;> simp [h]
theorem updF_same {α : Type} (u : Int → Option α) (k : Int) (v : Option α) : updF u k v k = v := by simp [updF]
theorem updF_ne {α : Type} (u : Int → Option α) {k x : Int} (v : Option α) (h : x ≠ k) : updF u k v x = u x := by simp [updF, h]
/-- The uses, as the change has them. -/
def usf (l : List Bool) (u : Int → Option Bool) (k : Nat) : Bool := (u k).getD (l.getD k false)
def ovl (l : List Bool) (u : Int → Option Bool) : List Bool := (List.range l.length).map (usf l u)
theorem ovl_len (l : List Bool) (u : Int → Option Bool) : (ovl l u).length = l.length := by simp [ovl]
theorem ovl_get (l : List Bool) (u : Int → Option Bool) (k : Nat) (hk : k < l.length) : (ovl l u)[k]? = some (usf l u k) := by simp [ovl, hk]
theorem ovl_none (l : List Bool) : ovl l (fun _ => none) = l := by
  apply List.ext_getElem?
  intro k
  by_cases hk : k < l.length
  · rw [ovl_get _ _ k hk]; simp [usf, hk]
  · rw [List.getElem?_eq_none (by rw [ovl_len]; omega), List.getElem?_eq_none (by omega)]
theorem ovl_upd (l : List Bool) (u : Int → Option Bool) (k : Nat) (b : Bool) (hk : k < l.length) : ovl l (updF u k (some b)) = (ovl l u).set k b := by
  apply List.ext_getElem?
  intro q
  by_cases hq : q < l.length
  · by_cases e : k = q
    · subst e
      rw [ovl_get _ _ k hk, List.getElem?_set_self (by rw [ovl_len]; exact hk)]
      simp [usf, updF]
    · rw [ovl_get _ _ q hq, List.getElem?_set_ne e, ovl_get _ _ q hq]
      unfold usf
      rw [updF_ne _ _ (by omega)]
  · rw [List.getElem?_eq_none (by rw [ovl_len]; omega), List.getElem?_eq_none (by rw [List.length_set, ovl_len]; omega)]
/-- Uses laid one behind the other. -/
def ap (u : Int → Option Bool) (l : List Bool) (zs : List Int) : List Bool := zs.foldl (fun l z => l.set z.toNat ((u z).getD false)) l
theorem ap_len (u : Int → Option Bool) : ∀ (zs : List Int) (l : List Bool), (ap u l zs).length = l.length
  | [], _ => rfl
  | z :: zs, l => by
    show (ap u (l.set z.toNat ((u z).getD false)) zs).length = _
    rw [ap_len u zs, List.length_set]
theorem ap_get (u : Int → Option Bool) : ∀ (zs : List Int) (l : List Bool) (q : Nat), (∀ z ∈ zs, 0 ≤ z) → q < l.length → (ap u l zs)[q]? = some (if (q : Int) ∈ zs then (u q).getD false else l.getD q false)
  | [], l, q, _, hq => by simp [ap, hq]
  | z :: zs, l, q, h0, hq => by
    show (ap u (l.set z.toNat ((u z).getD false)) zs)[q]? = _
    rw [ap_get u zs _ q (fun x hx => h0 x (by simp [hx])) (by rw [List.length_set]; exact hq)]
    by_cases hm : (q : Int) ∈ zs
    · rw [if_pos hm, if_pos (by simp [hm])]
    · rw [if_neg hm]
      have hz := h0 z (by simp)
      by_cases e : z.toNat = q
      · have e2 : z = (q : Int) := by omega
        subst e2
        rw [if_pos (by simp)]
        simp [List.getD, hq]
      · rw [if_neg (by simp only [List.mem_cons, not_or]; exact ⟨by omega, hm⟩)]
        simp only [List.getD, List.getElem?_set_ne e]
theorem ap_all (u : Int → Option Bool) (l : List Bool) (zs : List Int) (h0 : ∀ z ∈ zs, 0 ≤ z) (hz : ∀ z, z ∈ zs ↔ u z ≠ none) : ap u l zs = ovl l u := by
  apply List.ext_getElem?
  intro q
  by_cases hq : q < l.length
  · rw [ap_get u zs l q h0 hq, ovl_get _ _ q hq]
    congr 1
    unfold usf
    by_cases hm : (q : Int) ∈ zs
    · rw [if_pos hm]
      cases hu : u q with
      | none => exact absurd hu ((hz _).1 hm)
      | some b => rfl
    · rw [if_neg hm]
      have : u q = none := by
        cases hu : u q with
        | none => rfl
        | some b => exact absurd ((hz q).2 (by rw [hu]; simp)) hm
      rw [this]; rfl
  · rw [List.getElem?_eq_none (by rw [ap_len]; omega), List.getElem?_eq_none (by rw [ovl_len]; omega)]
theorem ap_snoc (u : Int → Option Bool) (l : List Bool) (zs : List Int) (z : Int) : ap u l (zs ++ [z]) = (ap u l zs).set z.toNat ((u z).getD false) := by simp [ap]
theorem mem_sorted (zs : List Int) (x : Int) : x ∈ sorted zs ↔ x ∈ zs := by unfold sorted; exact (List.mergeSort_perm _ _).mem_iff
theorem sorted_len (zs : List Int) : (sorted zs).length = zs.length := by simp [sorted]
theorem Ats.shape {w : World} {B : Nat} {v : Value} {zs : List Int} (h : Ats w B v zs) : ∃ a c, v = .slice a zs.length c := by
  obtain ⟨a, c, e, _⟩ := h.iz
  exact ⟨a, c, e⟩
theorem Ats.cell {w : World} {B : Nat} {a : Option Addr} {n c : Nat} {zs : List Int} (h : Ats w B (.slice a n c) zs) {k : Nat} {x : Int} (hk : zs[k]? = some x) : ∃ g, a = some ⟨g, 0, none⟩ ∧ B ≤ g ∧ w.cell? ⟨g, k, none⟩ = some (.int .i64 x) := by
  have hkl := (List.getElem?_eq_some_iff.1 hk).1
  rcases h.2 with ⟨e, h0⟩ | ⟨g, cap, cur, e, hb, hg, hc, hm, hs, ht⟩
  · omega
  · injection e with e1 e2 e3
    subst e1
    refine ⟨g, rfl, hb, cell_at hg k ?_⟩
    have h1 : (zs.map (Value.int .i64))[k]? = some (.int .i64 x) := by rw [List.getElem?_map, hk]; rfl
    rw [← ht, List.getElem?_take_of_lt (by omega)] at h1
    simpa using h1
theorem idx42 (b n cap k : Nat) (h : k < n) (w : World) : (Instr.indexAt 42 (.slice (some ⟨b, 0, none⟩) n cap) (.int .i64 k)).run Tryz.prog w = .ok (.pointer (some ⟨b, k, none⟩)) w := by
  have := idx43 b 0 n cap k h w
  rwa [Nat.zero_add] at this
theorem sorted_at {w : World} {B : Nat} {v : Value} {zs : List Int} (h : Ats w B v zs) : zs.length ≤ 9223372036854775807 := by
  rcases h.2 with ⟨_, h0⟩ | ⟨g, cap, cur, e, hb, hg, hc, hm, hs, ht⟩
  · omega
  · unfold maxLen at hm; omega
set_option maxRecDepth 100000 in
set_option maxHeartbeats 4000000 in
theorem with_any (l : List Bool) (kl kr : Int) (bg : Bool) (lf rt : Int) (um bm : Option Nat) (ks : List Int) (u : Int → Option Bool) (hl : l.length ≤ 1023) (w : World) (hm : Mo w um ks (uV u)) (hk : ∀ k ∈ ks, 0 ≤ k ∧ k < l.length) (hku : ∀ k, k ∈ ks ↔ u k ≠ none) (hkl : ks.length ≤ 1000000) :
    Calls Tryz.prog 51 #[St l kl kr, Ch bg lf rt um bm] w fun e w' => e = .returned (St (ovl l u) lf rt) ∧ Below w.heap.size w w' := by
  obtain ⟨g0, hg0⟩ : ∃ g, w.heap.size = g := ⟨_, rfl⟩
  have hbx := pbox76 w l kl kr
  have hB1 : Below w.heap.size w (w.alloc (.cells (stC l kl kr).toArray 76)) := (Below.refl _ _).alloc (Nat.le_refl _) _
  have hS1 : Sb (w.alloc (.cells (stC l kl kr).toArray 76)) w.heap.size l kl kr := heap_alloc_last w _
  have hz1 : (w.alloc (.cells (stC l kl kr).toArray 76)).heap.size = w.heap.size + 1 := by show (w.heap.push _).size = _; simp
  have hm1 := hm.below hB1
  generalize hw1 : w.alloc (.cells (stC l kl kr).toArray 76) = w1 at *
  obtain ⟨g1, hg1⟩ : ∃ g, w1.heap.size = g := ⟨_, rfl⟩
  have hbx2 := box87 w1 bg lf rt um bm
  have hB2 : Below w1.heap.size w1 (w1.alloc (.cells (chC bg lf rt um bm).toArray 87)) := (Below.refl _ _).alloc (Nat.le_refl _) _
  have hC2 : Cb (w1.alloc (.cells (chC bg lf rt um bm).toArray 87)) w1.heap.size bg lf rt um bm := heap_alloc_last w1 _
  have hz2 : (w1.alloc (.cells (chC bg lf rt um bm).toArray 87)).heap.size = w1.heap.size + 1 := by show (w1.heap.push _).size = _; simp
  have hm2 := hm1.below hB2
  generalize hw2 : w1.alloc (.cells (chC bg lf rt um bm).toArray 87) = w2 at *
  obtain ⟨g2, hg2⟩ : ∃ g, w2.heap.size = g := ⟨_, rfl⟩
  have hal := palloc76 w2
  have hB3 : Below w2.heap.size w2 (w2.alloc (.cells (stC [] 0 0).toArray 76)) := (Below.refl _ _).alloc (Nat.le_refl _) _
  have hS3 : Sb (w2.alloc (.cells (stC [] 0 0).toArray 76)) w2.heap.size [] 0 0 := heap_alloc_last w2 _
  have hm3 := hm2.below hB3
  generalize hw3 : w2.alloc (.cells (stC [] 0 0).toArray 76) = w3 at *
  rw [hg0] at hbx hS1 hz1 hB1
  rw [hg1] at hbx2 hC2 hz2 hB2 hz1
  rw [hg2] at hal hS3 hB3 hz2
  have hS03 : Sb w3 g0 l kl kr := (hS1.below hB2 (by omega)).below hB3 (by omega)
  have hC3 : Cb w3 g1 bg lf rt um bm := hC2.below hB3 (by omega)
  have hB03 : Below g0 w w3 := (hB1.trans (hB2.mono (by omega))).trans (hB3.mono (by omega))
  have HPG := hid (pages_keysU hC3.c3 hm3 (fun k hkk => ⟨(hk k hkk).1, by have := (hk k hkk).2; omega⟩) hkl)
  have H3 := hid (And.intro hS03 (And.intro hC3 (And.intro hS3 (And.intro hm3 (And.intro hB03 (show g0 < g1 ∧ g1 < g2 ∧ g2 < w3.heap.size from ⟨by omega, by omega, heap_lt hS3⟩))))))
  have HBX := hid hbx
  have HBX2 := hid hbx2
  have HAL := hid hal
  have HL := hid hl
  have HK := hid hk
  have HKU := hid hku
  have HG0 := hid hg0
  obtain ⟨zs, hzs⟩ : ∃ zs, sorted ks = zs := ⟨_, rfl⟩
  rw [hzs] at HPG
  have HZ0 : Hid (∀ z ∈ zs, 0 ≤ z ∧ z < l.length) := hid (fun z hz => hk z (by rw [← hzs, mem_sorted] at hz; exact hz))
  have HZU : Hid (∀ z, z ∈ zs ↔ u z ≠ none) := hid (fun z => by rw [← hzs, mem_sorted]; exact hku z)
  clear hbx hbx2 hal hS1 hS03 hC2 hC3 hS3 hB1 hB2 hB3 hB03 hz1 hz2 hg1 hg2 hw1 hw2 hw3 hl hk hku hg0 hm hm1 hm2 hm3 hkl hzs HK HKU
  go_enter Tryz.func51, Tryz.ntmps51
  go_upto_region 0 with fail
  refine wp_region_lit ?_
  refine wp_run (v := .pointer (some ⟨g0, 0, none⟩)) rfl rfl (run_boxOp rfl (by kernel_rfl) HBX.out) rfl ?_
  refine wp_run (v := .pointer (some ⟨g1, 0, none⟩)) rfl rfl (run_boxOp rfl (by kernel_rfl) HBX2.out) rfl ?_
  refine wp_run (v := .pointer (some ⟨g2, 0, none⟩)) rfl rfl (run_alOp rfl HAL.out) rfl ?_
  try simp only [List.setIfInBounds_toArray, List.set_cons_zero, List.set_cons_succ]
  refine wp_end ?_
  clear HBX HBX2 HAL
  go_upto_region 1 with fail
  refine wp_region_lit ?_
  refine wp_y (v := .pointer (some ⟨g1, 3, none⟩)) rfl rfl (y_faddr rfl (hf := fg87_3 (g1) (0))) rfl ?_
  refine wp_call (f := 87) (args := #[.pointer (some ⟨g1, 3, none⟩)]) (by kernel_rfl) (fun w => by go_simp) ?_
  refine HPG.out.mono ?_
  rintro e w4 ⟨v, rfl, hA4, hB4⟩
  obtain ⟨sa, sc, rfl⟩ := hA4.shape
  have hml4 := sorted_at hA4
  obtain ⟨gB, hgB⟩ : ∃ g, w3.heap.size = g := ⟨_, rfl⟩
  obtain ⟨m, hm⟩ : ∃ m, zs.length = m := ⟨_, rfl⟩
  rw [hgB] at hA4
  rw [hm] at hA4 hml4
  have h3 := H3.out
  have H4 : Hid (Sb w4 g0 l kl kr ∧ Cb w4 g1 bg lf rt um bm ∧ Sb w4 g2 [] 0 0 ∧ Mo w4 um ks (uV u) ∧ Ats w4 gB (.slice sa m sc) zs ∧ Below g0 w w4 ∧ g0 < g1 ∧ g1 < g2) := hid ⟨h3.1.below hB4 (by omega), h3.2.1.below hB4 (by omega), h3.2.2.1.below hB4 (by omega), h3.2.2.2.1.below hB4, hA4, h3.2.2.2.2.1.trans (hB4.mono (by omega)), h3.2.2.2.2.2.1, h3.2.2.2.2.2.2.1⟩
  have HML := hid (And.intro hml4 hm)
  refine ⟨_, rfl, ?_⟩
  rw [hm]
  clear h3 hA4 hB4 hgB hml4 hm HPG H3
  dsimp only [Act.put]
  refine wp_y (v := .int .i64 m) rfl rfl (y_len43 (p := sa) (c := sc) rfl (by kernel_rfl) (by kernel_rfl)) rfl ?_
  refine wp_y (v := (.int .i64 0)) rfl rfl (y_move rfl) rfl ?_
  try simp only [List.setIfInBounds_toArray, List.set_cons_zero, List.set_cons_succ]
  refine wp_end ?_
  go_wp2_with fail
  go_loopw [10, 6] (fun y _ wr => ∃ k : Nat, k ≤ m ∧ y = .int .i64 k ∧ Sb wr g0 (ap u l (zs.take k)) kl kr ∧ Cb wr g1 bg lf rt um bm ∧ Sb wr g2 [] 0 0 ∧ Mo wr um ks (uV u) ∧ Ats wr gB (.slice sa m sc) zs ∧ Below g0 w wr) (fun y _ _ => m - (intOf y).toNat)
  case atStart => exact ⟨0, Nat.zero_le _, rfl, H4.out.1, H4.out.2.1, H4.out.2.2.1, H4.out.2.2.2.1, H4.out.2.2.2.2.1, H4.out.2.2.2.2.2.1⟩
  case round =>
    have HGG := hid H4.out.2.2.2.2.2.2
    clear H4
    obtain ⟨k, hk, rfl, hS, hC, hS2, hM, hA, hB⟩ := hrel
    have hml := HML.out
    have hG := HGG.out
    have hG0 := HG0.out
    by_cases hlt : k < m
    · have hlt' : (k : Int) < (m : Int) := by omega
      have hwk : IntKind.i64.wrap ((k : Int) + 1) = ((k + 1 : Nat) : Int) := by rw [IntWalk.i64_in _ ⟨by omega, by omega⟩]; omega
      obtain ⟨z, hz⟩ : ∃ z, zs[k]? = some z := ⟨_, List.getElem?_eq_getElem (by omega)⟩
      obtain ⟨ga, rfl, hga, hca⟩ := hA.cell hz
      have hzb := HZ0.out z (List.mem_of_getElem? hz)
      have hzu := (HZU.out z).1 (List.mem_of_getElem? hz)
      obtain ⟨b, hb⟩ : ∃ b, u z = some b := by
        cases h : u z with
        | none => exact absurd h hzu
        | some b => exact ⟨b, rfl⟩
      obtain ⟨q, hq⟩ : ∃ q : Nat, z = q := ⟨z.toNat, by omega⟩
      subst hq
      have hqb : (ap u l (zs.take k)).length = l.length := ap_len u _ _
      have hql : q < (ap u l (zs.take k)).length := by rw [hqb]; omega
      have HLD := hid (load1 Tryz.isAgg3 hca)
      have hget := get_use hC.c3 hM (q : Int)
      have huv : (uV u (q : Int)) = some (.int .u8 (b2u b).toNat) := by unfold uV; rw [hb]; rfl
      rw [huv] at hget
      have HGET := hid hget
      have HST := hid (store1 Tryz.sizeOf73 (.int .u8 (b2u b).toNat) rfl rfl (hS.cu (by rw [hqb]; exact HL.out) q hql) (hS.fz (3 + q)))
      have hF : Fr [g0] wr (wr.setCell ⟨g0, 3 + q, none⟩ (.int .u8 (b2u b).toNat)) := Fr.setCell _ _ _ _
      have hS6 := hS.su q b hql
      have he : (ap u l (zs.take k)).set q b = ap u l (zs.take (k + 1)) := by
        rw [List.take_add_one, hz]
        show _ = ap u l (zs.take k ++ [(q : Int)])
        rw [ap_snoc, hb]; rfl
      rw [he] at hS6
      have hM6 : Mo (wr.setCell ⟨g0, 3 + q, none⟩ (.int .u8 (b2u b).toNat)) um ks (uV u) := hM.fr hF (fun mb hmb => by
        subst hmb
        intro hx
        have e : mb = g0 := by simpa using hx
        obtain ⟨es, cl, hh, _⟩ := hM
        rw [e] at hh
        unfold Sb at hS
        rw [hS] at hh; cases hh)
      have hA6 : Ats (wr.setCell ⟨g0, 3 + q, none⟩ (.int .u8 (b2u b).toNat)) gB (.slice (some ⟨ga, 0, none⟩) m sc) zs := owns_fr hA hF (fun g c hg hx => by
        have e : g = g0 := by simpa using hx
        unfold Sb at hS
        rw [e, hS] at hg
        injection hg with hg
        injection hg with _ e2
        exact absurd e2 (by decide))
      have HZ := hid (And.intro hS6 (And.intro (hC.fr hF (by simp; omega)) (And.intro (hS2.fr hF (by simp; omega)) (And.intro hM6 (And.intro hA6 (hB.trans (hF.below (by have := hB.size; omega) (by simp))))))))
      have HLT := hid hlt
      have HQ := hid (show q < 1023 by have := HL.out; omega)
      have HIX := hid hlt
      clear hS hC hS2 hM hA hB hca hzb hzu hb hqb hql hget huv hF hS6 he hM6 hA6 hlt hk hG hG0 hz hga
      go_upto_region 3 with fail
      refine wp_region_lit ?_
      refine wp_y (v := .pointer (some ⟨ga, k, none⟩)) rfl rfl (y_index rfl (hr := idx42 ga m sc k HIX.out)) rfl ?_
      refine wp_y (v := .int .i64 (q : Nat)) rfl rfl (y_load rfl (hl := fun w' h => by rw [h]; exact HLD.out)) rfl ?_
      refine wp_y (v := .int .i64 (q : Nat)) rfl rfl (y_assign rfl) rfl ?_
      try simp only [List.setIfInBounds_toArray, List.set_cons_zero, List.set_cons_succ]
      refine wp_end ?_
      go_upto_region 4 with fail
      refine wp_region_lit ?_
      refine wp_y (v := .int .i64 (q : Nat)) rfl rfl (y_move rfl) rfl ?_
      refine wp_y (v := .pointer (some ⟨g1, 3, none⟩)) rfl rfl (y_faddr rfl (hf := fg87_3 (g1) (0))) rfl ?_
      refine wp_y (v := .int .i64 (q : Nat)) rfl rfl (y_move rfl) rfl ?_
      refine wp_call (f := 88) (args := #[.pointer (some ⟨g1, 3, none⟩), .int .i64 (q : Nat)]) (by kernel_rfl) (fun w => by go_simp) ?_
      refine HGET.out.mono ?_
      rintro e w5 ⟨rfl, hw5⟩
      obtain rfl := hw5.symm
      refine ⟨_, rfl, ?_⟩
      dsimp only [Act.put]
      refine wp_y (v := .tuple #[.int .u8 (b2u b).toNat, .bool true]) rfl rfl (y_move rfl) rfl ?_
      refine wp_y (v := .int .u8 (b2u b).toNat) rfl rfl (y_ext rfl (hr := ext2_0 (.int .u8 (b2u b).toNat) (.bool true))) rfl ?_
      refine wp_y (v := .bool true) rfl rfl (y_ext rfl (hr := ext2_1 (.int .u8 (b2u b).toNat) (.bool true))) rfl ?_
      refine wp_y (v := .pointer (some ⟨g0, 3, none⟩)) rfl rfl (y_faddr rfl (hf := fg76_3 (g0) (0))) rfl ?_
      try simp only [List.setIfInBounds_toArray, List.set_cons_zero, List.set_cons_succ]
      refine wp_y (v := .pointer (some ⟨g0, 3 + q, none⟩)) rfl rfl (y_index rfl (hr := ix74 g0 3 q HQ.out)) rfl ?_
      refine wp_do rfl rfl (run_storeOp rfl (by kernel_rfl) (by kernel_rfl) HST.out) ?_
      try simp only [List.setIfInBounds_toArray, List.set_cons_zero, List.set_cons_succ]
      refine wp_end ?_
      go_wp2_with fail
      exact ⟨⟨k + 1, HLT.out, rfl, HZ.out⟩, by have := HLT.out; simp [intOf]; omega⟩
    · obtain rfl : k = m := by omega
      have hlt' : ¬ (k : Int) < (k : Int) := by omega
      have hft : zs.take k = zs := List.take_of_length_le (by omega)
      rw [hft, ap_all u l zs (fun z hz => (HZ0.out z hz).1) HZU.out] at hS
      have hol : (ovl l u).length ≤ 1023 := by rw [ovl_len]; exact HL.out
      obtain ⟨lo, hlo⟩ : ∃ lo, ovl l u = lo := ⟨_, rfl⟩
      rw [hlo] at hS hol
      have HLO := hid hlo
      have hSd : Sb wr.drew g0 lo kl kr := hS
      have hCd : Cb wr.drew g1 bg lf rt um bm := hC
      have HS6 := hid (And.intro hCd trivial)
      have HST1 := hid (store1 Tryz.sizeOf3 (.int .i64 lf) rfl rfl hSd.c1 (hSd.fz 1))
      have hS7 := hSd.s1 lf
      have hF7 : Fr [g0] wr.drew (wr.drew.setCell ⟨g0, 1, none⟩ (.int .i64 lf)) := Fr.setCell _ _ _ _
      have hC7 := hCd.fr hF7 (by simp; omega)
      have HS7 := hid (And.intro hC7 trivial)
      have HST2 := hid (store1 Tryz.sizeOf3 (.int .i64 rt) rfl rfl hS7.c2 (hS7.fz 2))
      have hS8 := hS7.s2 rt
      have hF8 : Fr [g0] (wr.drew.setCell ⟨g0, 1, none⟩ (.int .i64 lf)) ((wr.drew.setCell ⟨g0, 1, none⟩ (.int .i64 lf)).setCell ⟨g0, 2, none⟩ (.int .i64 rt)) := Fr.setCell _ _ _ _
      have hC8 := hC7.fr hF8 (by simp; omega)
      have HS8 := hid (And.intro hC8 trivial)
      have hF : Fr [g0] wr ((wr.drew.setCell ⟨g0, 1, none⟩ (.int .i64 lf)).setCell ⟨g0, 2, none⟩ (.int .i64 rt)) := ((Fr.drew wr).mono (by simp)).trans (hF7.trans hF8 (fun x hx => .inl hx)) (fun x hx => .inl hx)
      have hS28 := hS2.fr hF (by simp; omega)
      generalize (wr.drew.setCell ⟨g0, 1, none⟩ (.int .i64 lf)).setCell ⟨g0, 2, none⟩ (.int .i64 rt) = w8 at *
      have HLD := hid (pload76 hol hS8)
      have HST := hid (pstore76 (by simp) hol hS28 (kl' := lf) (kr' := rt))
      have HLR := hid (pload76 hol (hS28.row lo lf rt))
      have HZ : Hid (Below w.heap.size w (w8.setRow g2 (stC lo lf rt).toArray)) := hid (by
        rw [HG0.out]
        have h8 : Below g0 w w8 := hB.trans (hF.below (by have := hB.size; omega) (by simp))
        exact h8.trans ((Fr.setRow w8 g2 _).below (by have := h8.size; omega) (by simp; omega)))
      clear hS hC hS2 hM hA hB hk hlt hG hG0 hft hol hlo hSd hCd hS7 hF7 hC7 hS8 hF8 hC8 hF hS28
      go_wp2_with fail
      refine h_openL (S := fun w' => Cb w' g1 bg lf rt um bm ∧ True) (by kernel_rfl) (by kernel_rfl) (fun _ _ _ _ _ h => h) (L := #[false, false, false, false, false, false, false, false]) (by kernel_rfl) ?_
      intro Q' hns hP hN
      have hS := HS6.out
      refine h_takeL (i := 0) (v := .pointer (some ⟨g1, 1, none⟩)) hns rfl rfl (by kernel_rfl) (by kernel_rfl) hP (y_faddr rfl (hf := fg87_1 (g1) (0))) hS rfl (L' := #[true, false, false, false, false, false, false, false]) (by kernel_rfl) ?_
      refine h_takeL (i := 1) (v := .int .i64 lf) hns rfl rfl (by kernel_rfl) (by kernel_rfl) hP (y_load rfl (hl := fun w' h => load1 Tryz.isAgg3 h.1.c1)) hS rfl (L' := #[true, true, false, false, false, false, false, false]) (by kernel_rfl) ?_
      refine h_takeL (i := 2) (v := .pointer (some ⟨g1, 2, none⟩)) hns rfl rfl (by kernel_rfl) (by kernel_rfl) hP (y_faddr rfl (hf := fg87_2 (g1) (0))) hS rfl (L' := #[true, true, true, false, false, false, false, false]) (by kernel_rfl) ?_
      refine h_takeL (i := 3) (v := .int .i64 rt) hns rfl rfl (by kernel_rfl) (by kernel_rfl) hP (y_load rfl (hl := fun w' h => load1 Tryz.isAgg3 h.1.c2)) hS rfl (L' := #[true, true, true, true, false, false, false, false]) (by kernel_rfl) ?_
      refine h_takeL (i := 4) (v := .pointer (some ⟨g0, 1, none⟩)) hns rfl rfl (by kernel_rfl) (by kernel_rfl) hP (y_faddr rfl (hf := fg76_1 (g0) (0))) hS rfl (L' := #[true, true, true, true, true, false, false, false]) (by kernel_rfl) ?_
      refine h_skipL (i := 5) (by kernel_rfl) rfl rfl (by kernel_rfl) (run_storeOp rfl (by kernel_rfl) (by kernel_rfl) HST1.out) HS7.out (L' := #[true, true, true, true, true, true, false, false]) (by kernel_rfl) ?_
      refine h_takeL (i := 6) (v := .pointer (some ⟨g0, 2, none⟩)) hns rfl rfl (by kernel_rfl) (by kernel_rfl) hP (y_faddr rfl (hf := fg76_2 (g0) (0))) HS7.out rfl (L' := #[true, true, true, true, true, true, true, false]) (by kernel_rfl) ?_
      try simp only [List.setIfInBounds_toArray, List.set_cons_zero, List.set_cons_succ]
      refine h_skipL (i := 7) (by kernel_rfl) rfl rfl (by kernel_rfl) (run_storeOp rfl (by kernel_rfl) (by kernel_rfl) HST2.out) HS8.out (L' := #[true, true, true, true, true, true, true, true]) (by kernel_rfl) ?_
      try simp only [List.setIfInBounds_toArray, List.set_cons_zero, List.set_cons_succ]
      refine wpAnyH_done (by kernel_rfl) ?_ _
      refine hN _ _ ?_
      clear hP hN hns
      clear hS HS6 HS7 HS8
      go_upto_region 7 with fail
      refine wp_region_lit ?_
      refine wp_y (v := St lo lf rt) rfl rfl (y_load rfl (hl := fun w' h => by rw [h]; exact HLD.out)) rfl ?_
      refine wp_do rfl rfl (run_storeOp rfl (by kernel_rfl) (by kernel_rfl) HST.out) ?_
      try simp only [List.setIfInBounds_toArray, List.set_cons_zero, List.set_cons_succ]
      refine wp_end ?_
      go_wp2_with fail
      exact ret_cell rfl rfl rfl HLR.out ⟨by rw [HLO.out], HZ.out⟩
end Go.Proofs.YtcmgclkbhhdnaaaGreatDoor
namespace Go.Proofs.YtcmgclkbhhdnaaaGreatDoor
open Go Go.RowKit Go.Shelf Go.Sort

attribute [local go_sem] Oper.semAt_some

/-- Two boxes are as they were. -/
def K2 (Bs Bn : Nat) (A B : World) : Prop := B.cell? ⟨Bs, 0, none⟩ = A.cell? ⟨Bs, 0, none⟩ ∧ B.cell? ⟨Bn, 0, none⟩ = A.cell? ⟨Bn, 0, none⟩
theorem K2.refl (Bs Bn : Nat) (A : World) : K2 Bs Bn A A := ⟨rfl, rfl⟩
theorem K2.trans {Bs Bn : Nat} {A B C : World} (h : K2 Bs Bn A B) (k : K2 Bs Bn B C) : K2 Bs Bn A C := ⟨k.1.trans h.1, k.2.trans h.2⟩
theorem min49 (n : Nat) (h : 112 ≤ n) (ty : TypeId) (w : World) : (Builtin.min_ #[3, 3] ty #[.int .i64 112, .int .i64 n]).run Tryz.prog w = .ok (.int .i64 112) w := by
  show Result.ok (Value.int .i64 (if (n : Int) < 112 then (n : Int) else 112)) w = _
  rw [if_neg (by omega)]
set_option maxRecDepth 100000 in
set_option maxHeartbeats 2000000 in
theorem chunk1_in (n : Nat) (hn : 1 ≤ n) (l Bs Bn b off len cap m : Nat) (hm : len = m * 112) (hcap : len ≤ cap) (hlen : len ≤ 1000000) (J Jx : List Nat → World → Prop)
    (hY : ∀ pre x W, J pre W → pre.length < m → YieldAt Fence.wide (n - 1) Tryz.prog l #[.slice (some ⟨b, off + x * 112, none⟩) 112 112] W fun e W' =>
      (e = .returned (.bool true) ∧ J (pre ++ [x]) W' ∧ K2 Bs Bn W W') ∨ (e = .returned (.bool false) ∧ Jx (pre ++ [x]) W'))
    (W : World) (hJ : AbidesFrom W.heap.size J) (hBs : W.cell? ⟨Bs, 0, none⟩ = some (.slice (some ⟨b, off, none⟩) len cap)) (hBn : W.cell? ⟨Bn, 0, none⟩ = some (.int .i64 112)) (h0 : J [] W) :
    CallsIn Fence.wide n Tryz.prog 116 #[.func (.yield l) #[] #[], .pointer (some ⟨Bs, 0, none⟩), .pointer (some ⟨Bn, 0, none⟩)] W fun e W' => (∃ v, e = .returned v) ∧
      (J (List.range m) W' ∨ (∃ pre, pre <+: List.range m ∧ Jx pre W')) := by
  refine callsIn_of_wp Tryz.func116 rfl trivial ?_ rfl
  simp only [Tryz.ntmps116, List.size_toArray, List.length_cons, List.length_nil, Nat.reduceAdd, Nat.reduceSub, Array.replicate_succ, Array.replicate_zero, List.push_toArray, List.append_toArray, List.nil_append, List.cons_append]
  have HM := hid hm
  have HY := hid hY
  have HJ := hid hJ
  clear hm hY hJ
  gi_wp2
  gi_loopw [4, 5] (fun i _ wr => ∃ k : Nat, k ≤ m ∧ i = .int .i64 ((k * 112 : Nat) : Int) ∧ J (List.range k) wr ∧ K2 Bs Bn W wr)
    (fun i _ _ => m * 112 - (intOf i).toNat)
  case atStart => exact ⟨0, Nat.zero_le _, rfl, h0, K2.refl _ _ _⟩
  case round =>
    obtain ⟨k, hk, rfl, hJs, hK⟩ := hrel
    have hm := HM.out
    have hcs := hK.1.trans hBs
    have hcn := hK.2.trans hBn
    by_cases hlt : k < m
    · obtain ⟨i, hi⟩ : ∃ i, i = k * 112 := ⟨_, rfl⟩
      have hil : i + 112 ≤ len := by omega
      have hil' : (i : Int) < (len : Int) := by omega
      have hA : 0 ≤ (i : Int) + 112 ∧ (i : Int) + 112 ≤ (cap : Int) := ⟨by omega, by omega⟩
      have hM : max ((i : Int) + 112) 0 = (i : Int) + 112 := by omega
      have hT : ((i : Int) + 112).toNat = i + 112 := by omega
      have hle : i ≤ len := by omega
      have hne : ¬ cap = i := by omega
      have hd : i + 112 - i = 112 := by omega
      have hmn := min49 (len - i) (by omega)
      rw [← hi]
      have hwa : IntKind.i64.wrap ((i : Int) + 112) = ((i + 112 : Nat) : Int) := by rw [IntWalk.i64_in _ ⟨by omega, by omega⟩]; omega
      have HI := hid (And.intro hi (And.intro hil (And.intro hlt hk)))
      have HK := hid hK
      have HJS := hid hJs
      have HW2 : Hid (IntKind.i64.wrap ((i : Int) + 112) = (((k + 1) * 112 : Nat) : Int)) := hid (by rw [hwa, hi]; omega)
      have he : List.range k ++ [k] = List.range (k + 1) := List.range_succ.symm
      have HE := hid (And.intro he hi)
      clear hm hi hil hK hJs hlt hk he
      gi_wp2
      gi_quiet (fail)
      have hcsd : (wr.drewN nq).cell? ⟨Bs, 0, none⟩ = some (.slice (some ⟨b, off, none⟩) len cap) := hcs
      have hcnd : (wr.drewN nq).cell? ⟨Bn, 0, none⟩ = some (.int .i64 112) := hcn
      obtain ⟨fn, tmps, assign, body, hy, hR⟩ := HY.out (List.range k) k (wr.drewN nq) (HJ.out _ wr (wr.drewN nq) none HJS.out ⟨rfl, rfl, rfl, Nat.le_refl _, fun _ _ _ => rfl⟩ (fun r e => by cases e)) (by rw [List.length_range]; exact HI.out.2.2.1)
      rw [← HE.out.2] at hy
      rw [HE.out.1] at hR
      gi_wp2
      refine hR.mono ?_
      rintro e W3 (⟨rfl, hJ3, hk3⟩ | ⟨rfl, hJx3⟩)
      · have hcn3 : W3.cell? ⟨Bn, 0, none⟩ = some (.int .i64 112) := hk3.2.trans hcnd
        gi_wp2
        go_roundw
        case rel => exact ⟨k + 1, HI.out.2.2.1, congrArg (Value.int .i64) (by have := HI.out.1; omega), hJ3, HK.out.trans hk3⟩
        case measure => have := HI.out; have := HW2.out; simp [intOf]; omega
      · gi_wp2
        refine bodyPost_ret (results_none rfl _ _ _) rfl ?_
        refine ⟨⟨_, rfl⟩, .inr ⟨List.range (k + 1), ?_, hJx3⟩⟩
        have := List.take_prefix (k + 1) (List.range m)
        rwa [List.take_range, Nat.min_eq_left HI.out.2.2.1] at this
    · obtain rfl : k = m := by omega
      have hil' : ¬ ((k * 112 : Nat) : Int) < (len : Int) := by omega
      obtain ⟨i, hi⟩ : ∃ i, i = k * 112 := ⟨_, rfl⟩
      rw [← hi] at hil' ⊢
      clear hm hi HM
      gi_wp2
      go_end0
      exact ⟨⟨_, rfl⟩, .inl hJs⟩
end Go.Proofs.YtcmgclkbhhdnaaaGreatDoor
namespace Go.Proofs.YtcmgclkbhhdnaaaGreatDoor
open Go Go.RowKit Go.Shelf Go.Sort

attribute [local go_sem] Oper.semAt_some

/-- All blocks but numbers' and parts' rows are as they were. -/
structure Ot2 (w w' : World) : Prop where
  size : w.heap.size ≤ w'.heap.size
  block : ∀ (k : Nat) (o : Obj), w.heap[k]? = some o → (∀ c, o ≠ .cells c 3 (0, 0)) → (∀ c, o ≠ .cells c 49 (0, 0)) → w'.heap[k]? = some o
theorem Ot2.of_below {w w' : World} (h : Below w.heap.size w w') : Ot2 w w' := ⟨h.size, fun _ _ hk _ _ => below_at h hk (heap_lt hk)⟩
theorem wpListIn_app {F : Fence} {n : Nat} {w w' : World} {ops : Array Oper} {rest : List Oper} {o : Oper} {a : Act} {Q : Exit → Act → World → Prop}
    (hg : o.guard = none) (s x : Operand) (t : TypeId) (hop : o.op = Op.call { callee := Callee.builtin Builtin.append, args := #[s, x], argTypes := #[t, t] }) {v src v' : Value} (hs : a.eval s = v) (hx : a.eval x = src)
    (hrun : (Builtin.append_ #[t, t] o.type #[v, src]).run Tryz.prog w = .ok v' w') (hK : wpListIn F n Tryz.prog ops Q rest (a.put o.dst v') w') : wpListIn F n Tryz.prog ops Q (o :: rest) a w := by
  refine wpListIn_plain hg fun K hK' => ?_
  unfold Oper.wpIn
  refine ⟨?_, ?_⟩
  · simp [Oper.about, hop, resolve, Target.leads, Sem.run_pure]
  · rw [Oper.semAt_plain F _ _ (by rw [hop]; intro c hc'; cases hc')]
    simp [execOp, hop, resolve, invoke, builtin, hs, hx, hrun, Result.andThen]
    exact hK' _ _ hK
theorem more_at {t ts : TypeId} {z : Value} {by_ : Nat} (hu : Tryz.prog.underlying ts = some (.slice t)) (hi : (Tryz.prog.info? t).map (fun i => (i.zero, i.size, i.bytes)) = some (some z, 1, by_)) (hzc : z.cells.size = 1) (hby : by_ ≤ 24)
    {w : World} {B : Nat} {v : Value} {xs : List Value} (h : w.ownsRow B t 1 v xs.length xs) (x : Value) (hx : x.oneCell' = true) (hn : xs.length ≤ 1000000) (hB : B ≤ w.heap.size) (ty : TypeId) :
    ∃ g cap w', (Builtin.append_ #[ts, ts] ty #[v, .slice (some ⟨w.heap.size, 0, none⟩) 1 1]).run Tryz.prog (w.alloc (.cells #[x] t)) = .ok (.slice (some ⟨g, 0, none⟩) (xs ++ [x]).length cap) w' ∧ w'.ownsRow B t 1 (.slice (some ⟨g, 0, none⟩) (xs ++ [x]).length cap) (xs ++ [x]).length (xs ++ [x]) ∧
      (w.alloc (.cells #[x] t)).grownBy w' v.ownBlock ∧ (some g = v.ownBlock ∨ g = w.heap.size + 1) := by
  obtain ⟨i0, hie, hz0, hz1, hz2⟩ := info_parts hi
  have hnb : (xs.length + 1) * by_ ≤ 1000001 * 24 := Nat.mul_le_mul (by omega) hby
  obtain ⟨v', w', hr, ho, hg, _, hob⟩ := run_append_own_at (P := Tryz.prog) (w := w.alloc (.cells #[x] t)) B ts ty t i0 z 1 by_ hu hie hz0 hz1 hz2 hzc (by decide) v xs.length _ (h.alloc _) ⟨w.heap.size, 0, none⟩ 1 1 [x]
    rfl (fun j u hj => by rw [Addr.add_lit, Nat.zero_add]; exact cell_at (heap_alloc_last w _) j (by simpa using hj)) (fun u hu => by have e : u = x := List.mem_singleton.1 hu; rw [e]; exact hx) (by unfold maxLen; omega) (by omega) (by show B ≤ (w.heap.push _).size; simp; omega)
  obtain ⟨g, cap, rfl⟩ := ownsRow_succ ho
  refine ⟨g, cap, w', ?_, ?_, hg, ?_⟩
  · rw [List.length_append]; exact hr
  · rw [List.length_append]; exact ho
  · rcases hob with h | h
    · exact .inl h
    · right
      have : g = (w.alloc (.cells #[x] t)).heap.size := by simpa [Value.ownBlock] using h
      rw [this]; show (w.heap.push _).size = _; simp
/-- A slice's row is none of the five boxes behind w, nor the block N. -/
def Off5 (N : Nat) (w : World) (v : Value) : Prop := ∀ k, v.ownBlock = some k → (k < w.heap.size ∧ k ≠ N) ∨ w.heap.size + 5 ≤ k
/-- Between two rounds. -/
structure AI (N : Nat) (w : World) (B : Nat) (zs : List Int) (ps : List Value) (f : Int) (W : World) : Prop where
  a : ∃ va, Boxed W w.heap.size 42 va ∧ W.ownsRow B 3 1 va zs.length (zs.map (Value.int .i64)) ∧ Off5 N w va
  b : ∃ vb, Boxed W (w.heap.size + 1) 104 vb ∧ W.ownsRow B 49 1 vb ps.length ps ∧ Off5 N w vb
  f : Boxed W (w.heap.size + 2) 3 (.int .i64 f)
  below : Below B w W
  ot : Ot2 w W
  size : w.heap.size + 5 ≤ W.heap.size
  nk : N < w.heap.size → W.heap[N]? = w.heap[N]?
theorem not_row {W : World} {row : Option Nat} {k : Nat} {c : Array Value} {t : TypeId} {z : Nat × Nat} (hk : W.heap[k]? = some (.cells c t z)) (hr : ∀ r, row = some r → ∃ o : Obj, W.heap[r]? = some o ∧ o.isCells = false) : some k ≠ row := fun e => by
  obtain ⟨o, ho, hc⟩ := hr k e.symm
  rw [hk] at ho; cases ho; cases hc
theorem owns_grown {W W' : World} {row : Option Nat} {B : Nat} {t : TypeId} {v : Value} {n : Nat} {xs : List Value} (h : W.ownsRow B t 1 v n xs) (hg : W.grownBy W' row) (hr : ∀ r, row = some r → ∃ o : Obj, W.heap[r]? = some o ∧ o.isCells = false) : W'.ownsRow B t 1 v n xs := by
  refine h.kept hg ?_
  rcases h.2 with ⟨rfl, _⟩ | ⟨g, cap, cur, rfl, _, hgb, _⟩
  · exact .inl rfl
  · exact .inr (fun e => not_row hgb hr (by simpa [Value.ownBlock] using e))
theorem AI.own {N : Nat} {w : World} {B : Nat} {zs : List Int} {ps : List Value} {f : Int} {W W' : World} {row : Option Nat} (h : AI N w B zs ps f W) (hB : B ≤ w.heap.size) (hg : W.grownBy W' row) (hr : ∀ r, row = some r → w.heap.size + 5 ≤ r ∧ ∃ o : Obj, W.heap[r]? = some o ∧ o.isCells = false) : AI N w B zs ps f W' := by
  have hr' : ∀ r, row = some r → ∃ o : Obj, W.heap[r]? = some o ∧ o.isCells = false := fun r e => (hr r e).2
  obtain ⟨va, a1, a2, a3⟩ := h.a
  obtain ⟨vb, b1, b2, b3⟩ := h.b
  refine ⟨⟨va, a1.kept hg (not_row a1 hr'), owns_grown a2 hg hr', a3⟩, ⟨vb, b1.kept hg (not_row b1 hr'), owns_grown b2 hg hr', b3⟩, h.f.kept hg (not_row h.f hr'), h.below.grown hg (Nat.le_trans hB h.below.size) (fun k e => by have := (hr k e).1; omega), ⟨Nat.le_trans h.ot.size hg.size, fun k o hk h1 h2 => ?_⟩, Nat.le_trans h.size hg.size, fun hN => (hg.block N (by have := h.size; omega) (fun e => by have := (hr N e.symm).1; omega)).trans (h.nk hN)⟩
  have hk2 := h.ot.block k o hk h1 h2
  rw [hg.block k (heap_lt hk2) (fun e => by have := (hr k e.symm).1; have := heap_lt hk; omega)]
  exact hk2
/-- One number and one part more. -/
theorem AI.step {N : Nat} {w : World} {B : Nat} {zs : List Int} {ps : List Value} {f : Int} {W : World} (h : AI N w B zs ps f W) (hB : B ≤ w.heap.size) (x : Value) (hx : x.oneCell' = true) (hz : zs.length ≤ 1000000) (hp : ps.length ≤ 1000000) (f' : Int) :
    ∃ va vb g1 c1 w1 g2 c2 w2, Boxed W w.heap.size 42 va ∧ Boxed W (w.heap.size + 1) 104 vb ∧
      (Builtin.append_ #[42, 42] 42 #[va, .slice (some ⟨W.heap.size, 0, none⟩) 1 1]).run Tryz.prog (W.alloc (.cells #[.int .i64 f] 3)) = .ok (.slice (some ⟨g1, 0, none⟩) (zs.length + 1) c1) w1 ∧
      Boxed w1 w.heap.size 42 va ∧ Boxed (w1.setCell ⟨w.heap.size, 0, none⟩ (.slice (some ⟨g1, 0, none⟩) (zs.length + 1) c1)) (w.heap.size + 1) 104 vb ∧
      (Builtin.append_ #[104, 104] 104 #[vb, .slice (some ⟨(w1.setCell ⟨w.heap.size, 0, none⟩ (.slice (some ⟨g1, 0, none⟩) (zs.length + 1) c1)).heap.size, 0, none⟩) 1 1]).run Tryz.prog ((w1.setCell ⟨w.heap.size, 0, none⟩ (.slice (some ⟨g1, 0, none⟩) (zs.length + 1) c1)).alloc (.cells #[x] 49)) = .ok (.slice (some ⟨g2, 0, none⟩) (ps.length + 1) c2) w2 ∧
      Boxed w2 (w.heap.size + 1) 104 vb ∧ Boxed (w2.setCell ⟨w.heap.size + 1, 0, none⟩ (.slice (some ⟨g2, 0, none⟩) (ps.length + 1) c2)) (w.heap.size + 2) 3 (.int .i64 f) ∧
      AI N w B (zs ++ [f]) (ps ++ [x]) f' ((w2.setCell ⟨w.heap.size + 1, 0, none⟩ (.slice (some ⟨g2, 0, none⟩) (ps.length + 1) c2)).setCell ⟨w.heap.size + 2, 0, none⟩ (.int .i64 f')) ∧
      W.heap.size ≤ ((w2.setCell ⟨w.heap.size + 1, 0, none⟩ (.slice (some ⟨g2, 0, none⟩) (ps.length + 1) c2)).setCell ⟨w.heap.size + 2, 0, none⟩ (.int .i64 f')).heap.size ∧
      (∀ (k : Nat) (o : Obj), W.heap[k]? = some o → o.isCells = false ∨ (w.heap.size + 3 ≤ k ∧ k < w.heap.size + 5) → ((w2.setCell ⟨w.heap.size + 1, 0, none⟩ (.slice (some ⟨g2, 0, none⟩) (ps.length + 1) c2)).setCell ⟨w.heap.size + 2, 0, none⟩ (.int .i64 f')).heap[k]? = some o) := by
  obtain ⟨va, a1, a2, a3⟩ := h.a
  obtain ⟨vb, b1, b2, b3⟩ := h.b
  have hBW : B ≤ W.heap.size := Nat.le_trans hB h.below.size
  have hsz := h.size
  have a2' : W.ownsRow B 3 1 va (zs.map (Value.int .i64)).length (zs.map (Value.int .i64)) := by rw [List.length_map]; exact a2
  obtain ⟨g1, c1, w1, r1, o1, gr1, ob1⟩ := more_at Tryz.underlying42 info3 rfl (by decide) a2' (.int .i64 f) rfl (by rw [List.length_map]; exact hz) hBW 42
  have e1 : (zs.map (Value.int .i64) ++ [Value.int .i64 f]).length = zs.length + 1 := by simp
  rw [e1] at r1 o1
  -- what the first append leaves
  have kp1 : ∀ (k : Nat) (o : Obj), W.heap[k]? = some o → some k ≠ va.ownBlock → w1.heap[k]? = some o := fun k o hk hne => by
    rw [gr1.block k (by show k < (W.heap.push _).size; simp; have := heap_lt hk; omega) hne]
    exact (Below.heap_alloc W _ k (heap_lt hk)).trans hk
  have na : ∀ (k : Nat) (c : Array Value) (t : TypeId) (z : Nat × Nat), W.heap[k]? = some (.cells c t z) → t ≠ 3 → some k ≠ va.ownBlock := fun k c t z hk hne e => by
    rcases a2.2 with ⟨rfl, _⟩ | ⟨g, cap, cur, rfl, _, hgb, _⟩
    · simp [Value.ownBlock] at e
    · obtain rfl : k = g := by simpa [Value.ownBlock] using e
      rw [hk] at hgb
      injection hgb with hgb
      injection hgb with _ e2
      exact hne e2
  have fa : ∀ k, w.heap.size ≤ k → k < w.heap.size + 5 → some k ≠ va.ownBlock := fun k h1 h2 e => by
    rcases a3 k e.symm with h | h <;> omega
  have nb : ∀ (k : Nat) (o : Obj), W.heap[k]? = some o → o.isCells = false → some k ≠ va.ownBlock := fun k o hk ho e => by
    rcases a2.2 with ⟨rfl, _⟩ | ⟨g, cap, cur, rfl, _, hgb, _⟩
    · simp [Value.ownBlock] at e
    · obtain rfl : k = g := by simpa [Value.ownBlock] using e
      rw [hk] at hgb; cases hgb; cases ho
  obtain ⟨v1, hv1⟩ : ∃ v1, v1 = Value.slice (some ⟨g1, 0, none⟩) (zs.length + 1) c1 := ⟨_, rfl⟩
  rw [← hv1] at r1 o1
  have a11 : Boxed w1 w.heap.size 42 va := kp1 _ _ a1 (fa _ (by omega) (by omega))
  have hs1 : W.heap.size < w1.heap.size := by
    have := gr1.size
    have : (W.alloc (.cells #[.int .i64 f] 3)).heap.size = W.heap.size + 1 := by show (W.heap.push _).size = _; simp
    omega
  obtain ⟨W1, hW1⟩ : ∃ W1, W1 = w1.setCell ⟨w.heap.size, 0, none⟩ v1 := ⟨_, rfl⟩
  have kp2 : ∀ (k : Nat) (o : Obj), W.heap[k]? = some o → some k ≠ va.ownBlock → k ≠ w.heap.size → W1.heap[k]? = some o := fun k o hk h1 h2 => by
    rw [hW1, Below.heap_setCell w1 _ _ k h2]
    exact kp1 k o hk h1
  have hsW1 : W1.heap.size = w1.heap.size := by rw [hW1]; simp
  have a12 : Boxed W1 w.heap.size 42 v1 := by rw [hW1]; exact a11.set v1
  have b12 : Boxed W1 (w.heap.size + 1) 104 vb := kp2 _ _ b1 (fa _ (by omega) (by omega)) (by omega)
  have f12 : Boxed W1 (w.heap.size + 2) 3 (.int .i64 f) := kp2 _ _ h.f (fa _ (by omega) (by omega)) (by omega)
  have o12 : W1.ownsRow B 3 1 v1 (zs.length + 1) (zs.map (Value.int .i64) ++ [.int .i64 f]) := by
    rw [hW1]
    exact o1.kept (grownBy_setCell' w1 w.heap.size v1) (.inr (a11.not_row (by decide) o1).symm)
  have r12 : W1.ownsRow B 49 1 vb ps.length ps := by
    refine ⟨b2.1, ?_⟩
    rcases b2.2 with h0 | ⟨g, cap, cur, e, hb, hg, rr⟩
    · exact .inl h0
    · exact .inr ⟨g, cap, cur, e, hb, kp2 g _ hg (na g _ _ _ hg (by decide)) (fun e2 => by rw [e2] at hg; rw [show W.heap[w.heap.size]? = _ from a1] at hg; injection hg with hg; injection hg with _ e3; exact absurd e3 (by decide)), rr⟩
  have hBW1 : B ≤ W1.heap.size := by omega
  obtain ⟨g2, c2, w2, r2, o2, gr2, ob2⟩ := more_at Tryz.underlying104 infoSl rfl (by decide) r12 x hx hp hBW1 104
  have e2 : (ps ++ [x]).length = ps.length + 1 := by simp
  rw [e2] at r2 o2
  obtain ⟨v2, hv2⟩ : ∃ v2, v2 = Value.slice (some ⟨g2, 0, none⟩) (ps.length + 1) c2 := ⟨_, rfl⟩
  have kp3 : ∀ (k : Nat) (o : Obj), W1.heap[k]? = some o → some k ≠ vb.ownBlock → w2.heap[k]? = some o := fun k o hk hne => by
    rw [gr2.block k (by show k < (W1.heap.push _).size; simp; have := heap_lt hk; omega) hne]
    exact (Below.heap_alloc W1 _ k (heap_lt hk)).trans hk
  have nb2 : ∀ (k : Nat) (c : Array Value) (t : TypeId) (z : Nat × Nat), W1.heap[k]? = some (.cells c t z) → t ≠ 49 → some k ≠ vb.ownBlock := fun k c t z hk hne e => by
    rcases r12.2 with ⟨rfl, _⟩ | ⟨g, cap, cur, rfl, _, hgb, _⟩
    · simp [Value.ownBlock] at e
    · obtain rfl : k = g := by simpa [Value.ownBlock] using e
      rw [hk] at hgb
      injection hgb with hgb
      injection hgb with _ e2
      exact hne e2
  have fb : ∀ k, w.heap.size ≤ k → k < w.heap.size + 5 → some k ≠ vb.ownBlock := fun k h1 h2 e => by
    rcases b3 k e.symm with h | h <;> omega
  have nbo : ∀ (k : Nat) (o : Obj), W1.heap[k]? = some o → o.isCells = false → some k ≠ vb.ownBlock := fun k o hk ho e => by
    rcases r12.2 with ⟨rfl, _⟩ | ⟨g, cap, cur, rfl, _, hgb, _⟩
    · simp [Value.ownBlock] at e
    · obtain rfl : k = g := by simpa [Value.ownBlock] using e
      rw [hk] at hgb; cases hgb; cases ho
  have b13 : Boxed w2 (w.heap.size + 1) 104 vb := kp3 _ _ b12 (fb _ (by omega) (by omega))
  have hs2 : W1.heap.size < w2.heap.size := by
    have := gr2.size
    have : (W1.alloc (.cells #[x] 49)).heap.size = W1.heap.size + 1 := by show (W1.heap.push _).size = _; simp
    omega
  obtain ⟨W2, hW2⟩ : ∃ W2, W2 = w2.setCell ⟨w.heap.size + 1, 0, none⟩ v2 := ⟨_, rfl⟩
  have hsW2 : W2.heap.size = w2.heap.size := by rw [hW2]; simp
  have kp4 : ∀ (k : Nat) (o : Obj), W1.heap[k]? = some o → some k ≠ vb.ownBlock → k ≠ w.heap.size + 1 → W2.heap[k]? = some o := fun k o hk h1 h2 => by
    rw [hW2, Below.heap_setCell w2 _ _ k h2]
    exact kp3 k o hk h1
  have f14 : Boxed W2 (w.heap.size + 2) 3 (.int .i64 f) := kp4 _ _ f12 (fb _ (by omega) (by omega)) (by omega)
  have a14 : Boxed W2 w.heap.size 42 v1 := kp4 _ _ a12 (fb _ (by omega) (by omega)) (by omega)
  have b14 : Boxed W2 (w.heap.size + 1) 104 v2 := by rw [hW2]; exact b13.set v2
  rw [← hv2] at r2 o2
  have o14 : W2.ownsRow B 49 1 v2 (ps.length + 1) (ps ++ [x]) := by
    rw [hW2]
    exact o2.kept (grownBy_setCell' w2 (w.heap.size + 1) v2) (.inr (b13.not_row (by decide) o2).symm)
  have ow : ∀ (t : TypeId) (v : Value) (n : Nat) (xs : List Value), t ≠ 49 → t ≠ 104 → W1.ownsRow B t 1 v n xs → W2.ownsRow B t 1 v n xs := fun t v n xs h1 h2 ho => by
    refine ⟨ho.1, ?_⟩
    rcases ho.2 with h0 | ⟨g, cap, cur, e, hb, hg, rr⟩
    · exact .inl h0
    · exact .inr ⟨g, cap, cur, e, hb, kp4 g _ hg (nb2 g _ _ _ hg h1) (fun e2 => by rw [e2] at hg; rw [show W1.heap[w.heap.size + 1]? = _ from b12] at hg; injection hg with hg; injection hg with _ e3; exact h2 e3.symm), rr⟩
  have o124 := ow _ _ _ _ (by decide) (by decide) o12
  obtain ⟨W3, hW3⟩ : ∃ W3, W3 = W2.setCell ⟨w.heap.size + 2, 0, none⟩ (.int .i64 f') := ⟨_, rfl⟩
  have kp5 : ∀ (k : Nat) (o : Obj), W2.heap[k]? = some o → k ≠ w.heap.size + 2 → W3.heap[k]? = some o := fun k o hk h1 => by
    rw [hW3, Below.heap_setCell W2 _ _ k h1]; exact hk
  have os : ∀ (v : Value) (n : Nat) (t : TypeId) (xs : List Value), (∀ g, v.ownBlock = some g → g ≠ w.heap.size + 2) → W2.ownsRow B t 1 v n xs → W3.ownsRow B t 1 v n xs := fun v n t xs hne ho => by
    refine ⟨ho.1, ?_⟩
    rcases ho.2 with h0 | ⟨g, cap, cur, e, hb, hg, rr⟩
    · exact .inl h0
    · exact .inr ⟨g, cap, cur, e, hb, kp5 g _ hg (hne g (by rw [e]; rfl)), rr⟩
  have of1 : Off5 N w v1 := fun k hk => by
    have e : k = g1 := by rw [hv1] at hk; simpa [Value.ownBlock] using hk.symm
    rcases ob1 with h | h
    · exact a3 k (by rw [e]; exact h.symm)
    · right; omega
  have of2 : Off5 N w v2 := fun k hk => by
    have e : k = g2 := by rw [hv2] at hk; simpa [Value.ownBlock] using hk.symm
    rcases ob2 with h | h
    · exact b3 k (by rw [e]; exact h.symm)
    · right; omega
  have nof : ∀ {v : Value}, Off5 N w v → ∀ g, v.ownBlock = some g → g ≠ w.heap.size + 2 := fun ho g hg e => by
    rcases ho g hg with h | h <;> omega
  have hbl : Below B W W3 := by
    have s1 : Below B W w1 := ((Below.refl B W).alloc hBW _).grown gr1 (by show B ≤ (W.heap.push _).size; simp; omega) (fun j ej => by
      rcases a2.2 with ⟨rfl, _⟩ | ⟨g, cap, cur, rfl, hb, _, _⟩
      · simp [Value.ownBlock] at ej
      · obtain rfl : g = j := by simpa [Value.ownBlock] using ej
        exact hb)
    have s2 : Below B W W1 := by rw [hW1]; exact s1.setCell (p := ⟨w.heap.size, 0, none⟩) hB v1
    have s3 : Below B W1 w2 := ((Below.refl B W1).alloc hBW1 _).grown gr2 (by show B ≤ (W1.heap.push _).size; simp; omega) (fun j ej => by
      rcases r12.2 with ⟨rfl, _⟩ | ⟨g, cap, cur, rfl, hb, _, _⟩
      · simp [Value.ownBlock] at ej
      · obtain rfl : g = j := by simpa [Value.ownBlock] using ej
        exact hb)
    have s4 : Below B W1 W2 := by rw [hW2]; exact s3.setCell (p := ⟨w.heap.size + 1, 0, none⟩) (Nat.le_trans hB (Nat.le_succ _)) v2
    rw [hW3]
    exact (s2.trans s4).setCell (p := ⟨w.heap.size + 2, 0, none⟩) (Nat.le_trans hB (by omega : w.heap.size ≤ w.heap.size + 2)) _
  have hs3 : W3.heap.size = W2.heap.size := by rw [hW3]; simp
  refine ⟨va, vb, g1, c1, w1, g2, c2, w2, a1, b1, ?_, a11, ?_, ?_, b13, ?_, ?_, ?_, ?_⟩
  · rw [← hv1]; exact r1
  · rw [← hv1, ← hW1]; exact b12
  · rw [← hv1, ← hW1, ← hv2]; exact r2
  · rw [← hv2, ← hW2]; exact f14
  · rw [← hv2, ← hW2, ← hW3]
    refine ⟨⟨v1, kp5 _ _ a14 (by omega), ?_, of1⟩, ⟨v2, kp5 _ _ b14 (by omega), ?_, of2⟩, ?_, h.below.trans hbl, ⟨by omega, fun k o hk h1 h2 => ?_⟩, by omega, fun hN => ?_⟩
    · have := os v1 _ _ _ (nof of1) o124
      rw [List.map_append, List.length_append]; exact this
    · have := os v2 _ _ _ (nof of2) o14
      rw [List.length_append]; exact this
    · rw [hW3]; exact f14.set _
    · have hkl := heap_lt hk
      have q0 := h.ot.block k o hk h1 h2
      have q1 := kp2 k o q0 (fun e => by
        rcases a2.2 with ⟨rfl, _⟩ | ⟨g, cap, cur, rfl, _, hgb, _⟩
        · simp [Value.ownBlock] at e
        · obtain rfl : k = g := by simpa [Value.ownBlock] using e
          rw [q0] at hgb
          exact h1 _ (Option.some.inj hgb)) (by omega)
      exact kp5 k o (kp4 k o q1 (fun e => by
        rcases r12.2 with ⟨rfl, _⟩ | ⟨g, cap, cur, rfl, _, hgb, _⟩
        · simp [Value.ownBlock] at e
        · obtain rfl : k = g := by simpa [Value.ownBlock] using e
          rw [q1] at hgb
          exact h2 _ (Option.some.inj hgb)) (by omega)) (by omega)
    · have hw : w.heap[N]? = some w.heap[N] := Array.getElem?_eq_getElem hN
      have q0 := (h.nk hN).trans hw
      have q1 := kp2 N _ q0 (fun e => by rcases a3 N e.symm with h | h <;> omega) (by omega)
      exact (kp5 N _ (kp4 N _ q1 (fun e => by rcases b3 N e.symm with h | h <;> omega) (by omega)) (by omega)).trans hw.symm
  · rw [← hv2, ← hW2, ← hW3]; omega
  · rw [← hv2, ← hW2, ← hW3]
    intro k o hk hor
    rcases hor with ho | ⟨h1, h2⟩
    · have k1 : k ≠ w.heap.size := fun e => by rw [e, show W.heap[w.heap.size]? = _ from a1] at hk; cases hk; cases ho
      have k2 : k ≠ w.heap.size + 1 := fun e => by rw [e, show W.heap[w.heap.size + 1]? = _ from b1] at hk; cases hk; cases ho
      have k3 : k ≠ w.heap.size + 2 := fun e => by rw [e, show W.heap[w.heap.size + 2]? = _ from h.f] at hk; cases hk; cases ho
      have q1 := kp2 k o hk (nb k o hk ho) k1
      exact kp5 k o (kp4 k o q1 (nbo k o q1 ho) k2) k3
    · have q1 := kp2 k o hk (fa k (by omega) h2) (by omega)
      exact kp5 k o (kp4 k o q1 (fb k (by omega) h2) (by omega)) (by omega)
end Go.Proofs.YtcmgclkbhhdnaaaGreatDoor
namespace Go.Proofs.YtcmgclkbhhdnaaaGreatDoor
open Go Go.RowKit Go.Shelf Go.Sort

attribute [local go_sem] Oper.semAt_some

set_option maxHeartbeats 400000 in
theorem chunk_any (b off len cap : Nat) (w : World) :
    Calls Tryz.prog 90 #[.slice (some ⟨b, off, none⟩) len cap, .int .i64 112] w fun e w' => e = .returned (.func (.func 116) #[] #[.pointer (some ⟨w.heap.size, 0, none⟩), .pointer (some ⟨w.heap.size + 1, 0, none⟩)]) ∧ w' = (w.alloc (.cells #[.slice (some ⟨b, off, none⟩) len cap] 49)).alloc (.cells #[.int .i64 112] 3) := by
  go_enter Tryz.func90, Tryz.ntmps90
  go_wp2
  go_ret
  exact ⟨rfl, rfl⟩
/-- The part number x of a row of bytes. -/
def chk (b off x : Nat) : Value := .slice (some ⟨b, off + x * 112, none⟩) 112 112
theorem chunk_stops (n : Nat) (hn : 1 ≤ n) (Bs Bn b off len cap m : Nat) (hm : len = m * 112) (hcap : len ≤ cap) (hlen : len ≤ 1000000) (w : World) (hs : Bs < w.heap.size) (hb : Bn < w.heap.size) (hBs : w.cell? ⟨Bs, 0, none⟩ = some (.slice (some ⟨b, off, none⟩) len cap)) (hBn : w.cell? ⟨Bn, 0, none⟩ = some (.int .i64 112)) :
    SeqStopsK Fence.wide n Tryz.prog 116 #[.pointer (some ⟨Bs, 0, none⟩), .pointer (some ⟨Bn, 0, none⟩)] (fun x : Nat => #[chk b off x]) (K2 Bs Bn) (fun ys => ys = List.range m) (fun pre => pre <+: List.range m) m w := fun l J Jx W hW hJ _ hY h0 => by
  refine (chunk1_in n hn l Bs Bn b off len cap m hm hcap hlen J Jx hY W hJ ((hW.cell (p := ⟨Bs, 0, none⟩) hs).trans hBs) ((hW.cell (p := ⟨Bn, 0, none⟩) hb).trans hBn) h0).mono ?_
  rintro e W' ⟨he, hj | hj⟩
  · exact ⟨he, .inl ⟨_, rfl, hj⟩⟩
  · exact ⟨he, .inr hj⟩
/-- So many numbers from f on. -/
def seqZ (f : Int) (n : Nat) : List Int := (List.range n).map fun i => f + (i : Nat)
theorem seqZ_len (f : Int) (n : Nat) : (seqZ f n).length = n := by simp [seqZ]
theorem seqZ_succ (f : Int) (n : Nat) : seqZ f (n + 1) = seqZ f n ++ [f + (n : Nat)] := by simp [seqZ, List.range_succ]
set_option maxRecDepth 100000 in
set_option maxHeartbeats 4000000 in
theorem also_in (N n : Nat) (hn : 3 ≤ n) {w : World} {B : Nat} {va vb : Value} {zs : List Int} {ps : List Value} (hva : Ats w B va zs) (hvb : w.ownsRow B 49 1 vb ps.length ps) (hB : B ≤ w.heap.size) (f : Int) (hf0 : 0 ≤ f) (hf1 : f ≤ 1000000) (b off len cap m : Nat) (hm : len = m * 112) (hcap : len ≤ cap) (hm1 : m ≤ 2000) (hz : zs.length ≤ 100000) (hp : ps.length ≤ 100000) (hNa : va.ownBlock ≠ some N) (hNb : vb.ownBlock ≠ some N) :
    CallsIn Fence.wide n Tryz.prog 55 #[va, vb, .int .i64 f, .slice (some ⟨b, off, none⟩) len cap] w fun e w' => ∃ va' vb', e = .returned (.tuple #[va', vb']) ∧ Ats w' B va' (zs ++ seqZ f m) ∧ w'.ownsRow B 49 1 vb' (ps.length + m) (ps ++ (List.range m).map (chk b off)) ∧ Below B w w' ∧ Ot2 w w' ∧ (N < w.heap.size → w'.heap[N]? = w.heap[N]? ∧ va'.ownBlock ≠ some N ∧ vb'.ownBlock ≠ some N) := by
  have h1 : 1 ≤ n := by omega
  obtain ⟨aa, ac, hae⟩ := hva.shape
  obtain ⟨ba, bc, hbe⟩ : ∃ a c, vb = .slice a ps.length c := by
    rcases hvb.2 with ⟨e, h0⟩ | ⟨g, cap, cur, e, _⟩
    · exact ⟨none, 0, by rw [e, h0]⟩
    · exact ⟨_, cap, e⟩
  refine callsIn_of_wp_marks Tryz.func55 rfl trivial ?_ rfl
  simp only [Tryz.ntmps55, List.size_toArray, List.length_cons, List.length_nil, Nat.reduceAdd, Nat.reduceSub, Array.replicate_succ, Array.replicate_zero, List.push_toArray, List.append_toArray, List.nil_append, List.cons_append]
  have HCH : ∀ w, CallsIn Fence.wide (n - 1) Tryz.prog 90 #[.slice (some ⟨b, off, none⟩) len cap, .int .i64 112] w _ := fun w => callsIn_wide.2 (chunk_any b off len cap w)
  have HVA := hid hva
  have HVB := hid hvb
  subst hae
  subst hbe
  have HM := hid hm
  have HNA := hid hNa
  have HNB := hid hNb
  clear hva hvb hm hNa hNb
  generalize hzn : zs.length = zn at *
  generalize hpn : ps.length = pn at *
  have hsz : ∀ (x : World) (o : Obj), (x.alloc o).heap.size = x.heap.size + 1 := fun x o => by show (x.heap.push _).size = _; simp
  have hsz3 : (((w.alloc (.cells #[.slice aa zn ac] 42)).alloc (.cells #[.slice ba pn bc] 104)).alloc (.cells #[.int .i64 f] 3)).heap.size = w.heap.size + 3 := by rw [hsz, hsz, hsz]
  have HCH3 := hid (HCH (((w.alloc (.cells #[.slice aa zn ac] 42)).alloc (.cells #[.slice ba pn bc] 104)).alloc (.cells #[.int .i64 f] 3)))
  rw [hsz3] at HCH3
  have hB3 : Below w.heap.size w (((w.alloc (.cells #[.slice aa zn ac] 42)).alloc (.cells #[.slice ba pn bc] 104)).alloc (.cells #[.int .i64 f] 3)) := (((Below.refl _ w).alloc (Nat.le_refl _) _).alloc (by rw [hsz]; omega) _).alloc (by rw [hsz, hsz]; omega) _
  have hbA : Boxed (((w.alloc (.cells #[.slice aa zn ac] 42)).alloc (.cells #[.slice ba pn bc] 104)).alloc (.cells #[.int .i64 f] 3)) w.heap.size 42 (.slice aa zn ac) := ((Boxed.new w _ _).alloc _).alloc _
  have hbB : Boxed (((w.alloc (.cells #[.slice aa zn ac] 42)).alloc (.cells #[.slice ba pn bc] 104)).alloc (.cells #[.int .i64 f] 3)) (w.heap.size + 1) 104 (.slice ba pn bc) := by
    have := (Boxed.new (w.alloc (.cells #[.slice aa zn ac] 42)) 104 (.slice ba pn bc)).alloc (.cells #[.int .i64 f] 3)
    rwa [hsz] at this
  have hbF : Boxed (((w.alloc (.cells #[.slice aa zn ac] 42)).alloc (.cells #[.slice ba pn bc] 104)).alloc (.cells #[.int .i64 f] 3)) (w.heap.size + 2) 3 (.int .i64 f) := by
    have := Boxed.new ((w.alloc (.cells #[.slice aa zn ac] 42)).alloc (.cells #[.slice ba pn bc] 104)) 3 (.int .i64 f)
    rwa [hsz, hsz] at this
  have H3 := hid (And.intro hB3 (And.intro hbA (And.intro hbB (And.intro hbF hsz3))))
  clear hB3 hbA hbB hbF
  gi_wp2
  refine ⟨trivial, ?_⟩
  generalize hw3 : ((w.alloc (.cells #[.slice aa zn ac] 42)).alloc (.cells #[.slice ba pn bc] 104)).alloc (.cells #[.int .i64 f] 3) = w3 at *
  refine HCH3.out.mono ?_
  rintro e w5 ⟨rfl, hw5⟩
  have hB5 : Below w3.heap.size w3 w5 := by rw [hw5]; exact ((Below.refl _ w3).alloc (Nat.le_refl _) _).alloc (by rw [hsz]; omega) _
  have hbS : Boxed w5 (w.heap.size + 3) 49 (.slice (some ⟨b, off, none⟩) len cap) := by
    rw [hw5]
    have := (Boxed.new w3 49 (.slice (some ⟨b, off, none⟩) len cap)).alloc (.cells #[.int .i64 112] 3)
    rwa [hsz3] at this
  have hbN : Boxed w5 (w.heap.size + 4) 3 (.int .i64 112) := by
    rw [hw5]
    have := Boxed.new (w3.alloc (.cells #[.slice (some ⟨b, off, none⟩) len cap] 49)) 3 (.int .i64 112)
    rwa [hsz, hsz3] at this
  have hs5 : w5.heap.size = w.heap.size + 5 := by rw [hw5, hsz, hsz, hsz3]
  have h3 := H3.out
  have hBw5 : Below w.heap.size w w5 := h3.1.trans (hB5.mono h3.1.size)
  have hAI : AI N w B zs ps f w5 := by
    refine ⟨⟨_, below_at hB5 h3.2.1 (by omega), ?_, fun k hk => .inl ?_⟩, ⟨_, below_at hB5 h3.2.2.1 (by omega), ?_, fun k hk => .inl ?_⟩, below_at hB5 h3.2.2.2.1 (by omega), hBw5.mono hB, Ot2.of_below hBw5, by omega, fun hN => hBw5.block N hN⟩
    · rw [hzn]; exact owns_fr (X := []) (by have := HVA.out; unfold Ats at this; rw [hzn] at this; exact this) (Fr.of_below hBw5) (by simp)
    · have := HVA.out.lt k hk; exact ⟨this.2, fun e => HNA.out (by rw [hk, e])⟩
    · rw [hpn]; exact owns_fr (X := []) HVB.out (Fr.of_below hBw5) (by simp)
    · have := HVB.out.lt k hk; exact ⟨this.2, fun e => HNB.out (by rw [hk, e])⟩
  have HAI := hid hAI
  have HBS := hid (And.intro hbS.cell (And.intro hbN.cell hs5))
  clear hAI h3 hB5 hBw5 hbS hbN hs5 hw5 HCH3 HCH H3 hsz3 hw3
  gi_wp2
  have hBS := HBS.out
  have hlm := HM.out
  refine wpIn_rangeFunc_ownG rfl h1 (gf := 116) (lb := #[.pointer (some ⟨w.heap.size + 3, 0, none⟩), .pointer (some ⟨w.heap.size + 4, 0, none⟩)]) rfl trivial (enters_of Tryz.func116 (by kernel_rfl) rfl)
    (chunk_stops (n - 1) (by omega) (w.heap.size + 3) (w.heap.size + 4) b off len cap m hlm hcap (by omega) w5 (by omega) (by omega) hBS.1 hBS.2.1) (fun h k => h.trans k)
    (fun W l o o' hl h0 hc hw => ⟨World.cell?_of_block (World.putObj_heap_other (by show w.heap.size + 3 ≠ l; omega)), World.cell?_of_block (World.putObj_heap_other (by show w.heap.size + 4 ≠ l; omega))⟩) (Below.refl _ _) (fun _ => rfl)
    (fun pre W => AI N w B (zs ++ seqZ f pre.length) (ps ++ pre.map (chk b off)) (f + (pre.length : Nat)) W) (fun _ _ _ => False)
    (fun s X Y row hs hg hr => hs.own hB hg (fun r e => ⟨by have := (hr r e).1; omega, (hr r e).2⟩)) (fun _ _ _ _ _ hs _ _ => hs)
    (by simpa [seqZ] using HAI.out)
    (fun x => { tmps := #[.slice aa zn ac, .slice ba pn bc, .int .i64 f, .slice (some ⟨b, off, none⟩) len cap, .pointer (some ⟨w.heap.size, 0, none⟩), .pointer (some ⟨w.heap.size + 1, 0, none⟩), .pointer (some ⟨w.heap.size + 2, 0, none⟩), undef, .slice none 0 0, .slice none 0 0, chk b off x, .slice (some ⟨b, off, none⟩) len cap,
      .func (.func 116) #[] #[.pointer (some ⟨w.heap.size + 3, 0, none⟩), .pointer (some ⟨w.heap.size + 4, 0, none⟩)], chk b off x, undef, undef, undef, undef, undef, undef, undef, undef, undef, undef, undef, undef], defers := [] }) ?assign ?body ?done ?stop
  case assign =>
    clear hlm hsz hzn hpn
    intro l x W K hK
    gi_wp2
    exact hK
  case body =>
    rintro l pre x W hA hlt
    have hzl : (zs ++ seqZ f pre.length).length ≤ 1000000 := by rw [List.length_append, seqZ_len]; omega
    have hpl : (ps ++ pre.map (chk b off)).length ≤ 1000000 := by rw [List.length_append, List.length_map]; omega
    obtain ⟨va, vb, g1, c1, w1, g2, c2, w2, a1, b1, r1, a11, b12, r2, b13, f14, hA', hzs, hke⟩ := hA.step hB (chk b off x) rfl hzl hpl (f + (pre.length : Nat) + 1)
    have hI : AI N w B (zs ++ seqZ f (pre ++ [x]).length) (ps ++ (pre ++ [x]).map (chk b off)) (f + ((pre ++ [x]).length : Nat)) ((w2.setCell ⟨w.heap.size + 1, 0, none⟩ (.slice (some ⟨g2, 0, none⟩) ((ps ++ pre.map (chk b off)).length + 1) c2)).setCell ⟨w.heap.size + 2, 0, none⟩ (.int .i64 (f + (pre.length : Nat) + 1))) := by
      have e1 : zs ++ seqZ f (pre ++ [x]).length = zs ++ seqZ f pre.length ++ [f + (pre.length : Nat)] := by rw [List.length_append, show [x].length = 1 from rfl, seqZ_succ, List.append_assoc]
      have e2 : ps ++ (pre ++ [x]).map (chk b off) = ps ++ pre.map (chk b off) ++ [chk b off x] := by simp
      have e3 : f + ((pre ++ [x]).length : Nat) = f + (pre.length : Nat) + 1 := by rw [List.length_append, show [x].length = 1 from rfl]; omega
      rw [e1, e2, e3]; exact hA'
    have hsA := hA.size
    have hK2 : K2 (w.heap.size + 3) (w.heap.size + 4) W ((w2.setCell ⟨w.heap.size + 1, 0, none⟩ (.slice (some ⟨g2, 0, none⟩) ((ps ++ pre.map (chk b off)).length + 1) c2)).setCell ⟨w.heap.size + 2, 0, none⟩ (.int .i64 (f + (pre.length : Nat) + 1))) := by
      refine ⟨World.cell?_of_block ?_, World.cell?_of_block ?_⟩
      · have h : W.heap[w.heap.size + 3]? = some W.heap[w.heap.size + 3] := Array.getElem?_eq_getElem (by omega)
        exact (hke _ _ h (.inr ⟨by omega, by omega⟩)).trans h.symm
      · have h : W.heap[w.heap.size + 4]? = some W.heap[w.heap.size + 4] := Array.getElem?_eq_getElem (by omega)
        exact (hke _ _ h (.inr ⟨by omega, by omega⟩)).trans h.symm
    have HZ := hid (And.intro (show KeepsFrom w5.heap.size W _ from ⟨hzs, fun k o _ hk ho => hke k o hk (.inl ho)⟩) (And.intro hK2 hI))
    have hcf := hA.f.cell
    have hca := a1.cell
    have hca1 := a11.cell
    have hfa1 := a11.frozen
    have hcb := b12.cell
    have hcb2 := b13.cell
    have hfb2 := b13.frozen
    have hcf4 := f14.cell
    have hff4 := f14.frozen
    have hwf : IntKind.i64.wrap (f + (pre.length : Nat) + 1) = f + (pre.length : Nat) + 1 := by rw [IntWalk.i64_in _ ⟨by omega, by omega⟩]
    have hsc : ∀ (x : World) (p : Addr) (v : Value), (x.setCell p v).heap.size = x.heap.size := fun x p v => by simp
    rw [hsc] at r2
    have HR1 := hid r1
    have HR2 := hid r2
    clear hsc
    clear hA' hke hI hK2 hzs hsA hA a1 b1 a11 b12 b13 f14 r1 r2 HAI HBS HVA HVB hlm hsz hBS hlt hzl hpl
    generalize (zs ++ seqZ f pre.length).length + 1 = z1 at *
    generalize (ps ++ pre.map (chk b off)).length + 1 = p1 at *
    generalize f + (pre.length : Nat) = f1 at *
    unfold chk at *
    gi_wp2_with (first | (gi_at_builtin; have _t := HR1; refine wpListIn_app rfl _ _ 42 rfl rfl rfl HR1.out ?_; clear HR1 _t) | (gi_at_builtin; refine wpListIn_app rfl _ _ 104 rfl rfl rfl HR2.out ?_))
    exact HZ.out
  case done =>
    rintro D ys W hD rfl hA hK
    obtain ⟨va, a1, a2, a3⟩ := hA.a
    obtain ⟨vb, b1, b2, b3⟩ := hA.b
    rw [List.length_range] at a2
    have hca := a1.cell
    have hcb := b1.cell
    have HA := hid (And.intro a2 (And.intro b2 hA))
    have HO := hid (And.intro a3 b3)
    have HD : Hid (w.heap.size + 5 ≤ D) := hid (by have := hBS.2.2; omega)
    clear a1 b1 a2 b2 a3 b3 hA HAI HBS HVA HVB hlm hsz hBS
    gi_wp2
    gi_quiet (fail)
    gi_wp2
    refine ⟨by simp, .inl ⟨_, _, rfl, run_takeDeferred hK, ?_⟩⟩
    have ha := HA.out
    have hg : W.grownBy (W.drewN nq) none := ⟨rfl, rfl, rfl, Nat.le_refl _, fun _ _ _ => rfl⟩
    have hg2 := grownBy_putObj' (W.drewN nq) D (.deferred none)
    have hKd : (W.drewN nq).heap[D]? = some (.deferred (some [])) := hK
    have hr2 : ∀ r, some D = some r → w.heap.size + 5 ≤ r ∧ ∃ o : Obj, (W.drewN nq).heap[r]? = some o ∧ o.isCells = false := fun r e => by cases e; exact ⟨HD.out, _, hKd, rfl⟩
    have hA3 := (ha.2.2.own hB hg (fun r e => by cases e)).own hB hg2 hr2
    refine ⟨_, results_tmp2 rfl _ _ _, va, vb, rfl, ?_, ?_, hA3.below, hA3.ot, fun hN => ⟨hA3.nk hN, fun e => by rcases HO.out.1 N e with h | h <;> omega, fun e => by rcases HO.out.2 N e with h | h <;> omega⟩⟩
    · have h4 := owns_grown (owns_grown ha.1 hg (fun r e => by cases e)) hg2 (fun r e => (hr2 r e).2)
      exact h4
    · have h4 := owns_grown (owns_grown ha.2.1 hg (fun r e => by cases e)) hg2 (fun r e => (hr2 r e).2)
      rw [List.length_append, List.length_map, List.length_range, hpn] at h4
      exact h4
  case stop =>
    rintro D c pre W _ _ h _
    exact h.elim
theorem also_any {w : World} {B : Nat} {va vb : Value} {zs : List Int} {ps : List Value} (hva : Ats w B va zs) (hvb : w.ownsRow B 49 1 vb ps.length ps) (hB : B ≤ w.heap.size) (f : Int) (hf0 : 0 ≤ f) (hf1 : f ≤ 1000000) (b off len cap m : Nat) (hm : len = m * 112) (hcap : len ≤ cap) (hm1 : m ≤ 2000) (hz : zs.length ≤ 100000) (hp : ps.length ≤ 100000) :
    Calls Tryz.prog 55 #[va, vb, .int .i64 f, .slice (some ⟨b, off, none⟩) len cap] w fun e w' => ∃ va' vb', e = .returned (.tuple #[va', vb']) ∧ Ats w' B va' (zs ++ seqZ f m) ∧ w'.ownsRow B 49 1 vb' (ps.length + m) (ps ++ (List.range m).map (chk b off)) ∧ Below B w w' ∧ Ot2 w w' :=
  ((callsIn_wide (n := 3)).1 (also_in w.heap.size 3 (Nat.le_refl _) hva hvb hB f hf0 hf1 b off len cap m hm hcap hm1 hz hp (fun e => by have := (hva.lt _ e).2; omega) (fun e => by have := (hvb.lt _ e).2; omega))).mono (by
    rintro e w' ⟨va', vb', h1, h2, h3, h4, h5, _⟩
    exact ⟨va', vb', h1, h2, h3, h4, h5⟩)
/-- .. and a block that is neither's stays as it was. -/
theorem also_keep {w : World} {B N : Nat} {va vb : Value} {zs : List Int} {ps : List Value} (hva : Ats w B va zs) (hvb : w.ownsRow B 49 1 vb ps.length ps) (hB : B ≤ w.heap.size) (f : Int) (hf0 : 0 ≤ f) (hf1 : f ≤ 1000000) (b off len cap m : Nat) (hm : len = m * 112) (hcap : len ≤ cap) (hm1 : m ≤ 2000) (hz : zs.length ≤ 100000) (hp : ps.length ≤ 100000) (hNa : va.ownBlock ≠ some N) (hNb : vb.ownBlock ≠ some N) (hN : N < w.heap.size) :
    Calls Tryz.prog 55 #[va, vb, .int .i64 f, .slice (some ⟨b, off, none⟩) len cap] w fun e w' => ∃ va' vb', e = .returned (.tuple #[va', vb']) ∧ Ats w' B va' (zs ++ seqZ f m) ∧ w'.ownsRow B 49 1 vb' (ps.length + m) (ps ++ (List.range m).map (chk b off)) ∧ Below B w w' ∧ Ot2 w w' ∧ w'.heap[N]? = w.heap[N]? ∧ va'.ownBlock ≠ some N ∧ vb'.ownBlock ≠ some N :=
  ((callsIn_wide (n := 3)).1 (also_in N 3 (Nat.le_refl _) hva hvb hB f hf0 hf1 b off len cap m hm hcap hm1 hz hp hNa hNb)).mono (by
    rintro e w' ⟨va', vb', h1, h2, h3, h4, h5, h6⟩
    exact ⟨va', vb', h1, h2, h3, h4, h5, h6 hN⟩)
end Go.Proofs.YtcmgclkbhhdnaaaGreatDoor
