/- A pager's states: the empty one, a change that does nothing, numbers in a head. -/
import Derived.Test.YtdbgccgjdgomkaaGreatDoorPBuildC
import Derived.Laws.BitsAllLaws
namespace Go.Proofs.YtdbgccgjdgomkaaGreatDoor
open Go Go.RowKit

/-- A value that is returned out of its cell. -/
theorem ret_cell {f : Func} {R : Ending → World → Prop} {a : Act} {w : World} {p : Tmp} {ty : TypeId} {b : Nat} {v : Value} (hf : f.results = #[.cell p ty]) (hd : a.defers = []) (hp : a.tmps.getD p undef = .pointer (some ⟨b, 0, none⟩))
    (hl : (Instr.loadAt ty (.pointer (some ⟨b, 0, none⟩))).run Tryz.prog w = .ok v w) (hR : R (.returned v) w) : bodyPost Tryz.prog f R .ret a w := by
  refine bodyPost_ret (v := v) ?_ hd hR
  have hl' : (loadVar ty ⟨b, 0, none⟩).run Tryz.prog w = .ok v w := by
    simpa [Instr.loadAt, Instr.sureAddr, Sem.run_bind, Sem.run_pure, Result.andThen] using hl
  rw [results_cell1 hf, hp]
  simp only [asAddr, Sem.run_pure, Result.andThen]
  exact hl'
set_option maxRecDepth 100000 in
set_option maxHeartbeats 800000 in
theorem empty_any (n : Nat) (h : n ≤ 1023) (w : World) : Calls Tryz.prog 79 #[.int .i64 n] w fun e w' => e = .returned (St (List.replicate n false) n (-1)) ∧ Below w.heap.size w w' := by
  have hl : (List.replicate n false).length ≤ 1023 := by rw [List.length_replicate]; exact h
  have hl0 : ([] : List Bool).length ≤ 1023 := by simp
  have hS : Sb (w.alloc (.cells (stC [] 0 0).toArray 76)) w.heap.size [] 0 0 := heap_alloc_last w _
  have hB : Below w.heap.size w (w.alloc (.cells (stC [] 0 0).toArray 76)) := (Below.refl _ _).alloc (Nat.le_refl _) _
  have HST := hid (pstore76 hl0 hl hS (kl' := n) (kr' := -1))
  have hS2 := hS.row (List.replicate n false) n (-1)
  have HL := hid (pload76 hl hS2)
  have HBD := hid (pbuild76 n h)
  have HZ := hid (hB.trans ((Fr.setRow (w.alloc (.cells (stC [] 0 0).toArray 76)) w.heap.size (stC (List.replicate n false) n (-1)).toArray).below hB.size (by simp)))
  clear hS hB hS2 hl hl0 h
  go_enter Tryz.func79, Tryz.ntmps79
  go_upto_region 0 with fail
  refine wp_region_lit ?_
  refine wp_run (v := .pointer (some ⟨w.heap.size, 0, none⟩)) rfl rfl (run_alOp rfl (palloc76 w)) rfl ?_
  try simp only [List.setIfInBounds_toArray, List.set_cons_zero, List.set_cons_succ]
  refine wp_end ?_
  go_upto_region 1 with fail
  refine wp_region_lit ?_
  refine wp_y (v := .int .i64 n) rfl rfl (y_move rfl (by kernel_rfl) (by kernel_rfl)) rfl ?_
  refine wp_y (v := .int .i64 n) rfl rfl (y_move rfl (by kernel_rfl) (by kernel_rfl)) rfl ?_
  refine wp_run (v := St (List.replicate n false) n (-1)) rfl rfl (run_buildOp rfl (by kernel_rfl) (HBD.out _)) rfl ?_
  refine wp_do rfl rfl (run_storeOp rfl (by kernel_rfl) (by kernel_rfl) HST.out) ?_
  try simp only [List.setIfInBounds_toArray, List.set_cons_zero, List.set_cons_succ]
  refine wp_end ?_
  go_wp2_with fail
  exact ret_cell rfl rfl rfl HL.out ⟨rfl, HZ.out⟩
set_option maxRecDepth 100000 in
set_option maxHeartbeats 800000 in
theorem unchanged_any (l : List Bool) (kl kr : Int) (w : World) : Calls Tryz.prog 42 #[St l kl kr] w fun e w' => e = .returned (Ch false kl kr none none) ∧ Below w.heap.size w w' := by
  have hbx := pbox76 w l kl kr
  have hB1 : Below w.heap.size w (w.alloc (.cells (stC l kl kr).toArray 76)) := (Below.refl _ _).alloc (Nat.le_refl _) _
  have hS1 : Sb (w.alloc (.cells (stC l kl kr).toArray 76)) w.heap.size l kl kr := heap_alloc_last w _
  have hsz : (w.alloc (.cells (stC l kl kr).toArray 76)).heap.size = w.heap.size + 1 := by show (w.heap.push _).size = _; simp
  generalize hw1 : w.alloc (.cells (stC l kl kr).toArray 76) = w1 at *
  have hal := alloc87 w1
  have hB2 : Below w1.heap.size w1 (w1.alloc (.cells (chC false 0 0 none none).toArray 87)) := (Below.refl _ _).alloc (Nat.le_refl _) _
  have hC2 : Cb (w1.alloc (.cells (chC false 0 0 none none).toArray 87)) w1.heap.size false 0 0 none none := heap_alloc_last w1 _
  generalize hw2 : w1.alloc (.cells (chC false 0 0 none none).toArray 87) = w2 at *
  have hS2 := hS1.below hB2 (by omega)
  obtain ⟨g1, hg1⟩ : ∃ g, w1.heap.size = g := ⟨_, rfl⟩
  obtain ⟨g0, hg0⟩ : ∃ g, w.heap.size = g := ⟨_, rfl⟩
  rw [hg1] at hal hC2
  rw [hg0] at hbx hS2
  have HBX := hid hbx
  have HAL := hid hal
  have HC1 := hid (load1 Tryz.isAgg3 hS2.c1)
  have HC2 := hid (load1 Tryz.isAgg3 hS2.c2)
  have HBD := hid (pbuild87 kl kr)
  have HST := hid (store87 hC2 (bg' := false) (lf' := kl) (rt' := kr) (um' := none) (bm' := none))
  have hC3 := hC2.row false kl kr none none
  have HL := hid (load87 hC3)
  have HZ : Hid (Below w.heap.size w (w2.setRow g1 (chC false kl kr none none).toArray)) := hid ((hB1.trans (hB2.mono (by omega))).trans ((Fr.setRow w2 g1 _).below (Nat.le_trans hB1.size hB2.size) (by simp; omega)))
  clear hS1 hS2 hB1 hB2 hC2 hC3 hbx hal hsz hw1 hw2 hg0 hg1
  go_enter Tryz.func42, Tryz.ntmps42
  go_upto_region 0 with fail
  refine wp_region_lit ?_
  refine wp_run (v := .pointer (some ⟨g0, 0, none⟩)) rfl rfl (run_boxOp rfl (by kernel_rfl) HBX.out) rfl ?_
  refine wp_run (v := .pointer (some ⟨g1, 0, none⟩)) rfl rfl (run_alOp rfl HAL.out) rfl ?_
  try simp only [List.setIfInBounds_toArray, List.set_cons_zero, List.set_cons_succ]
  refine wp_end ?_
  go_upto_region 1 with fail
  refine wp_region_lit ?_
  refine wp_y (v := .pointer (some ⟨g0, 1, none⟩)) rfl rfl (y_faddr rfl (by kernel_rfl) (by kernel_rfl) (fg76_1 (g0) (0))) rfl ?_
  refine wp_y (v := .int .i64 kl) rfl rfl (y_load rfl (by kernel_rfl) (by kernel_rfl) (fun w' h => by rw [h]; exact HC1.out)) rfl ?_
  refine wp_y (v := .pointer (some ⟨g0, 2, none⟩)) rfl rfl (y_faddr rfl (by kernel_rfl) (by kernel_rfl) (fg76_2 (g0) (0))) rfl ?_
  refine wp_y (v := .int .i64 kr) rfl rfl (y_load rfl (by kernel_rfl) (by kernel_rfl) (fun w' h => by rw [h]; exact HC2.out)) rfl ?_
  refine wp_run (v := Ch false kl kr none none) rfl rfl (run_buildOp rfl (by kernel_rfl) (HBD.out _)) rfl ?_
  refine wp_do rfl rfl (run_storeOp rfl (by kernel_rfl) (by kernel_rfl) HST.out) ?_
  try simp only [List.setIfInBounds_toArray, List.set_cons_zero, List.set_cons_succ]
  refine wp_end ?_
  go_wp2_with fail
  exact ret_cell rfl rfl rfl HL.out ⟨rfl, HZ.out⟩
theorem qadd (a b c : Int) (h : IntKind.i64.wrap (a + b) = c) (w : World) : (binOp .add 3 (.int .i64 a) (.int .i64 b)).run Tryz.prog w = .ok (.int .i64 c) w := by subst h; go_simp
theorem qsub (a b c : Int) (h : IntKind.i64.wrap (a - b) = c) (w : World) : (binOp .sub 3 (.int .i64 a) (.int .i64 b)).run Tryz.prog w = .ok (.int .i64 c) w := by subst h; go_simp
theorem qmul (a b c : Int) (h : IntKind.i64.wrap (a * b) = c) (w : World) : (binOp .mul 3 (.int .i64 a) (.int .i64 b)).run Tryz.prog w = .ok (.int .i64 c) w := by subst h; go_simp
theorem qlss (a b : Int) (r : Bool) (h : decide (a < b) = r) (w : World) : (binOp .lss 3 (.int .i64 a) (.int .i64 b)).run Tryz.prog w = .ok (.bool r) w := by subst h; go_simp
theorem qeql (a b : Int) (r : Bool) (h : (a == b) = r) (w : World) : (binOp .eql 3 (.int .i64 a) (.int .i64 b)).run Tryz.prog w = .ok (.bool r) w := by subst h; go_simp
theorem qeqlU (a b : Int) (r : Bool) (h : (a == b) = r) (w : World) : (binOp .eql 73 (.int .u8 a) (.int .u8 b)).run Tryz.prog w = .ok (.bool r) w := by subst h; go_simp
theorem qshr8 (n : Nat) (w : World) : (binOp .shr 3 (.int .i64 n) (.int .u64 8)).run Tryz.prog w = .ok (.int .i64 ((n / 256 : Nat) : Int)) w := by
  have e : (n : Int).fdiv 256 = ((n / 256 : Nat) : Int) := by rw [Int.fdiv_eq_ediv_of_nonneg _ (by decide)]; omega
  rw [← e]
  go_simp
theorem qu8 (n : Nat) (w : World) : (convert 3 5 (.int .i64 n)).run Tryz.prog w = .ok (cb (UInt8.ofNat n)) w := by
  have e : IntKind.u8.wrap (n : Int) = (((UInt8.ofNat n).toNat : Nat) : Int) := by rw [IntKind.wrap_u8]; simp
  unfold cb
  rw [← e]
  go_simp
theorem qint (x : UInt8) (w : World) : (convert 5 3 (cb x)).run Tryz.prog w = .ok (.int .i64 (x.toNat : Nat)) w := by
  have := x.toNat_lt
  have e : IntKind.i64.wrap ((x.toNat : Nat) : Int) = ((x.toNat : Nat) : Int) := IntWalk.i64_in _ ⟨by omega, by omega⟩
  unfold cb
  go_simp
theorem or_i64_nat (a b : Nat) (ha : a < 9223372036854775808) (hb : b < 9223372036854775808) : bits .or .i64 (a : Int) (b : Int) = ((a ||| b : Nat) : Int) := by
  have hx : a ||| b < 2 ^ 63 := Nat.or_lt_two_pow (by omega) (by omega)
  have h1 : (BitVec.ofInt 64 (a : Int)).toNat = a := by
    rw [BitVec.ofInt_natCast, BitVec.toNat_ofNat]; exact Nat.mod_eq_of_lt (by omega)
  have h2 : (BitVec.ofInt 64 (b : Int)).toNat = b := by
    rw [BitVec.ofInt_natCast, BitVec.toNat_ofNat]; exact Nat.mod_eq_of_lt (by omega)
  show IntKind.i64.wrap ((BitVec.ofInt 64 (a : Int) ||| BitVec.ofInt 64 (b : Int)).toNat : Int) = _
  rw [BitVec.toNat_or, h1, h2, IntKind.wrap_i64]
  omega
theorem qshl8 (n : Nat) (h : n < 65536) (w : World) : (binOp .shl 3 (.int .i64 n) (.int .u64 8)).run Tryz.prog w = .ok (.int .i64 ((n * 256 : Nat) : Int)) w := by
  have e : IntKind.i64.wrap ((n : Int) * 256) = ((n * 256 : Nat) : Int) := by rw [IntWalk.i64_in _ ⟨by omega, by omega⟩]; omega
  rw [← e]
  go_simp
theorem qor (a b : Nat) (ha : a < 65536) (hb : b < 256) (w : World) : (binOp .or 3 (.int .i64 ((a * 256 : Nat) : Int)) (.int .i64 b)).run Tryz.prog w = .ok (.int .i64 ((a * 256 + b : Nat) : Int)) w := by
  have h1 := or_i64_nat (a * 256) b (by omega) (by omega)
  have h2 : a * 256 ||| b = a * 256 + b := by
    have := Nat.two_pow_add_eq_or_of_lt (i := 8) (b := b) (by simpa using hb) a
    rw [show (2 : Nat) ^ 8 = 256 from rfl, Nat.mul_comm 256 a] at this
    omega
  rw [h2] at h1
  rw [← h1]
  generalize ((a * 256 : Nat) : Int) = x
  go_simp
set_option maxRecDepth 100000 in
set_option maxHeartbeats 1600000 in
theorem putNumber_any {w : World} {g : Nat} {h : List UInt8} (hg : Rw w g 70 h) (hl : h.length = 224) (at_ n : Nat) (ha : at_ + 1 < 224) :
    Calls Tryz.prog 113 #[.pointer (some ⟨g, 0, none⟩), .int .i64 at_, .int .i64 n] w fun e w' => e = .returned (.tuple #[]) ∧ Rw w' g 70 ((h.set at_ (UInt8.ofNat (n / 256))).set (at_ + 1) (UInt8.ofNat n)) ∧ Fr [g] w w' := by
  have hgd : Rw w.drew g 70 h := hg
  have hs1 := store5r hgd (by omega : at_ < h.length) (UInt8.ofNat (n / 256))
  have hg1 := hgd.set at_ (UInt8.ofNat (n / 256))
  have hs2 := store5r hg1 (by rw [List.length_set]; omega : at_ + 1 < _) (UInt8.ofNat n)
  have hg2 := hg1.set (at_ + 1) (UInt8.ofNat n)
  have hF : Fr [g] w ((w.drew.setCell ⟨g, at_, none⟩ (cb (UInt8.ofNat (n / 256)))).setCell ⟨g, at_ + 1, none⟩ (cb (UInt8.ofNat n))) := ((Fr.drew w).mono (by simp)).trans ((Fr.setCell _ _ _ _).trans (Fr.setCell _ _ _ _) (fun x hx => .inl hx)) (fun x hx => .inl hx)
  have HS1 := hid hs1
  have HS2 := hid hs2
  have HZ := hid (And.intro hg2 hF)
  have HAD : Hid (IntKind.i64.wrap ((at_ : Int) + 1) = ((at_ + 1 : Nat) : Int)) := hid (by rw [IntWalk.i64_in _ ⟨by omega, by omega⟩]; omega)
  have HA := hid ha
  clear hs1 hs2 hg1 hg2 hF hgd hg hl ha
  go_enter Tryz.func113, Tryz.ntmps113
  go_upto_region 0 with fail
  refine h_openL (S := fun _ => True) (by kernel_rfl) (by kernel_rfl) (fun _ _ _ _ _ h => h) (L := #[false, false, false, false, false, false, false, false, false, false, false, false, false, false, false, false]) (by kernel_rfl) ?_
  intro Q' hns hP hN
  have hS := trivial
  refine h_takeL (i := 0) (v := .pointer (some ⟨g, 0, none⟩)) hns rfl rfl (by kernel_rfl) (by kernel_rfl) hP (y_move rfl (by kernel_rfl) (by kernel_rfl)) hS rfl (L' := #[true, false, false, false, false, false, false, false, false, false, false, false, false, false, false, false]) (by kernel_rfl) ?_
  refine h_takeL (i := 1) (v := .int .i64 at_) hns rfl rfl (by kernel_rfl) (by kernel_rfl) hP (y_move rfl (by kernel_rfl) (by kernel_rfl)) hS rfl (L' := #[true, true, false, false, false, false, false, false, false, false, false, false, false, false, false, false]) (by kernel_rfl) ?_
  refine h_takeL (i := 2) (v := .pointer (some ⟨g, 0, none⟩)) hns rfl rfl (by kernel_rfl) (by kernel_rfl) hP (y_move rfl (by kernel_rfl) (by kernel_rfl)) hS rfl (L' := #[true, true, true, false, false, false, false, false, false, false, false, false, false, false, false, false]) (by kernel_rfl) ?_
  refine h_takeL (i := 3) (v := .int .i64 at_) hns rfl rfl (by kernel_rfl) (by kernel_rfl) hP (y_move rfl (by kernel_rfl) (by kernel_rfl)) hS rfl (L' := #[true, true, true, true, false, false, false, false, false, false, false, false, false, false, false, false]) (by kernel_rfl) ?_
  refine h_takeL (i := 4) (v := .int .i64 ((at_ + 1 : Nat) : Int)) hns rfl rfl (by kernel_rfl) (by kernel_rfl) hP (y_bin (k := .i64) (k' := .i64) (m := at_) (n := 1) rfl (by kernel_rfl) (by kernel_rfl) (by kernel_rfl) (qadd _ _ _ HAD.out)) hS rfl (L' := #[true, true, true, true, true, false, false, false, false, false, false, false, false, false, false, false]) (by kernel_rfl) ?_
  refine h_takeL (i := 5) (v := .int .i64 n) hns rfl rfl (by kernel_rfl) (by kernel_rfl) hP (y_move rfl (by kernel_rfl) (by kernel_rfl)) hS rfl (L' := #[true, true, true, true, true, true, false, false, false, false, false, false, false, false, false, false]) (by kernel_rfl) ?_
  refine h_takeL (i := 6) (v := .int .i64 ((n / 256 : Nat) : Int)) hns rfl rfl (by kernel_rfl) (by kernel_rfl) hP (y_bin (k := .i64) (k' := .u64) (m := n) (n := 8) rfl (by kernel_rfl) (by kernel_rfl) (by kernel_rfl) (qshr8 n)) hS rfl (L' := #[true, true, true, true, true, true, true, false, false, false, false, false, false, false, false, false]) (by kernel_rfl) ?_
  try simp only [List.setIfInBounds_toArray, List.set_cons_zero, List.set_cons_succ]
  refine h_takeL (i := 7) (v := cb (UInt8.ofNat (n / 256))) hns rfl rfl (by kernel_rfl) (by kernel_rfl) hP (y_cnv rfl (by kernel_rfl) (by kernel_rfl) (qu8 (n / 256))) hS rfl (L' := #[true, true, true, true, true, true, true, true, false, false, false, false, false, false, false, false]) (by kernel_rfl) ?_
  refine h_takeL (i := 8) (v := .int .i64 n) hns rfl rfl (by kernel_rfl) (by kernel_rfl) hP (y_move rfl (by kernel_rfl) (by kernel_rfl)) hS rfl (L' := #[true, true, true, true, true, true, true, true, true, false, false, false, false, false, false, false]) (by kernel_rfl) ?_
  refine h_takeL (i := 9) (v := cb (UInt8.ofNat n)) hns rfl rfl (by kernel_rfl) (by kernel_rfl) hP (y_cnv rfl (by kernel_rfl) (by kernel_rfl) (qu8 n)) hS rfl (L' := #[true, true, true, true, true, true, true, true, true, true, false, false, false, false, false, false]) (by kernel_rfl) ?_
  refine h_takeL (i := 10) (v := .pointer (some ⟨g, 0, none⟩)) hns rfl rfl (by kernel_rfl) (by kernel_rfl) hP (y_nil rfl (by kernel_rfl) (by kernel_rfl)) hS rfl (L' := #[true, true, true, true, true, true, true, true, true, true, true, false, false, false, false, false]) (by kernel_rfl) ?_
  refine h_takeL (i := 11) (v := .pointer (some ⟨g, at_, none⟩)) hns rfl rfl (by kernel_rfl) (by kernel_rfl) hP (y_index rfl (by kernel_rfl) (by kernel_rfl) (by kernel_rfl) (ix70 g at_ (by have := HA.out; omega))) hS rfl (L' := #[true, true, true, true, true, true, true, true, true, true, true, true, false, false, false, false]) (by kernel_rfl) ?_
  refine h_takeL (i := 13) (v := .pointer (some ⟨g, 0, none⟩)) hns rfl rfl (by kernel_rfl) (by kernel_rfl) hP (y_nil rfl (by kernel_rfl) (by kernel_rfl)) hS rfl (L' := #[true, true, true, true, true, true, true, true, true, true, true, true, false, true, false, false]) (by kernel_rfl) ?_
  refine h_skipL (i := 12) (by kernel_rfl) rfl rfl (by kernel_rfl) (run_storeOp rfl (by kernel_rfl) (by kernel_rfl) HS1.out) trivial (L' := #[true, true, true, true, true, true, true, true, true, true, true, true, true, true, false, false]) (by kernel_rfl) ?_
  refine h_takeL (i := 14) (v := .pointer (some ⟨g, at_ + 1, none⟩)) hns rfl rfl (by kernel_rfl) (by kernel_rfl) hP (y_index rfl (by kernel_rfl) (by kernel_rfl) (by kernel_rfl) (ix70 g (at_ + 1) HA.out)) hS rfl (L' := #[true, true, true, true, true, true, true, true, true, true, true, true, true, true, true, false]) (by kernel_rfl) ?_
  try simp only [List.setIfInBounds_toArray, List.set_cons_zero, List.set_cons_succ]
  refine h_skipL (i := 15) (by kernel_rfl) rfl rfl (by kernel_rfl) (run_storeOp rfl (by kernel_rfl) (by kernel_rfl) HS2.out) trivial (L' := #[true, true, true, true, true, true, true, true, true, true, true, true, true, true, true, true]) (by kernel_rfl) ?_
  try simp only [List.setIfInBounds_toArray, List.set_cons_zero, List.set_cons_succ]
  refine wpAnyH_done (by kernel_rfl) ?_ _
  refine hN _ _ ?_
  clear hP hN hns
  go_wp2_with fail
  go_end0
  exact ⟨rfl, HZ.out⟩
set_option maxRecDepth 100000 in
set_option maxHeartbeats 1600000 in
theorem number_any (h : List UInt8) (hl : h.length = 224) (at_ : Nat) (ha : at_ + 1 < 224) (w : World) :
    Calls Tryz.prog 82 #[V8 h, .int .i64 at_] w fun e w' => e = .returned (.int .i64 (((h.getD at_ 0).toNat * 256 + (h.getD (at_ + 1) 0).toNat : Nat) : Int)) ∧ Below w.heap.size w w' := by
  obtain ⟨g, hg⟩ : ∃ g, w.heap.size = g := ⟨_, rfl⟩
  have hbx := pbox70 w h
  have hB : Below w.heap.size w (w.alloc (.cells (cells8 h).toArray 70)) := (Below.refl _ _).alloc (Nat.le_refl _) _
  have hR : Rw (w.alloc (.cells (cells8 h).toArray 70)) w.heap.size 70 h := heap_alloc_last w _
  rw [hg] at hbx hR
  generalize w.alloc (.cells (cells8 h).toArray 70) = w1 at *
  have hd : Below w1.heap.size w1 w1.drew := (Below.refl _ _).drew
  have cell : ∀ k, k < 224 → ∀ w', Rw w' g 70 h → (Instr.loadAt 5 (.pointer (some ⟨g, k, none⟩))).run Tryz.prog w' = .ok (cb (h.getD k 0)) w' := fun k hk w' h' => by
    have hc := h'.rd k (by omega)
    rw [Nat.zero_add] at hc
    exact load1 Tryz.isAgg5 hc
  have HBX := hid hbx
  have HS : Hid (Rw w1.drew g 70 h) := hid hR
  have HC1 := hid (cell at_ (by omega))
  have HC2 := hid (cell (at_ + 1) ha)
  have HZ : Hid (Below w.heap.size w w1.drew) := hid (hB.trans (hd.mono hB.size))
  have HAD : Hid (IntKind.i64.wrap ((at_ : Int) + 1) = ((at_ + 1 : Nat) : Int)) := hid (by rw [IntWalk.i64_in _ ⟨by omega, by omega⟩]; omega)
  have HA := hid ha
  generalize hx : h.getD at_ 0 = x at *
  generalize hy : h.getD (at_ + 1) 0 = y at *
  have HX := hid x.toNat_lt
  have HY := hid y.toNat_lt
  clear hbx hB hR hd cell hg hl ha hx hy
  go_enter Tryz.func82, Tryz.ntmps82
  go_upto_region 0 with fail
  refine wp_region_lit ?_
  refine wp_run (v := .pointer (some ⟨g, 0, none⟩)) rfl rfl (run_boxOp rfl (by kernel_rfl) HBX.out) rfl ?_
  refine wp_y (v := (.int .i64 0)) rfl rfl (y_assign rfl (by kernel_rfl) (by kernel_rfl)) rfl ?_
  try simp only [List.setIfInBounds_toArray, List.set_cons_zero, List.set_cons_succ]
  refine wp_end ?_
  go_upto_region 1 with fail
  refine h_openL (S := fun w' => Rw w' g 70 h) (by kernel_rfl) (by kernel_rfl) (fun _ _ _ _ _ h => h) (L := #[false, false, false, false, false, false, false, false, false, false, false, false]) (by kernel_rfl) ?_
  intro Q' hns hP hN
  have hS := HS.out
  refine h_takeL (i := 0) (v := .int .i64 at_) hns rfl rfl (by kernel_rfl) (by kernel_rfl) hP (y_move rfl (by kernel_rfl) (by kernel_rfl)) hS rfl (L' := #[true, false, false, false, false, false, false, false, false, false, false, false]) (by kernel_rfl) ?_
  refine h_takeL (i := 1) (v := .pointer (some ⟨g, at_, none⟩)) hns rfl rfl (by kernel_rfl) (by kernel_rfl) hP (y_index rfl (by kernel_rfl) (by kernel_rfl) (by kernel_rfl) (ix70 g at_ (by have := HA.out; omega))) hS rfl (L' := #[true, true, false, false, false, false, false, false, false, false, false, false]) (by kernel_rfl) ?_
  refine h_takeL (i := 2) (v := cb x) hns rfl rfl (by kernel_rfl) (by kernel_rfl) hP (y_load rfl (by kernel_rfl) (by kernel_rfl) (HC1.out)) hS rfl (L' := #[true, true, true, false, false, false, false, false, false, false, false, false]) (by kernel_rfl) ?_
  refine h_takeL (i := 3) (v := .int .i64 (x.toNat : Nat)) hns rfl rfl (by kernel_rfl) (by kernel_rfl) hP (y_cnv rfl (by kernel_rfl) (by kernel_rfl) (qint x)) hS rfl (L' := #[true, true, true, true, false, false, false, false, false, false, false, false]) (by kernel_rfl) ?_
  refine h_takeL (i := 4) (v := .int .i64 ((x.toNat * 256 : Nat) : Int)) hns rfl rfl (by kernel_rfl) (by kernel_rfl) hP (y_bin (k := .i64) (k' := .u64) (m := (x.toNat : Nat)) (n := 8) rfl (by kernel_rfl) (by kernel_rfl) (by kernel_rfl) (qshl8 x.toNat (by have := HX.out; omega))) hS rfl (L' := #[true, true, true, true, true, false, false, false, false, false, false, false]) (by kernel_rfl) ?_
  refine h_takeL (i := 5) (v := .int .i64 at_) hns rfl rfl (by kernel_rfl) (by kernel_rfl) hP (y_move rfl (by kernel_rfl) (by kernel_rfl)) hS rfl (L' := #[true, true, true, true, true, true, false, false, false, false, false, false]) (by kernel_rfl) ?_
  refine h_takeL (i := 6) (v := .int .i64 ((at_ + 1 : Nat) : Int)) hns rfl rfl (by kernel_rfl) (by kernel_rfl) hP (y_bin (k := .i64) (k' := .i64) (m := at_) (n := 1) rfl (by kernel_rfl) (by kernel_rfl) (by kernel_rfl) (qadd _ _ _ HAD.out)) hS rfl (L' := #[true, true, true, true, true, true, true, false, false, false, false, false]) (by kernel_rfl) ?_
  try simp only [List.setIfInBounds_toArray, List.set_cons_zero, List.set_cons_succ]
  refine h_takeL (i := 7) (v := .pointer (some ⟨g, at_ + 1, none⟩)) hns rfl rfl (by kernel_rfl) (by kernel_rfl) hP (y_index rfl (by kernel_rfl) (by kernel_rfl) (by kernel_rfl) (ix70 g (at_ + 1) HA.out)) hS rfl (L' := #[true, true, true, true, true, true, true, true, false, false, false, false]) (by kernel_rfl) ?_
  refine h_takeL (i := 8) (v := cb y) hns rfl rfl (by kernel_rfl) (by kernel_rfl) hP (y_load rfl (by kernel_rfl) (by kernel_rfl) (HC2.out)) hS rfl (L' := #[true, true, true, true, true, true, true, true, true, false, false, false]) (by kernel_rfl) ?_
  refine h_takeL (i := 9) (v := .int .i64 (y.toNat : Nat)) hns rfl rfl (by kernel_rfl) (by kernel_rfl) hP (y_cnv rfl (by kernel_rfl) (by kernel_rfl) (qint y)) hS rfl (L' := #[true, true, true, true, true, true, true, true, true, true, false, false]) (by kernel_rfl) ?_
  refine h_takeL (i := 10) (v := .int .i64 ((x.toNat * 256 + y.toNat : Nat) : Int)) hns rfl rfl (by kernel_rfl) (by kernel_rfl) hP (y_bin (k := .i64) (k' := .i64) (m := ((x.toNat * 256 : Nat) : Int)) (n := (y.toNat : Nat)) rfl (by kernel_rfl) (by kernel_rfl) (by kernel_rfl) (qor x.toNat y.toNat (by have := HX.out; omega) HY.out)) hS rfl (L' := #[true, true, true, true, true, true, true, true, true, true, true, false]) (by kernel_rfl) ?_
  refine h_takeL (i := 11) (v := .int .i64 ((x.toNat * 256 + y.toNat : Nat) : Int)) hns rfl rfl (by kernel_rfl) (by kernel_rfl) hP (y_assign rfl (by kernel_rfl) (by kernel_rfl)) hS rfl (L' := #[true, true, true, true, true, true, true, true, true, true, true, true]) (by kernel_rfl) ?_
  try simp only [List.setIfInBounds_toArray, List.set_cons_zero, List.set_cons_succ]
  refine wpAnyH_done (by kernel_rfl) ?_ _
  refine hN _ _ ?_
  clear hP hN hns
  clear hS HS
  go_wp2_with fail
  go_ret
  exact ⟨rfl, HZ.out⟩
end Go.Proofs.YtdbgccgjdgomkaaGreatDoor
