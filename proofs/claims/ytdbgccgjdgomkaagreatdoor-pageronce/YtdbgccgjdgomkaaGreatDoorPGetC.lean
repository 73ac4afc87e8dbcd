/- Read; Format. -/
import Derived.Test.YtdbgccgjdgomkaaGreatDoorPMainC
namespace Go.Proofs.YtdbgccgjdgomkaaGreatDoor
open Go Go.RowKit

theorem owns_mono {w : World} {b b' : Nat} {t : TypeId} {v : Value} {n : Nat} {xs : List Value} (h : w.ownsRow b t 1 v n xs) (hb : b' ≤ b) : w.ownsRow b' t 1 v n xs :=
  ⟨h.1, h.2.imp id fun ⟨g, cap, cur, e, h1, r⟩ => ⟨g, cap, cur, e, Nat.le_trans hb h1, r⟩⟩
theorem Below.undr {B : Nat} {w w' : World} (h : Below B w.drew w') : Below B w w' := ((Below.refl B w).drew).trans h
set_option maxHeartbeats 1000000 in
theorem pread_none {w : World} {p j : Nat} {l : List Bool} {kl kr : Int} {bg : Bool} {lf rt : Int} {um bm : Option Nat} {u : Int → Option Bool} {g : Int → Option (List UInt8)} (h : PM w p j l kl kr bg lf rt um bm 0 u g) (k : Int) (ht : tkn l u k = false) :
    Calls Tryz.prog 23 #[.pointer (some ⟨p, 0, none⟩), .int .i64 k] w fun e w' => e = .returned (.tuple #[.slice none 0 0, .int .i64 81]) ∧ w' = w := by
  have h1 := readyFor_any h k
  rw [ht] at h1
  have HR := hid h1
  clear h h1 ht
  go_enter Tryz.func23, Tryz.ntmps23
  go_wp2_with fail
  refine HR.out.mono ?_
  rintro e w1 ⟨rfl, hw1⟩
  obtain rfl := hw1.symm
  clear HR
  simp only [Bool.false_eq_true, if_false]
  go_wp2
  go_ret2
  exact ⟨rfl, rfl⟩
theorem pread_nil (k : Int) (w : World) :
    Calls Tryz.prog 23 #[.pointer none, .int .i64 k] w fun e w' => e = .returned (.tuple #[.slice none 0 0, .int .i64 1]) ∧ w' = w := by
  have HR := hid (readyFor_nil k w)
  go_enter Tryz.func23, Tryz.ntmps23
  go_wp2_with fail
  refine HR.out.mono ?_
  rintro e w1 ⟨rfl, hw1⟩
  obtain rfl := hw1.symm
  clear HR
  go_wp2
  go_ret2
  exact ⟨rfl, rfl⟩
theorem pread_off {w : World} {p j : Nat} {l : List Bool} {kl kr : Int} {bg : Bool} {lf rt : Int} {um bm : Option Nat} (h : Pg w p j l kl kr bg lf rt um bm 43) (k : Int) :
    Calls Tryz.prog 23 #[.pointer (some ⟨p, 0, none⟩), .int .i64 k] w fun e w' => e = .returned (.tuple #[.slice none 0 0, .int .i64 43]) ∧ w' = w := by
  have HR := hid (readyFor_off h k)
  clear h
  go_enter Tryz.func23, Tryz.ntmps23
  go_wp2_with fail
  refine HR.out.mono ?_
  rintro e w1 ⟨rfl, hw1⟩
  obtain rfl := hw1.symm
  clear HR
  go_wp2
  go_ret2
  exact ⟨rfl, rfl⟩
set_option maxRecDepth 100000 in
set_option maxHeartbeats 1000000 in
theorem pread_map {w : World} {p j : Nat} {l : List Bool} {kl kr : Int} {bg : Bool} {lf rt : Int} {um bm : Option Nat} {u : Int → Option Bool} {g : Int → Option (List UInt8)} (h : PM w p j l kl kr bg lf rt um bm 0 u g) (q : Nat) (hq : q < l.length) (ht : usf l u q = true) (c : List UInt8) (hc : g q = some c) :
    Calls Tryz.prog 23 #[.pointer (some ⟨p, 0, none⟩), .int .i64 q] w fun e w' => ∃ b, w.heap.size ≤ b ∧ e = .returned (.tuple #[.slice (some ⟨b, 0, none⟩) 896 896, .int .i64 0]) ∧ Rw w' b 109 c ∧ Below w.heap.size w w' := by
  have h1 := readyFor_any h (q : Int)
  have e1 : tkn l u (q : Int) = true := by unfold tkn; simp [hq, ht]
  rw [e1] at h1
  have HR := hid h1
  have hcl := h.gl q c hc
  obtain ⟨kb, hb⟩ := h.mb
  have hgc := get_con h.pg.cbm hb h.gl (q : Int)
  unfold cget at hgc
  rw [hc] at hgc
  have HG : Hid (Calls Tryz.prog 54 #[.pointer (some ⟨p, 1031, none⟩), .int .i64 q] w fun e w' => e = .returned (.tuple #[V8 c, .bool true]) ∧ Below w.heap.size w w') := hid hgc
  have HC := hid hcl
  clear h h1 ht e1 hq hb hgc hc hcl
  go_enter Tryz.func23, Tryz.ntmps23
  go_wp2_with fail
  refine HR.out.mono ?_
  rintro e w1 ⟨rfl, hw1⟩
  obtain rfl := hw1.symm
  clear HR
  simp only [if_true]
  go_upto_region 4 with fail
  refine wp_region_lit ?_
  refine wp_y (v := .pointer (some ⟨p, 0, none⟩)) rfl rfl (y_move rfl (by kernel_rfl) (by kernel_rfl)) rfl ?_
  refine wp_y (v := .pointer (some ⟨p, 0, none⟩)) rfl rfl (y_nil rfl (by kernel_rfl) (by kernel_rfl)) rfl ?_
  refine wp_y (v := .pointer (some ⟨p, 1027, none⟩)) rfl rfl (y_faddr rfl (by kernel_rfl) (by kernel_rfl) (fa90_2 (p))) rfl ?_
  refine wp_y (v := .pointer (some ⟨p, 1031, none⟩)) rfl rfl (y_faddr rfl (by kernel_rfl) (by kernel_rfl) (fg87_4 (p) (1027))) rfl ?_
  refine wp_y (v := .int .i64 q) rfl rfl (y_move rfl (by kernel_rfl) (by kernel_rfl)) rfl ?_
  refine wp_call (f := 54) (args := #[.pointer (some ⟨p, 1031, none⟩), .int .i64 q]) (by kernel_rfl) (fun w => by go_simp) ?_
  refine HG.out.mono ?_
  rintro e w2 ⟨rfl, hB2⟩
  refine ⟨_, rfl, ?_⟩
  have hal := alloc109 w2
  have hB3 : Below w2.heap.size w2 (w2.alloc (.cells (cells8 z896).toArray 109)) := (Below.refl _ _).alloc (Nat.le_refl _) _
  have hR3 : Rw (w2.alloc (.cells (cells8 z896).toArray 109)) w2.heap.size 109 z896 := heap_alloc_last w2 _
  generalize w2.alloc (.cells (cells8 z896).toArray 109) = w3 at *
  obtain ⟨g2, hg2⟩ : ∃ g, w2.heap.size = g := ⟨_, rfl⟩
  have hs2 := hB2.size
  rw [hg2] at hal hR3 hB3 hs2
  have hst := store109 z896_len HC.out hR3
  have hR4 := hR3.row c
  have hF4 := Fr.setRow w3 g2 (cells8 c).toArray
  generalize w3.setRow g2 (cells8 c).toArray = w4 at *
  have HZ : Hid (∃ b, w.heap.size ≤ b ∧ Ending.returned (.tuple #[.slice (some ⟨g2, 0, none⟩) 896 896, .int .i64 0]) = .returned (.tuple #[.slice (some ⟨b, 0, none⟩) 896 896, .int .i64 0]) ∧ Rw w4 b 109 c ∧ Below w.heap.size w w4) := hid ⟨g2, hs2, rfl, hR4, (hB2.trans (hB3.mono hs2)).trans (hF4.below (by have := hR3.lt; omega) (by simp; omega))⟩
  have HAL := hid hal
  have HST := hid hst
  clear hB2 hB3 hR3 hal hst hR4 hF4 hg2 hs2 HG
  dsimp only [Act.put]
  refine wp_y (v := .tuple #[V8 c, .bool true]) rfl rfl (y_move rfl (by kernel_rfl) (by kernel_rfl)) rfl ?_
  refine wp_y (v := V8 c) rfl rfl (y_ext rfl (by kernel_rfl) (by kernel_rfl) (ext2_0 (V8 c) (.bool true))) rfl ?_
  try simp only [List.setIfInBounds_toArray, List.set_cons_zero, List.set_cons_succ]
  refine wp_y (v := .bool true) rfl rfl (y_ext rfl (by kernel_rfl) (by kernel_rfl) (ext2_1 (V8 c) (.bool true))) rfl ?_
  refine wp_run (v := .pointer (some ⟨g2, 0, none⟩)) rfl rfl (run_alOp rfl HAL.out) rfl ?_
  refine wp_do rfl rfl (run_storeOp rfl (by kernel_rfl) (by kernel_rfl) HST.out) ?_
  refine wp_y (v := .bool true) rfl rfl (y_assign rfl (by kernel_rfl) (by kernel_rfl)) rfl ?_
  try simp only [List.setIfInBounds_toArray, List.set_cons_zero, List.set_cons_succ]
  refine wp_end ?_
  go_upto_region 6 with fail
  refine wp_region_lit ?_
  refine wp_y (v := .slice (some ⟨g2, 0, none⟩) 896 896) rfl rfl (y_slice rfl (by kernel_rfl) (by kernel_rfl) (by kernel_rfl) (by kernel_rfl) (by kernel_rfl) (sl109 g2)) rfl ?_
  refine wp_y (v := .slice (some ⟨g2, 0, none⟩) 896 896) rfl rfl (y_assign rfl (by kernel_rfl) (by kernel_rfl)) rfl ?_
  refine wp_y (v := (.int .i64 0)) rfl rfl (y_assign rfl (by kernel_rfl) (by kernel_rfl)) rfl ?_
  try simp only [List.setIfInBounds_toArray, List.set_cons_zero, List.set_cons_succ]
  refine wp_end ?_
  go_wp2_with fail
  go_ret2
  exact HZ.out
set_option maxRecDepth 100000 in
set_option maxHeartbeats 1000000 in
theorem pread_blk {w : World} {p j : Nat} {l : List Bool} {kl kr : Int} {bg : Bool} {lf rt : Int} {um bm : Option Nat} {u : Int → Option Bool} {g : Int → Option (List UInt8)} (h : PM w p j l kl kr bg lf rt um bm 0 u g) {d : Nat} {X : List Nat} {s : DS} {sq cnt : Nat} {bl : List (List UInt8)} (hJ : Jr w j d X s sq cnt bl) (q : Nat) (hq : q < l.length) (ht : usf l u q = true) (hc : g q = none) (hn : 2 + q * 8 + 8 ≤ bl.length) :
    Calls Tryz.prog 23 #[.pointer (some ⟨p, 0, none⟩), .int .i64 q] w fun e w' => ∃ v, e = .returned (.tuple #[v, .int .i64 0]) ∧ w'.ownsRow w.heap.size 5 1 v 896 (cells8 (cat bl (2 + q * 8) 8)) ∧ Below w.heap.size w w' := by
  have h1 := readyFor_any h (q : Int)
  have e1 : tkn l u (q : Int) = true := by unfold tkn; simp [hq, ht]
  rw [e1] at h1
  have HR := hid h1
  obtain ⟨kb, hb⟩ := h.mb
  have hgc := get_con h.pg.cbm hb h.gl (q : Int)
  unfold cget at hgc
  rw [hc] at hgc
  have HG : Hid (Calls Tryz.prog 54 #[.pointer (some ⟨p, 1031, none⟩), .int .i64 q] w fun e w' => e = .returned (.tuple #[V8 z896, .bool false]) ∧ Below w.heap.size w w') := hid hgc
  have HC : Hid (z896.length = 896) := hid z896_len
  have HJ := hid (And.intro hJ (And.intro h.pg (And.intro hn (show q ≤ 1023 by have := h.pg.1; omega))))
  obtain ⟨c, hcc⟩ : ∃ c, z896 = c := ⟨_, rfl⟩
  rw [hcc] at HG HC
  clear h h1 ht e1 hq hb hgc hc hJ hn hcc
  go_enter Tryz.func23, Tryz.ntmps23
  go_wp2_with fail
  refine HR.out.mono ?_
  rintro e w1 ⟨rfl, hw1⟩
  obtain rfl := hw1.symm
  clear HR
  simp only [if_true]
  go_upto_region 4 with fail
  refine wp_region_lit ?_
  refine wp_y (v := .pointer (some ⟨p, 0, none⟩)) rfl rfl (y_move rfl (by kernel_rfl) (by kernel_rfl)) rfl ?_
  refine wp_y (v := .pointer (some ⟨p, 0, none⟩)) rfl rfl (y_nil rfl (by kernel_rfl) (by kernel_rfl)) rfl ?_
  refine wp_y (v := .pointer (some ⟨p, 1027, none⟩)) rfl rfl (y_faddr rfl (by kernel_rfl) (by kernel_rfl) (fa90_2 (p))) rfl ?_
  refine wp_y (v := .pointer (some ⟨p, 1031, none⟩)) rfl rfl (y_faddr rfl (by kernel_rfl) (by kernel_rfl) (fg87_4 (p) (1027))) rfl ?_
  refine wp_y (v := .int .i64 q) rfl rfl (y_move rfl (by kernel_rfl) (by kernel_rfl)) rfl ?_
  refine wp_call (f := 54) (args := #[.pointer (some ⟨p, 1031, none⟩), .int .i64 q]) (by kernel_rfl) (fun w => by go_simp) ?_
  refine HG.out.mono ?_
  rintro e w2 ⟨rfl, hB2⟩
  refine ⟨_, rfl, ?_⟩
  have hal := alloc109 w2
  have hB3 : Below w2.heap.size w2 (w2.alloc (.cells (cells8 z896).toArray 109)) := (Below.refl _ _).alloc (Nat.le_refl _) _
  have hR3 : Rw (w2.alloc (.cells (cells8 z896).toArray 109)) w2.heap.size 109 z896 := heap_alloc_last w2 _
  generalize w2.alloc (.cells (cells8 z896).toArray 109) = w3 at *
  obtain ⟨g2, hg2⟩ : ∃ g, w2.heap.size = g := ⟨_, rfl⟩
  have hs2 := hB2.size
  rw [hg2] at hal hR3 hB3 hs2
  have hst := store109 z896_len HC.out hR3
  have hR4 := hR3.row c
  have hF4 := Fr.setRow w3 g2 (cells8 c).toArray
  generalize w3.setRow g2 (cells8 c).toArray = w4 at *
  have HZ : Hid (∃ b, w.heap.size ≤ b ∧ Ending.returned (.tuple #[.slice (some ⟨g2, 0, none⟩) 896 896, .int .i64 0]) = .returned (.tuple #[.slice (some ⟨b, 0, none⟩) 896 896, .int .i64 0]) ∧ Rw w4 b 109 c ∧ Below w.heap.size w w4) := hid ⟨g2, hs2, rfl, hR4, (hB2.trans (hB3.mono hs2)).trans (hF4.below (by have := hR3.lt; omega) (by simp; omega))⟩
  have HAL := hid hal
  have HST := hid hst
  clear hB2 hB3 hR3 hal hst hR4 hF4 hg2 hs2 HG
  dsimp only [Act.put]
  refine wp_y (v := .tuple #[V8 c, .bool false]) rfl rfl (y_move rfl (by kernel_rfl) (by kernel_rfl)) rfl ?_
  refine wp_y (v := V8 c) rfl rfl (y_ext rfl (by kernel_rfl) (by kernel_rfl) (ext2_0 (V8 c) (.bool false))) rfl ?_
  try simp only [List.setIfInBounds_toArray, List.set_cons_zero, List.set_cons_succ]
  refine wp_y (v := .bool false) rfl rfl (y_ext rfl (by kernel_rfl) (by kernel_rfl) (ext2_1 (V8 c) (.bool false))) rfl ?_
  refine wp_run (v := .pointer (some ⟨g2, 0, none⟩)) rfl rfl (run_alOp rfl HAL.out) rfl ?_
  refine wp_do rfl rfl (run_storeOp rfl (by kernel_rfl) (by kernel_rfl) HST.out) ?_
  refine wp_y (v := .bool false) rfl rfl (y_assign rfl (by kernel_rfl) (by kernel_rfl)) rfl ?_
  try simp only [List.setIfInBounds_toArray, List.set_cons_zero, List.set_cons_succ]
  refine wp_end ?_
  have hz := HZ.out
  obtain ⟨b, _, _, hR4, hB4⟩ := hz
  have hJ := HJ.out
  have hJ4 := hJ.1.below hB4
  have hP4 := hJ.2.1.below hB4 hJ.2.1.lt
  have hdr : Below w4.heap.size w4 w4.drew := (Below.refl _ _).drew
  have HFB := hid (firstBlock_any q hJ.2.2.2 w4.drew)
  have HRB := hid (readBlocks_any (hJ4.below hdr) (2 + q * 8) 8 hJ.2.2.1 (by decide))
  have HS : Hid (w4.drew.cell? ⟨p, 0, none⟩ = some (.pointer (some ⟨j, 0, none⟩))) := hid hP4.c0
  have HP4 := hid (And.intro hP4.c0 hP4.lt)
  have HB4 : Hid (Below w.heap.size w w4 ∧ w.heap.size ≤ w4.heap.size) := hid ⟨hB4, hB4.size⟩
  clear hJ hJ4 hP4 hB4 hR4 hdr HJ HZ
  go_upto_region 7 with fail
  refine h_openL (S := fun w' => w'.cell? ⟨p, 0, none⟩ = some (.pointer (some ⟨j, 0, none⟩))) (by kernel_rfl) (by kernel_rfl) (fun _ _ _ _ _ h => h) (L := #[false, false, false, false, false, false, false, false, false, false, false, false]) (by kernel_rfl) ?_
  intro Q' hns hP hN
  have hS := HS.out
  refine h_takeL (i := 0) (v := .pointer (some ⟨p, 0, none⟩)) hns rfl rfl (by kernel_rfl) (by kernel_rfl) hP (y_move rfl (by kernel_rfl) (by kernel_rfl)) hS rfl (L' := #[true, false, false, false, false, false, false, false, false, false, false, false]) (by kernel_rfl) ?_
  refine h_takeL (i := 1) (v := .pointer (some ⟨p, 0, none⟩)) hns rfl rfl (by kernel_rfl) (by kernel_rfl) hP (y_nil rfl (by kernel_rfl) (by kernel_rfl)) hS rfl (L' := #[true, true, false, false, false, false, false, false, false, false, false, false]) (by kernel_rfl) ?_
  refine h_takeL (i := 2) (v := .pointer (some ⟨p, 0, none⟩)) hns rfl rfl (by kernel_rfl) (by kernel_rfl) hP (y_faddr rfl (by kernel_rfl) (by kernel_rfl) (fa90_0 (p))) hS rfl (L' := #[true, true, true, false, false, false, false, false, false, false, false, false]) (by kernel_rfl) ?_
  refine h_takeL (i := 3) (v := .pointer (some ⟨j, 0, none⟩)) hns rfl rfl (by kernel_rfl) (by kernel_rfl) hP (y_load rfl (by kernel_rfl) (by kernel_rfl) (fun w' h => load1 Tryz.isAgg25 h)) hS rfl (L' := #[true, true, true, true, false, false, false, false, false, false, false, false]) (by kernel_rfl) ?_
  refine h_takeL (i := 4) (v := .int .i64 q) hns rfl rfl (by kernel_rfl) (by kernel_rfl) hP (y_move rfl (by kernel_rfl) (by kernel_rfl)) hS rfl (L' := #[true, true, true, true, true, false, false, false, false, false, false, false]) (by kernel_rfl) ?_
  refine h_callL (i := 5) (f := 56) (args := #[.int .i64 q]) (by kernel_rfl) rfl rfl (by kernel_rfl) (enter_go rfl (by kernel_rfl) (fun w => by go_simp)) (L' := #[true, true, true, true, true, true, false, false, false, false, false, false]) (by kernel_rfl) ?_
  refine HFB.out.mono ?_
  rintro e w5 ⟨rfl, rfl⟩
  refine ⟨_, rfl, HS.out, ?_⟩
  refine h_callL (i := 6) (f := 62) (args := #[.pointer (some ⟨j, 0, none⟩), .int .i64 ((2 + q * 8 : Nat) : Int), .int .i64 8]) (by kernel_rfl) rfl rfl (by kernel_rfl) (enter_go rfl (by kernel_rfl) (fun w => by go_simp)) (L' := #[true, true, true, true, true, true, true, false, false, false, false, false]) (by kernel_rfl) ?_
  refine HRB.out.mono ?_
  rintro e w6 ⟨v, rfl, ho, hB6⟩
  have hS6 : w6.cell? ⟨p, 0, none⟩ = some (.pointer (some ⟨j, 0, none⟩)) := (hB6.cell (p := ⟨p, 0, none⟩) HP4.out.2).trans HS.out
  have HO : Hid (w6.ownsRow w.heap.size 5 1 v 896 (cells8 (cat bl (2 + q * 8) 8)) ∧ Below w.heap.size w w6) := hid ⟨owns_mono ho HB4.out.2, HB4.out.1.trans ((Below.undr hB6).mono HB4.out.2)⟩
  refine ⟨_, rfl, hS6, ?_⟩
  clear hS hB6 ho
  have hS := hS6
  clear hS6
  try simp only [List.setIfInBounds_toArray, List.set_cons_zero, List.set_cons_succ]
  refine h_takeL (i := 7) (v := .tuple #[v, .int .i64 0]) hns rfl rfl (by kernel_rfl) (by kernel_rfl) hP (y_move rfl (by kernel_rfl) (by kernel_rfl)) hS rfl (L' := #[true, true, true, true, true, true, true, true, false, false, false, false]) (by kernel_rfl) ?_
  refine h_takeL (i := 8) (v := v) hns rfl rfl (by kernel_rfl) (by kernel_rfl) hP (y_ext rfl (by kernel_rfl) (by kernel_rfl) (ext2_0 (v) (.int .i64 0))) hS rfl (L' := #[true, true, true, true, true, true, true, true, true, false, false, false]) (by kernel_rfl) ?_
  refine h_takeL (i := 9) (v := .int .i64 0) hns rfl rfl (by kernel_rfl) (by kernel_rfl) hP (y_ext rfl (by kernel_rfl) (by kernel_rfl) (ext2_1 (v) (.int .i64 0))) hS rfl (L' := #[true, true, true, true, true, true, true, true, true, true, false, false]) (by kernel_rfl) ?_
  refine h_takeL (i := 10) (v := v) hns rfl rfl (by kernel_rfl) (by kernel_rfl) hP (y_assign rfl (by kernel_rfl) (by kernel_rfl)) hS rfl (L' := #[true, true, true, true, true, true, true, true, true, true, true, false]) (by kernel_rfl) ?_
  refine h_takeL (i := 11) (v := .int .i64 0) hns rfl rfl (by kernel_rfl) (by kernel_rfl) hP (y_assign rfl (by kernel_rfl) (by kernel_rfl)) hS rfl (L' := #[true, true, true, true, true, true, true, true, true, true, true, true]) (by kernel_rfl) ?_
  try simp only [List.setIfInBounds_toArray, List.set_cons_zero, List.set_cons_succ]
  refine wpAnyH_done (by kernel_rfl) ?_ _
  refine hN _ _ ?_
  clear hP hN hns
  have HT := hid (ptold_ok (w := w6) p)
  clear HFB HRB HS HP4 hS
  go_wp2_with fail
  refine HT.out.mono ?_
  rintro e w7 ⟨rfl, hw7⟩
  obtain rfl := hw7.symm
  clear HT
  go_wp2_with fail
  go_ret2
  exact ⟨v, rfl, HO.out⟩
/-- A part of a head. -/
def hp (hd : List UInt8) (x : Nat) : List UInt8 := (hd.drop (x * 112)).take 112
theorem fit_head {nb : Nat} (hn : 2 ≤ nb) {hd : List UInt8} (hl : hd.length = 224) : Fit nb [0, 1] [hp hd 0, hp hd 1] := by
  refine ⟨rfl, by decide, fun z hz => ?_, fun l hm => ?_⟩
  · simp only [List.mem_cons, List.not_mem_nil, or_false] at hz
    unfold hasB
    rcases hz with rfl | rfl <;> simp <;> omega
  · simp only [List.mem_cons, List.not_mem_nil, or_false] at hm
    rcases hm with rfl | rfl <;> simp [hp, hl]
set_option maxRecDepth 100000 in
set_option maxHeartbeats 1000000 in
theorem pformat_any {B : Nat} {w : World} {j d : Nat} {X : List Nat} {s : DS} {sq cnt : Nat} {bl : List (List UInt8)} (h : Js B w j d X s sq cnt bl) (hBw : B ≤ w.heap.size) (hsq : sq + 1 ≤ 1000000000) (ho : s.ops + ((2 * nbOf s.n + 4 : Nat) : Int) ≤ 1048576) {n : Nat} (hn : (nbOf s.n - 2) / 8 = n) :
    Calls Tryz.prog 32 #[.pointer (some ⟨j, 0, none⟩)] w fun e w' => e = .returned (.int .i64 0) ∧ ∃ s' X' cnt', Js B w' j d X' s' (sq + 1) cnt' (layAll bl (wsOf [0, 1] [hp (hdOf (List.replicate n false) 0) 0, hp (hdOf (List.replicate n false) 0) 1])) ∧ s'.n = s.n ∧ s.ops ≤ s'.ops ∧ s'.ops ≤ s.ops + 8 ∧ Below B w w' ∧ Kp w w' := by
  have hnb := h.jr.nb
  have hbl : bl.length = nbOf s.n := h.jr.sett.con.len
  have hn32 := h.jr.sett.n32
  have hnb2 : 2 ≤ nbOf s.n := by unfold nbOf; omega
  have hpo := pagesOf_any h.jr.jn hnb2 hnb
  rw [hn] at hpo
  have HP := hid hpo
  have HE := hid (empty_any n (by omega) w)
  have HH : Hid (∀ w', Calls Tryz.prog 52 #[St (List.replicate n false) n (-1)] w' fun e w'' => ∃ va vb g, e = .returned (.tuple #[va, vb]) ∧ Ats w'' w'.heap.size va [0, 1] ∧ Bq w'' w'.heap.size vb [⟨g, 70, 0, hdOf (List.replicate n false) 0⟩, ⟨g, 70, 1, hdOf (List.replicate n false) 0⟩] ∧ Below w'.heap.size w' w'') := hid (fun w' => htw_any (List.replicate n false) n (-1) (by simp; omega) 0 rfl (by decide) w')
  have HJ := hid (And.intro h (And.intro hBw (And.intro hsq (And.intro ho (show 2 ≤ bl.length by omega)))))
  clear hnb hbl hn32 hnb2 hpo h hBw hsq ho hn
  go_enter Tryz.func32, Tryz.ntmps32
  go_wp2_with fail
  refine HP.out.mono ?_
  rintro e w1 ⟨rfl, hw1⟩
  obtain rfl := hw1.symm
  clear HP
  go_wp2_with fail
  refine HE.out.mono ?_
  rintro e w2 ⟨rfl, hB2⟩
  have HB2 := hid hB2
  clear HE hB2
  go_wp2_with fail
  refine (HH.out w2).mono ?_
  rintro e w3 ⟨va, vb, g, rfl, ha, hb, hB3⟩
  have hJ := HJ.out
  have hJ3 := (hJ.1.below HB2.out).below hB3
  have hdl := hdOf_len (List.replicate n false) 0
  have hf := fit_head hJ.2.2.2.2 hdl
  have hB2 := HB2.out
  have hwr := hJ3.wr (by have := hB2.size; have := hB3.size; omega) hJ.2.2.1 ha.iz hb.bz (by decide) hJ.2.2.2.1
  have hre : refE bl [0, 1] [hp (hdOf (List.replicate n false) 0) 0, hp (hdOf (List.replicate n false) 0) 1] = 0 := if_pos hf
  have hrw : refW sq bl [0, 1] [hp (hdOf (List.replicate n false) 0) 0, hp (hdOf (List.replicate n false) 0) 1] = (sq + 1, layAll bl (wsOf [0, 1] [hp (hdOf (List.replicate n false) 0) 0, hp (hdOf (List.replicate n false) 0) 1])) := if_pos ⟨hf, by simp⟩
  have hwr2 : Calls Tryz.prog 58 #[.pointer (some ⟨j, 0, none⟩), va, vb] w3 fun e w' => e = .returned (.int .i64 0) ∧ ∃ s' X' cnt', Js B w' j d X' s' (sq + 1) cnt' (layAll bl (wsOf [0, 1] [hp (hdOf (List.replicate n false) 0) 0, hp (hdOf (List.replicate n false) 0) 1])) ∧ s'.n = s.n ∧ s.ops ≤ s'.ops ∧ s'.ops ≤ s.ops + 8 ∧ Below B w w' ∧ Kp w w' := hwr.mono (by
    rintro e w4 ⟨rfl, s', X', cnt', hJ4, h1, h2, h3, _, _, _, hB4, hK4⟩
    refine ⟨congrArg (fun x => Ending.returned (.int .i64 x)) hre, s', X', cnt', ?_, h1, h2, h3, ((hB2.mono hJ.2.1).trans (hB3.mono (by have := hB2.size; omega))).trans hB4, ((Kp.of_below hB2).trans (Kp.of_below hB3)).trans hK4⟩
    have e1 : ([⟨g, 70, 0, hdOf (List.replicate n false) 0⟩, ⟨g, 70, 1, hdOf (List.replicate n false) 0⟩] : List Pq).map Pq.by = [hp (hdOf (List.replicate n false) 0) 0, hp (hdOf (List.replicate n false) 0) 1] := rfl
    rw [e1, hrw] at hJ4
    exact hJ4)
  have HW := hid hwr2
  clear hJ hJ3 hdl hf hB2 hwr hre hrw hwr2 ha hb hB3 HH HB2 HJ
  go_wp2_with fail
  refine HW.out.mono ?_
  rintro e w4 ⟨rfl, h4⟩
  have HZ := hid h4
  clear HW h4
  go_wp2_with fail
  go_ret
  exact ⟨rfl, HZ.out⟩
theorem pformat_nil (w : World) : Calls Tryz.prog 32 #[.pointer none] w fun e w' => e = .returned (.int .i64 1) ∧ w' = w := by
  go_enter Tryz.func32, Tryz.ntmps32
  go_wp2
  go_ret
  exact ⟨rfl, rfl⟩
end Go.Proofs.YtdbgccgjdgomkaaGreatDoor
