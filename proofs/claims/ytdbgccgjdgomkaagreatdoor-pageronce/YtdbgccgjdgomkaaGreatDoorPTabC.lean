/- The tables' methods: get, put, drop. -/
import Derived.Test.YtdbgccgjdgomkaaGreatDoorPBigC
import Derived.Test.YtdbgccgjdgomkaaGreatDoorJGe
import Derived.WalkSpells
namespace Go.Proofs.YtdbgccgjdgomkaaGreatDoor
open Go Go.RowKit

theorem under80 : Tryz.prog.underlying 80 = some (.map 3 73) := by kernel_rfl
theorem under83 : Tryz.prog.underlying 83 = some (.map 3 109) := by kernel_rfl
theorem zero73 (w : World) : (zeroValue 73).run Tryz.prog w = .ok (.int .u8 0) w := by go_simp
theorem makeMap80 (w : World) : (Instr.makeMap 80 none).run Tryz.prog w = .ok (.map (some w.heap.size)) (w.alloc (.map #[] 0)) := by
  simp only [Instr.makeMap, Sem.run_bind]
  go_simp
theorem makeMap83 (w : World) : (Instr.makeMap 83 none).run Tryz.prog w = .ok (.map (some w.heap.size)) (w.alloc (.map #[] 0)) := by
  simp only [Instr.makeMap, Sem.run_bind]
  go_simp
set_option maxRecDepth 100000 in
set_option maxHeartbeats 800000 in
theorem get_use {w : World} {b o : Nat} {m : Option Nat} {ks : List Int} {f : Int → Option Value} (hc : w.cell? ⟨b, o, none⟩ = some (.map m)) (hm : Mo w m ks f) (k : Int) :
    Calls Tryz.prog 88 #[.pointer (some ⟨b, o, none⟩), .int .i64 k] w fun e w' => e = .returned (.tuple #[(f k).getD (.int .u8 0), .bool (f k).isSome]) ∧ w' = w := by
  have hl := hm.look under80 zero73 k
  clear hm
  generalize (f k).getD (.int .u8 0) = v at *
  generalize (f k).isSome = q at *
  go_enter Tryz.func88, Tryz.ntmps88
  go_wp2
  go_ret2
  exact ⟨rfl, rfl⟩
/-- What is got of a page's bytes. -/
def cget (g : Int → Option (List UInt8)) (k : Int) : List UInt8 := (g k).getD z896
theorem getD_con (g : Int → Option (List UInt8)) (k : Int) : ((g k).map V8).getD (V8 z896) = V8 (cget g k) := by unfold cget; cases g k <;> rfl
theorem cget_len {g : Int → Option (List UInt8)} (h : ∀ k c, g k = some c → c.length = 896) (k : Int) : (cget g k).length = 896 := by
  unfold cget
  cases e : g k with
  | none => exact z896_len
  | some c => exact h k c e
set_option maxRecDepth 100000 in
set_option maxHeartbeats 800000 in
theorem get_con {w : World} {b o : Nat} {m : Option Nat} {ks : List Int} {g : Int → Option (List UInt8)} (hc : w.cell? ⟨b, o, none⟩ = some (.map m)) (hm : Mo w m ks (fun k => (g k).map V8)) (hg : ∀ k c, g k = some c → c.length = 896) (k : Int) :
    Calls Tryz.prog 54 #[.pointer (some ⟨b, o, none⟩), .int .i64 k] w fun e w' => e = .returned (.tuple #[V8 (cget g k), .bool (g k).isSome]) ∧ Below w.heap.size w w' := by
  have hcl := cget_len hg k
  have hq : ((g k).map V8).isSome = (g k).isSome := by cases g k <;> rfl
  obtain ⟨w1, hw1⟩ : ∃ w1, w1 = w.alloc (.cells (cells8 z896).toArray 109) := ⟨_, rfl⟩
  have hB1 : Below w.heap.size w w1 := by rw [hw1]; exact (Below.refl _ _).alloc (Nat.le_refl _) _
  have hl := (hm.below hB1).look under83 zero109 k
  rw [getD_con, hq] at hl
  have HC1 := hid (load1 Tryz.isAgg83 ((hB1.cell (p := ⟨b, o, none⟩) (World.block_lt_of_cell? w _ hc)).trans hc))
  have hr1 : Rw w1 w.heap.size 109 z896 := by rw [hw1]; exact heap_alloc_last w _
  generalize cget g k = c at *
  generalize (g k).isSome = q at *
  have hsz : w1.heap.size = w.heap.size + 1 := by rw [hw1]; show (w.heap.push _).size = _; simp
  have hr2 : Rw (w1.alloc (.cells (cells8 z896).toArray 109)) w1.heap.size 109 z896 := heap_alloc_last w1 _
  have hB2 : Below w1.heap.size w1 (w1.alloc (.cells (cells8 z896).toArray 109)) := (Below.refl _ _).alloc (Nat.le_refl _) _
  have hS2 := store109 z896_len hcl hr2
  have hr3 := hr2.row c
  have hF3 := Fr.setRow (w1.alloc (.cells (cells8 z896).toArray 109)) w1.heap.size (cells8 c).toArray
  generalize (w1.alloc (.cells (cells8 z896).toArray 109)).setRow w1.heap.size (cells8 c).toArray = w3 at *
  have hr13 : Rw w3 w.heap.size 109 z896 := hF3.at (hr1.below hB2 (by omega)) (by simp; omega)
  have hS3 := store109 z896_len hcl hr13
  have hr4 := hr13.row c
  have hF4 := Fr.setRow w3 w.heap.size (cells8 c).toArray
  have hL3 := load109 hcl hr3
  have hsz3 : w1.heap.size ≤ w3.heap.size := Nat.le_trans hB2.size hF3.size
  have hB3 : Below w.heap.size w w3 := hB1.trans ((hB2.mono (by omega)).trans (hF3.below (Nat.le_trans (by omega) hB2.size) (by simp; omega)))
  have hB4 : Below w.heap.size w (w3.setRow w.heap.size (cells8 c).toArray) := hB3.trans (hF4.below (by omega) (by simp))
  have HLK := hid hl
  have HS2 := hid hS2
  have HS3 := hid hS3
  have HL3 := hid hL3
  have HZ := hid hB4
  have HR := hid (load109 hcl hr4)
  have HW1 := hid hw1
  clear hl hS2 hS3 hL3 hB4 hB3 hF4 hF3 hr2 hr3 hr4 hr13 hB2 hB1 hm hg hc hcl hq hsz hsz3 hr1
  go_enter Tryz.func54, Tryz.ntmps54
  go_upto_region 0 with fail
  refine wp_region_lit ?_
  refine wp_run (v := .pointer (some ⟨w.heap.size, 0, none⟩)) rfl rfl (run_alOp rfl (alloc109 w)) rfl ?_
  refine wp_y (v := (.bool false)) rfl rfl (y_assign rfl (by kernel_rfl) (by kernel_rfl)) rfl ?_
  try simp only [List.setIfInBounds_toArray, List.set_cons_zero, List.set_cons_succ]
  refine wp_end ?_
  rw [← HW1.out]
  go_upto_region 1 with fail
  refine wp_region_lit ?_
  refine wp_y (v := .pointer (some ⟨b, o, none⟩)) rfl rfl (y_move rfl (by kernel_rfl) (by kernel_rfl)) rfl ?_
  refine wp_y (v := .pointer (some ⟨b, o, none⟩)) rfl rfl (y_nil rfl (by kernel_rfl) (by kernel_rfl)) rfl ?_
  refine wp_y (v := .pointer (some ⟨b, o, none⟩)) rfl rfl (y_faddr rfl (by kernel_rfl) (by kernel_rfl) (fg85_0 (b) (o))) rfl ?_
  refine wp_y (v := .map m) rfl rfl (y_load rfl (by kernel_rfl) (by kernel_rfl) (fun w' h => by rw [h]; exact HC1.out)) rfl ?_
  refine wp_y (v := .int .i64 k) rfl rfl (y_move rfl (by kernel_rfl) (by kernel_rfl)) rfl ?_
  refine wp_run (v := .tuple #[V8 c, .bool q]) rfl rfl (run_lkOp rfl (by kernel_rfl) (by kernel_rfl) HLK.out) rfl ?_
  refine wp_y (v := .tuple #[V8 c, .bool q]) rfl rfl (y_move rfl (by kernel_rfl) (by kernel_rfl)) rfl ?_
  refine wp_y (v := V8 c) rfl rfl (y_ext rfl (by kernel_rfl) (by kernel_rfl) (ext2_0 (V8 c) (.bool q))) rfl ?_
  simp only [List.setIfInBounds_toArray, List.set_cons_zero, List.set_cons_succ]
  refine wp_y (v := .bool q) rfl rfl (y_ext rfl (by kernel_rfl) (by kernel_rfl) (ext2_1 (V8 c) (.bool q))) rfl ?_
  refine wp_run (v := .pointer (some ⟨w1.heap.size, 0, none⟩)) rfl rfl (run_alOp rfl (alloc109 w1)) rfl ?_
  refine wp_do rfl rfl (run_storeOp rfl (by kernel_rfl) (by kernel_rfl) HS2.out) ?_
  refine wp_y (v := .bool q) rfl rfl (y_assign rfl (by kernel_rfl) (by kernel_rfl)) rfl ?_
  try simp only [List.setIfInBounds_toArray, List.set_cons_zero, List.set_cons_succ]
  refine wp_end ?_
  go_upto_region 2 with fail
  refine wp_region_lit ?_
  refine wp_y (v := V8 c) rfl rfl (y_load rfl (by kernel_rfl) (by kernel_rfl) (fun w' h => by rw [h]; exact HL3.out)) rfl ?_
  refine wp_y (v := .bool q) rfl rfl (y_move rfl (by kernel_rfl) (by kernel_rfl)) rfl ?_
  refine wp_do rfl rfl (run_storeOp rfl (by kernel_rfl) (by kernel_rfl) HS3.out) ?_
  refine wp_y (v := .bool q) rfl rfl (y_assign rfl (by kernel_rfl) (by kernel_rfl)) rfl ?_
  try simp only [List.setIfInBounds_toArray, List.set_cons_zero, List.set_cons_succ]
  refine wp_end ?_
  go_wp2_with fail
  exact ret_pair rfl rfl rfl HR.out ⟨rfl, HZ.out⟩
/-- What a put leaves: the map that there was, or a new one. -/
def Put (um : Option Nat) (w w' : World) (p : Nat) (Q : Nat → Prop) : Prop := ∃ m, (um = some m ∨ um = none ∧ w.heap.size ≤ m) ∧ Q m ∧ Fr (p :: um.toList) w w'
set_option maxRecDepth 100000 in
set_option maxHeartbeats 1600000 in
theorem put_use {w : World} {p j : Nat} {l : List Bool} {kl kr : Int} {bg : Bool} {lf rt : Int} {um bm : Option Nat} {off : Int} {ks : List Int} {f : Int → Option Value} (h : Pg w p j l kl kr bg lf rt um bm off) (hm : Mo w um ks f) (k v : Int) :
    Calls Tryz.prog 93 #[.pointer (some ⟨p, 1030, none⟩), .int .i64 k, .int .u8 v] w fun e w' => e = .returned (.tuple #[]) ∧ Put um w w' p fun m => Pg w' p j l kl kr bg lf rt (some m) bm off ∧ Mk w' m (kput ks k) (upd f k (some (.int .u8 v))) := by
  have hc := h.cum
  have hp := h.lt
  cases um with
  | some m =>
    have hpm : p ≠ m := fun e => by
      obtain ⟨es, cl, hh, _⟩ := hm
      subst e
      rw [h.2] at hh; cases hh
    obtain ⟨w', hr, hM, hF⟩ := Mk.put hm under80 k (.int .u8 v)
    have HZ := hid (show Put (some m) w w' p fun m => Pg w' p j l kl kr bg lf rt (some m) bm off ∧ Mk w' m (kput ks k) (upd f k (some (.int .u8 v))) from ⟨m, .inl rfl, ⟨h.fr hF (by simpa using hpm), hM⟩, hF.mono (fun x hx => .inl (by simp at hx ⊢; exact .inr hx))⟩)
    have q1 : ∀ w, (binOp .eql 80 (.map (some m)) (.map none)).run Tryz.prog w = .ok (.bool false) w := fun w => run_eql_map_nil w _ _ _ (some m) under80
    clear hM hF hpm h hm
    go_enter Tryz.func93, Tryz.ntmps93
    go_wp2
    go_end0
    exact ⟨rfl, HZ.out⟩
  | none =>
    obtain ⟨rfl, rfl⟩ := hm
    have hmk := makeMap80 w
    have hB1 : Below w.heap.size w (w.alloc (.map #[] 0)) := (Below.refl _ _).alloc (Nat.le_refl _) _
    have hh : (w.alloc (.map #[] 0)).heap[w.heap.size]? = some (.map #[] 0) := (MapKept.heap_alloc w _).1
    have hP1 := h.below hB1 hp
    have hc1 := hP1.cum
    have hf1 := hP1.fz 1030
    have hP2 := hP1.sum (some w.heap.size)
    have hF2 := Fr.setCell (w.alloc (.map #[] 0)) p 1030 (.map (some w.heap.size))
    have hh2 := hF2.at hh (by simp; omega)
    have hc2 := hP2.cum
    generalize hw2 : (w.alloc (.map #[] 0)).setCell ⟨p, 1030, none⟩ (.map (some w.heap.size)) = w2 at *
    obtain ⟨w', hr, hM, hF⟩ := Mk.put ⟨_, _, hh2, Mv.empty⟩ under80 k (.int .u8 v)
    have HZ := hid (show Put none w w' p fun m => Pg w' p j l kl kr bg lf rt (some m) bm off ∧ Mk w' m (kput [] k) (upd (fun _ => none) k (some (.int .u8 v))) from ⟨w.heap.size, .inr ⟨rfl, Nat.le_refl _⟩, ⟨hP2.fr hF (by simp; omega), hM⟩, ((Fr.of_below (X := [p]) hB1).trans hF2 (fun x hx => .inl hx)).trans hF (fun x hx => .inr (by simp at hx; omega))⟩)
    have q1 : ∀ w, (binOp .eql 80 (.map none) (.map none)).run Tryz.prog w = .ok (.bool true) w := fun w => run_eql_map_nil w _ _ _ none under80
    clear hM hF hP1 hP2 hF2 hh hh2 hB1 h
    go_enter Tryz.func93, Tryz.ntmps93
    go_wp2
    go_end0
    exact ⟨rfl, HZ.out⟩
set_option maxRecDepth 100000 in
set_option maxHeartbeats 1600000 in
theorem put_con {w : World} {p j : Nat} {l : List Bool} {kl kr : Int} {bg : Bool} {lf rt : Int} {um bm : Option Nat} {off : Int} {ks : List Int} {f : Int → Option Value} (h : Pg w p j l kl kr bg lf rt um bm off) (hm : Mo w bm ks f) (k : Int) (c : List UInt8) (hcl : c.length = 896) :
    Calls Tryz.prog 94 #[.pointer (some ⟨p, 1031, none⟩), .int .i64 k, V8 c] w fun e w' => e = .returned (.tuple #[]) ∧ Put bm w w' p fun m => Pg w' p j l kl kr bg lf rt um (some m) off ∧ Mk w' m (kput ks k) (upd f k (some (V8 c))) := by
  have hp := h.lt
  obtain ⟨g, hg⟩ : ∃ g, g = w.heap.size := ⟨_, rfl⟩
  have hbx := box109 w c
  have hB0 : Below w.heap.size w (w.alloc (.cells (cells8 c).toArray 109)) := (Below.refl _ _).alloc (Nat.le_refl _) _
  have hr0 : Rw (w.alloc (.cells (cells8 c).toArray 109)) w.heap.size 109 c := heap_alloc_last w _
  have hsz : (w.alloc (.cells (cells8 c).toArray 109)).heap.size = w.heap.size + 1 := by show (w.heap.push _).size = _; simp
  generalize hw0 : w.alloc (.cells (cells8 c).toArray 109) = w0 at *
  rw [← hg] at hbx hr0
  have hP0 := h.below hB0 hp
  have hm0 := hm.below hB0
  have HCL := hid hcl
  have HBX := hid hbx
  cases bm with
  | some m =>
    have hpm : p ≠ m := fun e => by
      obtain ⟨es, cl, hh, _⟩ := hm
      subst e
      rw [h.2] at hh; cases hh
    have hd : Below w0.heap.size w0 w0.drew := (Below.refl _ _).drew
    obtain ⟨w', hr, hM, hF⟩ := Mk.put (Mk.below hm0 hd (Mk.lt hm0)) under83 k (V8 c)
    have hFw : Fr [m] w w' := (Fr.of_below (X := [m]) (hB0.trans (hd.mono (by omega)))).trans hF (fun x hx => .inl hx)
    have hPd := hP0.below hd (by omega)
    have HZ := hid (show Put (some m) w w' p fun m => Pg w' p j l kl kr bg lf rt um (some m) off ∧ Mk w' m (kput ks k) (upd f k (some (V8 c))) from ⟨m, .inl rfl, ⟨hPd.fr hF (by simpa using hpm), hM⟩, hFw.mono (fun x hx => .inl (by simp at hx ⊢; exact .inr hx))⟩)
    have HS3 := hid (show w0.drew.cell? ⟨p, 1031, none⟩ = some (.map (some m)) ∧ Rw w0.drew g 109 c from ⟨hPd.cbm, hr0.below hd hr0.lt⟩)
    have HUP := hid hr
    have q1 : ∀ w, (binOp .eql 83 (.map (some m)) (.map none)).run Tryz.prog w = .ok (.bool false) w := fun w => run_eql_map_nil w _ _ _ (some m) under83
    have hc := hP0.cbm
    clear hM hF hpm h hm hm0 hr hFw hPd hd hB0 hP0 hr0 hbx hw0 hsz hg
    go_enter Tryz.func94, Tryz.ntmps94
    go_upto_region 0 with fail
    refine wp_region_lit ?_
    refine wp_run (v := .pointer (some ⟨g, 0, none⟩)) rfl rfl (run_boxOp rfl (by kernel_rfl) HBX.out) rfl ?_
    try simp only [List.setIfInBounds_toArray, List.set_cons_zero, List.set_cons_succ]
    refine wp_end ?_
    go_wp2_with fail
    refine z_open (S := fun w' => w'.cell? ⟨p, 1031, none⟩ = some (.map (some m)) ∧ Rw w' g 109 c) 6 (by kernel_rfl) (by kernel_rfl) (fun _ _ _ _ _ h => h) (L := #[false, false, false, false, false, false, false]) (by kernel_rfl) ?_
    intro Q' hns hP hN
    have hS := HS3.out
    refine z_pure (i := 0) (v := .pointer (some ⟨p, 1031, none⟩)) hns rfl rfl rfl (by kernel_rfl) (by kernel_rfl) hP (y_move rfl (by kernel_rfl) (by kernel_rfl)) (fun _ => hS) rfl (L' := #[true, false, false, false, false, false, false]) (by kernel_rfl) ?_
    refine z_pure (i := 1) (v := .pointer (some ⟨p, 1031, none⟩)) hns rfl rfl rfl (by kernel_rfl) (by kernel_rfl) hP (y_nil rfl (by kernel_rfl) (by kernel_rfl)) (fun _ => hS) rfl (L' := #[true, true, false, false, false, false, false]) (by kernel_rfl) ?_
    refine z_pure (i := 2) (v := .pointer (some ⟨p, 1031, none⟩)) hns rfl rfl rfl (by kernel_rfl) (by kernel_rfl) hP (y_faddr rfl (by kernel_rfl) (by kernel_rfl) (fg85_0 (p) (1031))) (fun _ => hS) rfl (L' := #[true, true, true, false, false, false, false]) (by kernel_rfl) ?_
    refine z_read (i := 3) (v := .map (some m)) hns rfl (by kernel_rfl) rfl rfl (by kernel_rfl) (by kernel_rfl) hP (y_load rfl (by kernel_rfl) (by kernel_rfl) (fun w' h => load1 Tryz.isAgg83 h.1)) rfl hS rfl (L' := #[true, true, true, true, false, false, false]) (by kernel_rfl) ?_
    refine z_pure (i := 4) (v := .int .i64 k) hns rfl rfl rfl (by kernel_rfl) (by kernel_rfl) hP (y_move rfl (by kernel_rfl) (by kernel_rfl)) (fun _ => hS) rfl (L' := #[true, true, true, true, true, false, false]) (by kernel_rfl) ?_
    refine z_read (i := 5) (v := V8 c) hns rfl (by kernel_rfl) rfl rfl (by kernel_rfl) (by kernel_rfl) hP (y_load rfl (by kernel_rfl) (by kernel_rfl) (fun w' h => load109 HCL.out h.2)) rfl hS rfl (L' := #[true, true, true, true, true, true, false]) (by kernel_rfl) ?_
    refine z_last (by kernel_rfl) rfl rfl (by kernel_rfl) (run_mapUpdate rfl (by kernel_rfl) (by kernel_rfl) (by kernel_rfl) HUP.out) rfl (L' := #[true, true, true, true, true, true, true]) (by kernel_rfl) ?_
    try simp only [List.setIfInBounds_toArray, List.set_cons_zero, List.set_cons_succ]
    refine z_done (by kernel_rfl) ?_ _
    refine hN _ _ ?_
    clear hP hN hns
    go_wp2_with fail
    go_end0
    exact ⟨rfl, HZ.out⟩
  | none =>
    obtain ⟨rfl, rfl⟩ := hm
    have hmk := makeMap83 w0
    have hB1 : Below w0.heap.size w0 (w0.alloc (.map #[] 0)) := (Below.refl _ _).alloc (Nat.le_refl _) _
    have hh : (w0.alloc (.map #[] 0)).heap[w0.heap.size]? = some (.map #[] 0) := (MapKept.heap_alloc w0 _).1
    have hP1 := hP0.below hB1 (by omega)
    have hc0 := hP0.cbm
    have hc1 := hP1.cbm
    have hf1 := hP1.fz 1031
    have hP2 := hP1.sbm (some w0.heap.size)
    have hF2 := Fr.setCell (w0.alloc (.map #[] 0)) p 1031 (.map (some w0.heap.size))
    have hh2 := hF2.at hh (by simp; omega)
    have hr2 : Rw ((w0.alloc (.map #[] 0)).setCell ⟨p, 1031, none⟩ (.map (some w0.heap.size))) g 109 c := hF2.at (hr0.below hB1 hr0.lt) (by simp; omega)
    have hB2s : w0.heap.size ≤ ((w0.alloc (.map #[] 0)).setCell ⟨p, 1031, none⟩ (.map (some w0.heap.size))).heap.size := Nat.le_trans hB1.size hF2.size
    generalize hw2 : (w0.alloc (.map #[] 0)).setCell ⟨p, 1031, none⟩ (.map (some w0.heap.size)) = w2 at *
    generalize hm0' : w0.heap.size = m at *
    have hd : Below w2.heap.size w2 w2.drew := (Below.refl _ _).drew
    have hPd := hP2.below hd (by omega)
    obtain ⟨w', hr, hM, hF⟩ := Mk.put ⟨_, _, below_at hd hh2 (heap_lt hh2), Mv.empty⟩ under83 k (V8 c)
    have hF2' : Fr [p] w w2.drew := by
      have h1 : Fr [p] w w0 := Fr.of_below hB0
      have h2 : Fr [p] w (w0.alloc (.map #[] 0)) := h1.trans (Fr.of_below (X := []) (by rw [hm0']; exact hB1)) (by simp)
      have h3 := h2.trans hF2 (fun x hx => .inl hx)
      exact h3.trans (Fr.of_below (X := []) hd) (by simp)
    have HZ := hid (show Put none w w' p fun m => Pg w' p j l kl kr bg lf rt um (some m) off ∧ Mk w' m (kput [] k) (upd (fun _ => none) k (some (V8 c))) from ⟨m, .inr ⟨rfl, by omega⟩, ⟨hPd.fr hF (by simp; omega), hM⟩, hF2'.trans hF (fun x hx => .inr (by simp at hx; omega))⟩)
    have HS3 := hid (show w2.drew.cell? ⟨p, 1031, none⟩ = some (.map (some m)) ∧ Rw w2.drew g 109 c from ⟨hPd.cbm, hr2.below hd hr2.lt⟩)
    have HUP := hid hr
    have HW2 := hid hw2
    have q1 : ∀ w, (binOp .eql 83 (.map none) (.map none)).run Tryz.prog w = .ok (.bool true) w := fun w => run_eql_map_nil w _ _ _ none under83
    clear hM hF h hr hPd hd hB0 hP0 hP1 hP2 hF2 hh hh2 hr2 hB1 hr0 hbx hw0 hsz hF2' hB2s hm0' hg hw2
    go_enter Tryz.func94, Tryz.ntmps94
    go_upto_region 0 with fail
    refine wp_region_lit ?_
    refine wp_run (v := .pointer (some ⟨g, 0, none⟩)) rfl rfl (run_boxOp rfl (by kernel_rfl) HBX.out) rfl ?_
    try simp only [List.setIfInBounds_toArray, List.set_cons_zero, List.set_cons_succ]
    refine wp_end ?_
    go_wp2_with fail
    rw [HW2.out]
    refine z_open (S := fun w' => w'.cell? ⟨p, 1031, none⟩ = some (.map (some m)) ∧ Rw w' g 109 c) 6 (by kernel_rfl) (by kernel_rfl) (fun _ _ _ _ _ h => h) (L := #[false, false, false, false, false, false, false]) (by kernel_rfl) ?_
    intro Q' hns hP hN
    have hS := HS3.out
    refine z_pure (i := 0) (v := .pointer (some ⟨p, 1031, none⟩)) hns rfl rfl rfl (by kernel_rfl) (by kernel_rfl) hP (y_move rfl (by kernel_rfl) (by kernel_rfl)) (fun _ => hS) rfl (L' := #[true, false, false, false, false, false, false]) (by kernel_rfl) ?_
    refine z_pure (i := 1) (v := .pointer (some ⟨p, 1031, none⟩)) hns rfl rfl rfl (by kernel_rfl) (by kernel_rfl) hP (y_nil rfl (by kernel_rfl) (by kernel_rfl)) (fun _ => hS) rfl (L' := #[true, true, false, false, false, false, false]) (by kernel_rfl) ?_
    refine z_pure (i := 2) (v := .pointer (some ⟨p, 1031, none⟩)) hns rfl rfl rfl (by kernel_rfl) (by kernel_rfl) hP (y_faddr rfl (by kernel_rfl) (by kernel_rfl) (fg85_0 (p) (1031))) (fun _ => hS) rfl (L' := #[true, true, true, false, false, false, false]) (by kernel_rfl) ?_
    refine z_read (i := 3) (v := .map (some m)) hns rfl (by kernel_rfl) rfl rfl (by kernel_rfl) (by kernel_rfl) hP (y_load rfl (by kernel_rfl) (by kernel_rfl) (fun w' h => load1 Tryz.isAgg83 h.1)) rfl hS rfl (L' := #[true, true, true, true, false, false, false]) (by kernel_rfl) ?_
    refine z_pure (i := 4) (v := .int .i64 k) hns rfl rfl rfl (by kernel_rfl) (by kernel_rfl) hP (y_move rfl (by kernel_rfl) (by kernel_rfl)) (fun _ => hS) rfl (L' := #[true, true, true, true, true, false, false]) (by kernel_rfl) ?_
    refine z_read (i := 5) (v := V8 c) hns rfl (by kernel_rfl) rfl rfl (by kernel_rfl) (by kernel_rfl) hP (y_load rfl (by kernel_rfl) (by kernel_rfl) (fun w' h => load109 HCL.out h.2)) rfl hS rfl (L' := #[true, true, true, true, true, true, false]) (by kernel_rfl) ?_
    refine z_last (by kernel_rfl) rfl rfl (by kernel_rfl) (run_mapUpdate rfl (by kernel_rfl) (by kernel_rfl) (by kernel_rfl) HUP.out) rfl (L' := #[true, true, true, true, true, true, true]) (by kernel_rfl) ?_
    try simp only [List.setIfInBounds_toArray, List.set_cons_zero, List.set_cons_succ]
    refine z_done (by kernel_rfl) ?_ _
    refine hN _ _ ?_
    clear hP hN hns
    go_wp2_with fail
    go_end0
    exact ⟨rfl, HZ.out⟩
set_option maxRecDepth 100000 in
set_option maxHeartbeats 800000 in
theorem drop_con {w : World} {p j : Nat} {l : List Bool} {kl kr : Int} {bg : Bool} {lf rt : Int} {um bm : Option Nat} {off : Int} {ks : List Int} {f : Int → Option Value} (h : Pg w p j l kl kr bg lf rt um bm off) (hm : Mo w bm ks f) (k : Int) :
    Calls Tryz.prog 107 #[.pointer (some ⟨p, 1031, none⟩), .int .i64 k] w fun e w' => e = .returned (.tuple #[]) ∧ ∃ ks', Pg w' p j l kl kr bg lf rt um bm off ∧ Mo w' bm ks' (upd f k none) ∧ (∀ x, x ∈ ks' ↔ x ≠ k ∧ x ∈ ks) ∧ Fr bm.toList w w' := by
  have hc := h.cbm
  obtain ⟨w', ks', hr, hM, hk, hF⟩ := hm.drop (T2 := 3) under83 0 k
  have hpm : p ∉ bm.toList := fun hx => by
    cases bm with
    | none => simp at hx
    | some m =>
      obtain ⟨es, cl, hh, _⟩ := hm
      simp at hx
      subst hx
      rw [h.2] at hh; cases hh
  have HZ := hid (show ∃ ks', Pg w' p j l kl kr bg lf rt um bm off ∧ Mo w' bm ks' (upd f k none) ∧ (∀ x, x ∈ ks' ↔ x ≠ k ∧ x ∈ ks) ∧ Fr bm.toList w w' from ⟨ks', h.fr hF hpm, hM, hk, hF⟩)
  clear hM hk hF hpm h hm
  go_enter Tryz.func107, Tryz.ntmps107
  go_wp2
  go_end0
  exact ⟨rfl, HZ.out⟩
end Go.Proofs.YtdbgccgjdgomkaaGreatDoor
