/- A pager in memory: its cells, and the walks of its small methods. -/
import Derived.Test.YtdbgccgjdgomkaaGreatDoorPHeadMC
namespace Go.Proofs.YtdbgccgjdgomkaaGreatDoor
open Go Go.RowKit

/-- A state's cells. -/
def stC (l : List Bool) (kl kr : Int) : List Value := .int .i64 l.length :: .int .i64 kl :: .int .i64 kr :: cells8 (useB l)
theorem stC_len (l : List Bool) (kl kr : Int) (h : l.length ≤ 1023) : (stC l kl kr).length = 1026 := by simp only [stC, List.length_cons, cells8_len, useB_len l h]
/-- A change's cells. -/
def chC (bg : Bool) (lf rt : Int) (um bm : Option Nat) : List Value := [.bool bg, .int .i64 lf, .int .i64 rt, .map um, .map bm]
/-- A pager's cells. -/
def pgC (j : Nat) (l : List Bool) (kl kr : Int) (bg : Bool) (lf rt : Int) (um bm : Option Nat) (off : Int) : List Value := .pointer (some ⟨j, 0, none⟩) :: (stC l kl kr ++ (chC bg lf rt um bm ++ [Value.int .i64 off]))
/-- A pager's own block. -/
def Pg (w : World) (p j : Nat) (l : List Bool) (kl kr : Int) (bg : Bool) (lf rt : Int) (um bm : Option Nat) (off : Int) : Prop :=
  l.length ≤ 1023 ∧ w.heap[p]? = some (.cells (pgC j l kl kr bg lf rt um bm off).toArray 90 (0, 0))
theorem pgC_tail (j : Nat) {l : List Bool} (hl : l.length ≤ 1023) (kl kr : Int) (bg : Bool) (lf rt : Int) (um bm : Option Nat) (off : Int) (k : Nat) : (pgC j l kl kr bg lf rt um bm off)[1027 + k]? = (chC bg lf rt um bm ++ [Value.int .i64 off])[k]? := by
  unfold pgC
  rw [show 1027 + k = (1026 + k) + 1 by omega, List.getElem?_cons_succ, List.getElem?_append_right (by rw [stC_len _ _ _ hl]; omega), stC_len _ _ _ hl, Nat.add_sub_cancel_left]
theorem pgC_set (j : Nat) {l : List Bool} (hl : l.length ≤ 1023) (kl kr : Int) (bg : Bool) (lf rt : Int) (um bm : Option Nat) (off : Int) (k : Nat) (v : Value) : (pgC j l kl kr bg lf rt um bm off).set (1027 + k) v = .pointer (some ⟨j, 0, none⟩) :: (stC l kl kr ++ (chC bg lf rt um bm ++ [Value.int .i64 off]).set k v) := by
  unfold pgC
  rw [show 1027 + k = (1026 + k) + 1 by omega, List.set_cons_succ, List.set_append_right _ _ (by rw [stC_len _ _ _ hl]; omega), stC_len _ _ _ hl, Nat.add_sub_cancel_left]
section
variable {w : World} {p j : Nat} {l : List Bool} {kl kr : Int} {bg : Bool} {lf rt : Int} {um bm : Option Nat} {off : Int} (h : Pg w p j l kl kr bg lf rt um bm off)
include h
theorem Pg.c0 : w.cell? ⟨p, 0, none⟩ = some (.pointer (some ⟨j, 0, none⟩)) := cell_at h.2 0 rfl
theorem Pg.c1 : w.cell? ⟨p, 1, none⟩ = some (.int .i64 l.length) := cell_at h.2 1 rfl
theorem Pg.c2 : w.cell? ⟨p, 2, none⟩ = some (.int .i64 kl) := cell_at h.2 2 rfl
theorem Pg.c3 : w.cell? ⟨p, 3, none⟩ = some (.int .i64 kr) := cell_at h.2 3 rfl
theorem Pg.cu (i : Nat) (hi : i < l.length) : w.cell? ⟨p, 4 + i, none⟩ = some (.int .u8 (at8 (useB l) i)) := by
  refine cell_at h.2 (4 + i) ?_
  rw [List.getElem?_toArray]
  unfold pgC stC
  have hl := h.1
  rw [show 4 + i = (((i + 1) + 1) + 1) + 1 by omega, List.getElem?_cons_succ, List.cons_append, List.getElem?_cons_succ, List.cons_append, List.getElem?_cons_succ, List.cons_append, List.getElem?_cons_succ, List.getElem?_append_left (by rw [cells8_len, useB_len _ hl]; omega)]
  exact cells8_get _ i (by rw [useB_len _ hl]; omega)
theorem Pg.ct (k : Nat) (v : Value) (hv : (chC bg lf rt um bm ++ [Value.int .i64 off])[k]? = some v) : w.cell? ⟨p, 1027 + k, none⟩ = some v := by
  refine cell_at h.2 _ ?_
  rw [List.getElem?_toArray, pgC_tail j h.1]
  exact hv
theorem Pg.cbg : w.cell? ⟨p, 1027, none⟩ = some (.bool bg) := h.ct 0 _ rfl
theorem Pg.clf : w.cell? ⟨p, 1028, none⟩ = some (.int .i64 lf) := h.ct 1 _ rfl
theorem Pg.crt : w.cell? ⟨p, 1029, none⟩ = some (.int .i64 rt) := h.ct 2 _ rfl
theorem Pg.cum : w.cell? ⟨p, 1030, none⟩ = some (.map um) := h.ct 3 _ rfl
theorem Pg.cbm : w.cell? ⟨p, 1031, none⟩ = some (.map bm) := h.ct 4 _ rfl
theorem Pg.coff : w.cell? ⟨p, 1032, none⟩ = some (.int .i64 off) := h.ct 5 _ rfl
theorem Pg.fz (i : Nat) : w.frozen? ⟨p, i, none⟩ = false := open_at h.2 i
theorem Pg.lt : p < w.heap.size := heap_lt h.2
theorem Pg.heap_set (k : Nat) (v : Value) : (w.setCell ⟨p, 1027 + k, none⟩ v).heap[p]? = some (.cells (.pointer (some ⟨j, 0, none⟩) :: (stC l kl kr ++ (chC bg lf rt um bm ++ [Value.int .i64 off]).set k v)).toArray 90 (0, 0)) := by
  rw [heap_setCell h.2]
  rw [List.setIfInBounds_toArray, pgC_set j h.1]
theorem Pg.sbg (b : Bool) : Pg (w.setCell ⟨p, 1027, none⟩ (.bool b)) p j l kl kr b lf rt um bm off := ⟨h.1, h.heap_set 0 _⟩
theorem Pg.slf (x : Int) : Pg (w.setCell ⟨p, 1028, none⟩ (.int .i64 x)) p j l kl kr bg x rt um bm off := ⟨h.1, h.heap_set 1 _⟩
theorem Pg.srt (x : Int) : Pg (w.setCell ⟨p, 1029, none⟩ (.int .i64 x)) p j l kl kr bg lf x um bm off := ⟨h.1, h.heap_set 2 _⟩
theorem Pg.sum (x : Option Nat) : Pg (w.setCell ⟨p, 1030, none⟩ (.map x)) p j l kl kr bg lf rt x bm off := ⟨h.1, h.heap_set 3 _⟩
theorem Pg.sbm (x : Option Nat) : Pg (w.setCell ⟨p, 1031, none⟩ (.map x)) p j l kl kr bg lf rt um x off := ⟨h.1, h.heap_set 4 _⟩
theorem Pg.soff (x : Int) : Pg (w.setCell ⟨p, 1032, none⟩ (.int .i64 x)) p j l kl kr bg lf rt um bm x := ⟨h.1, h.heap_set 5 _⟩
theorem Pg.fr {X : List Nat} {w' : World} (hF : Fr X w w') (hX : p ∉ X) : Pg w' p j l kl kr bg lf rt um bm off := ⟨h.1, hF.at h.2 hX⟩
theorem Pg.below {B : Nat} {w' : World} (hF : Below B w w') (hX : p < B) : Pg w' p j l kl kr bg lf rt um bm off := ⟨h.1, below_at hF h.2 hX⟩
end
theorem at8_useB (l : List Bool) (i : Nat) (hi : i < l.length) : at8 (useB l) i = if l.getD i false then 1 else 0 := by
  unfold at8
  rw [useB_get l i hi]
  cases l.getD i false <;> rfl

set_option maxRecDepth 100000 in
set_option maxHeartbeats 800000 in
theorem ready_any {w : World} {p j : Nat} {l : List Bool} {kl kr : Int} {bg : Bool} {lf rt : Int} {um bm : Option Nat} {off : Int} (h : Pg w p j l kl kr bg lf rt um bm off) :
    Calls Tryz.prog 50 #[.pointer (some ⟨p, 0, none⟩)] w fun e w' => e = .returned (.int .i64 off) ∧ w' = w := by
  have h5 := h.coff
  clear h
  go_enter Tryz.func50, Tryz.ntmps50
  go_wp2
  go_ret
  exact ⟨rfl, rfl⟩
set_option maxHeartbeats 400000 in
theorem ready_nil (w : World) : Calls Tryz.prog 50 #[.pointer none] w fun e w' => e = .returned (.int .i64 1) ∧ w' = w := by
  go_enter Tryz.func50, Tryz.ntmps50
  go_wp2
  go_ret
  exact ⟨rfl, rfl⟩
set_option maxHeartbeats 800000 in
theorem pages_any {w : World} {p j : Nat} {l : List Bool} {kl kr : Int} {bg : Bool} {lf rt : Int} {um bm : Option Nat} {off : Int} (h : Pg w p j l kl kr bg lf rt um bm off) :
    Calls Tryz.prog 29 #[.pointer (some ⟨p, 0, none⟩)] w fun e w' => e = .returned (.int .i64 l.length) ∧ w' = w := by
  have h5 := h.c1
  clear h
  generalize l.length = n at *
  go_enter Tryz.func29, Tryz.ntmps29
  go_wp2
  go_ret
  exact ⟨rfl, rfl⟩
set_option maxHeartbeats 800000 in
theorem left_any {w : World} {p j : Nat} {l : List Bool} {kl kr : Int} {bg : Bool} {lf rt : Int} {um bm : Option Nat} {off : Int} (h : Pg w p j l kl kr bg lf rt um bm off) :
    Calls Tryz.prog 26 #[.pointer (some ⟨p, 0, none⟩)] w fun e w' => e = .returned (.int .i64 lf) ∧ w' = w := by
  have h5 := h.clf
  clear h
  go_enter Tryz.func26, Tryz.ntmps26
  go_wp2
  go_ret
  exact ⟨rfl, rfl⟩
set_option maxHeartbeats 800000 in
theorem root_any {w : World} {p j : Nat} {l : List Bool} {kl kr : Int} {bg : Bool} {lf rt : Int} {um bm : Option Nat} {off : Int} (h : Pg w p j l kl kr bg lf rt um bm off) :
    Calls Tryz.prog 35 #[.pointer (some ⟨p, 0, none⟩)] w fun e w' => e = .returned (.int .i64 rt) ∧ w' = w := by
  have h5 := h.crt
  clear h
  go_enter Tryz.func35, Tryz.ntmps35
  go_wp2
  go_ret
  exact ⟨rfl, rfl⟩
/-- The errors that are the disk's. -/
def isOff (e : Int) : Bool := e == 40 || e == 41 || e == 42 || e == 43 || e == 44
set_option maxHeartbeats 1600000 in
theorem ptold_ok {w : World} (p : Nat) : Calls Tryz.prog 57 #[.pointer (some ⟨p, 0, none⟩), .int .i64 0] w fun e w' => e = .returned (.int .i64 0) ∧ w' = w := by
  go_enter Tryz.func57, Tryz.ntmps57
  go_wp2
  go_ret
  exact ⟨rfl, rfl⟩
set_option maxHeartbeats 1600000 in
theorem ptold_off {w : World} {p j : Nat} {l : List Bool} {kl kr : Int} {bg : Bool} {lf rt : Int} {um bm : Option Nat} {off : Int} (h : Pg w p j l kl kr bg lf rt um bm off) :
    Calls Tryz.prog 57 #[.pointer (some ⟨p, 0, none⟩), .int .i64 43] w fun e w' => e = .returned (.int .i64 43) ∧ Pg w' p j l kl kr bg lf rt um bm 43 ∧ Fr [p] w w' := by
  have h5 := h.coff
  have f5 := h.fz 1032
  have HZ := hid (And.intro (h.soff 43) (Fr.setCell w p 1032 (.int .i64 43)))
  clear h
  go_enter Tryz.func57, Tryz.ntmps57
  go_wp2
  go_ret
  exact ⟨rfl, HZ.out⟩
end Go.Proofs.YtdbgccgjdgomkaaGreatDoor
