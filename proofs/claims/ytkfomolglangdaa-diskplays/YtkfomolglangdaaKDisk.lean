/- The walks of disk's small methods. -/
import Derived.Test.YtkfomolglangdaaKHeld
namespace Go.Proofs.Ytkfomolglangdaa
open Go Go.RowKit

def dcells (vn vk : Value) (m : Nat) (ops : Int) (cut : Int) (gone : Bool) : Array Value := #[vn, vk, .map (some m), .int .i64 ops, .int .i64 cut, .bool gone]
/-- A disk's own block. -/
def Dc (w : World) (p : Nat) (vn vk : Value) (m : Nat) (ops : Int) (cut : Int) (gone : Bool) : Prop := w.heap[p]? = some (.cells (dcells vn vk m ops cut gone) 67 (0, 0))
section
variable {w : World} {p : Nat} {vn vk : Value} {m : Nat} {ops : Int} {cut : Int} {gone : Bool} (h : Dc w p vn vk m ops cut gone)
include h
theorem Dc.c0 : w.cell? ⟨p, 0, none⟩ = some vn := cell_at h 0 rfl
theorem Dc.c1 : w.cell? ⟨p, 1, none⟩ = some vk := cell_at h 1 rfl
theorem Dc.c2 : w.cell? ⟨p, 2, none⟩ = some (.map (some m)) := cell_at h 2 rfl
theorem Dc.c3 : w.cell? ⟨p, 3, none⟩ = some (.int .i64 ops) := cell_at h 3 rfl
theorem Dc.c4 : w.cell? ⟨p, 4, none⟩ = some (.int .i64 cut) := cell_at h 4 rfl
theorem Dc.c5 : w.cell? ⟨p, 5, none⟩ = some (.bool gone) := cell_at h 5 rfl
theorem Dc.f (i : Nat) : w.frozen? ⟨p, i, none⟩ = false := open_at h i
end
theorem Dc.fr {X : List Nat} {w w' : World} {p : Nat} {vn vk : Value} {m : Nat} {ops : Int} {cut : Int} {gone : Bool} (h : Dc w p vn vk m ops cut gone) (hF : Fr X w w') (hX : p ∉ X) : Dc w' p vn vk m ops cut gone := hF.at h hX

theorem fa67_0 (b : Nat) (w : World) : (Instr.fieldAt 67 (.pointer (some ⟨b, 0, none⟩)) 0).run Try.prog w = .ok (.pointer (some ⟨b, 0, none⟩)) w := by go_simp
theorem fa67_1 (b : Nat) (w : World) : (Instr.fieldAt 67 (.pointer (some ⟨b, 0, none⟩)) 1).run Try.prog w = .ok (.pointer (some ⟨b, 1, none⟩)) w := by go_simp
theorem fa67_2 (b : Nat) (w : World) : (Instr.fieldAt 67 (.pointer (some ⟨b, 0, none⟩)) 2).run Try.prog w = .ok (.pointer (some ⟨b, 2, none⟩)) w := by go_simp
theorem fa67_3 (b : Nat) (w : World) : (Instr.fieldAt 67 (.pointer (some ⟨b, 0, none⟩)) 3).run Try.prog w = .ok (.pointer (some ⟨b, 3, none⟩)) w := by go_simp
theorem fa67_4 (b : Nat) (w : World) : (Instr.fieldAt 67 (.pointer (some ⟨b, 0, none⟩)) 4).run Try.prog w = .ok (.pointer (some ⟨b, 4, none⟩)) w := by go_simp
theorem fa67_5 (b : Nat) (w : World) : (Instr.fieldAt 67 (.pointer (some ⟨b, 0, none⟩)) 5).run Try.prog w = .ok (.pointer (some ⟨b, 5, none⟩)) w := by go_simp

theorem load1 {t : TypeId} (ha : ∀ w, (isAgg t).run Try.prog w = .ok false w) {w : World} {p i : Nat} {v : Value} (hc : w.cell? ⟨p, i, none⟩ = some v) : (Instr.loadAt t (.pointer (some ⟨p, i, none⟩))).run Try.prog w = .ok v w := by
  simp only [Instr.loadAt, Instr.sureAddr, Sem.run_bind, Sem.run_pure, Result.andThen, loadVar, ha]
  go_simp
theorem store1 {t : TypeId} (hz : ∀ w, (Go.sizeOf t).run Try.prog w = .ok 1 w) {w : World} {p i : Nat} {old : Value} (v : Value) (h1 : v.oneCell' = true) (hv : v.cells = #[v]) (hc : w.cell? ⟨p, i, none⟩ = some old) (hf : w.frozen? ⟨p, i, none⟩ = false) :
    (Instr.storeAt t (.pointer (some ⟨p, i, none⟩)) v).run Try.prog w = .ok () (w.setCell ⟨p, i, none⟩ v) := by
  simp only [Instr.storeAt, Instr.sureAddr, Sem.run_bind, Sem.run_pure, Result.andThen, storeVar, hz, hv]
  simp [storeCells, add_lit, run_store _ w _ v _ h1, hc, hf]

def lost (cut ops : Int) : Bool := decide (0 ≤ cut) && decide (cut ≤ ops)
theorem SL (w : World) (p : Nat) (cut ops : Int) (r : Bool) (h : w.cell? ⟨p, 4, none⟩ = some (.int .i64 cut) ∧ w.cell? ⟨p, 3, none⟩ = some (.int .i64 ops)) :
    (w.drew.setCell ⟨p, 5, none⟩ (.bool r)).cell? ⟨p, 4, none⟩ = some (.int .i64 cut) ∧ (w.drew.setCell ⟨p, 5, none⟩ (.bool r)).cell? ⟨p, 3, none⟩ = some (.int .i64 ops) := by
  rw [World.cell?_setCell_other _ _ _ _ (by simp), World.cell?_setCell_other _ _ _ _ (by simp)]
  exact h

set_option maxRecDepth 100000 in
set_option maxHeartbeats 800000 in
theorem loses_any (w : World) (p : Nat) (vn vk : Value) (m : Nat) (ops : Int) (cut : Int) (gone : Bool) (h : Dc w p vn vk m ops cut gone) :
    Calls Try.prog 39 #[.pointer (some ⟨p, 0, none⟩)] w fun e w' => e = .returned (.bool (lost cut ops)) ∧ Dc w' p vn vk m ops cut (lost cut ops) ∧ Fr [p] w w' := by
  have h3 := h.c3
  have h4 := h.c4
  have h5 := h.c5
  have f5 := h.f 5
  have H := hid h
  clear h
  by_cases h0 : 0 ≤ cut
  · by_cases h1 : cut ≤ ops
    · skip
      go_enter Try.func39, Try.ntmps39
      go_wp2_with fail
      refine h_openL (S := fun w => w.cell? ⟨p, 4, none⟩ = some (.int .i64 cut) ∧ w.cell? ⟨p, 3, none⟩ = some (.int .i64 ops)) (by kernel_rfl) (by kernel_rfl) (fun _ _ _ _ _ h => h) (L := #[false, false, false, false, false, false, false, false, false, false, false, false, false, false, false, false, false, false, false, false]) (by kernel_rfl) ?_
      intro Q' hns hP hN
      have hS := (show w.drew.cell? ⟨p, 4, none⟩ = some (.int .i64 cut) ∧ w.drew.cell? ⟨p, 3, none⟩ = some (.int .i64 ops) from ⟨h4, h3⟩)
      refine h_takeL (i := 0) (v := .pointer (some ⟨p, 0, none⟩)) hns rfl rfl (by kernel_rfl) (by kernel_rfl) hP (y_move rfl (by kernel_rfl) (by kernel_rfl)) hS rfl (L' := #[true, false, false, false, false, false, false, false, false, false, false, false, false, false, false, false, false, false, false, false]) (by kernel_rfl) ?_
      refine h_takeL (i := 1) (v := .pointer (some ⟨p, 0, none⟩)) hns rfl rfl (by kernel_rfl) (by kernel_rfl) hP (y_move rfl (by kernel_rfl) (by kernel_rfl)) hS rfl (L' := #[true, true, false, false, false, false, false, false, false, false, false, false, false, false, false, false, false, false, false, false]) (by kernel_rfl) ?_
      refine h_takeL (i := 2) (v := .pointer (some ⟨p, 0, none⟩)) hns rfl rfl (by kernel_rfl) (by kernel_rfl) hP (y_nil rfl (by kernel_rfl) (by kernel_rfl)) hS rfl (L' := #[true, true, true, false, false, false, false, false, false, false, false, false, false, false, false, false, false, false, false, false]) (by kernel_rfl) ?_
      refine h_takeL (i := 3) (v := .pointer (some ⟨p, 4, none⟩)) hns rfl rfl (by kernel_rfl) (by kernel_rfl) hP (y_faddr rfl (by kernel_rfl) (by kernel_rfl) (fa67_4 (p))) hS rfl (L' := #[true, true, true, true, false, false, false, false, false, false, false, false, false, false, false, false, false, false, false, false]) (by kernel_rfl) ?_
      refine h_takeL (i := 4) (v := .int .i64 cut) hns rfl rfl (by kernel_rfl) (by kernel_rfl) hP (y_load rfl (by kernel_rfl) (by kernel_rfl) (fun w h => load1 Try.isAgg3 h.1)) hS rfl (L' := #[true, true, true, true, true, false, false, false, false, false, false, false, false, false, false, false, false, false, false, false]) (by kernel_rfl) ?_
      refine h_takeL (i := 5) (v := (.bool true)) hns rfl rfl (by kernel_rfl) (by kernel_rfl) hP (y_leq rfl (by kernel_rfl) (by kernel_rfl) (by kernel_rfl) (decide_eq_true h0)) hS rfl (L' := #[true, true, true, true, true, true, false, false, false, false, false, false, false, false, false, false, false, false, false, false]) (by kernel_rfl) ?_
      refine h_takeL (i := 6) (v := (.bool true)) hns rfl rfl (by kernel_rfl) (by kernel_rfl) hP (y_move rfl (by kernel_rfl) (by kernel_rfl)) hS rfl (L' := #[true, true, true, true, true, true, true, false, false, false, false, false, false, false, false, false, false, false, false, false]) (by kernel_rfl) ?_
      simp only [List.setIfInBounds_toArray, List.set_cons_zero, List.set_cons_succ]
      refine h_takeL (i := 7) (v := .pointer (some ⟨p, 0, none⟩)) hns rfl rfl (by kernel_rfl) (by kernel_rfl) hP (y_move rfl (by kernel_rfl) (by kernel_rfl)) hS rfl (L' := #[true, true, true, true, true, true, true, true, false, false, false, false, false, false, false, false, false, false, false, false]) (by kernel_rfl) ?_
      refine h_takeL (i := 8) (v := .pointer (some ⟨p, 0, none⟩)) hns rfl rfl (by kernel_rfl) (by kernel_rfl) hP (y_nil rfl (by kernel_rfl) (by kernel_rfl)) hS rfl (L' := #[true, true, true, true, true, true, true, true, true, false, false, false, false, false, false, false, false, false, false, false]) (by kernel_rfl) ?_
      refine h_takeL (i := 9) (v := .pointer (some ⟨p, 4, none⟩)) hns rfl rfl (by kernel_rfl) (by kernel_rfl) hP (y_faddr rfl (by kernel_rfl) (by kernel_rfl) (fa67_4 (p))) hS rfl (L' := #[true, true, true, true, true, true, true, true, true, true, false, false, false, false, false, false, false, false, false, false]) (by kernel_rfl) ?_
      refine h_takeL (i := 10) (v := .int .i64 cut) hns rfl rfl (by kernel_rfl) (by kernel_rfl) hP (y_load rfl (by kernel_rfl) (by kernel_rfl) (fun w h => load1 Try.isAgg3 h.1)) hS rfl (L' := #[true, true, true, true, true, true, true, true, true, true, true, false, false, false, false, false, false, false, false, false]) (by kernel_rfl) ?_
      refine h_takeL (i := 11) (v := .pointer (some ⟨p, 0, none⟩)) hns rfl rfl (by kernel_rfl) (by kernel_rfl) hP (y_move rfl (by kernel_rfl) (by kernel_rfl)) hS rfl (L' := #[true, true, true, true, true, true, true, true, true, true, true, true, false, false, false, false, false, false, false, false]) (by kernel_rfl) ?_
      refine h_takeL (i := 12) (v := .pointer (some ⟨p, 0, none⟩)) hns rfl rfl (by kernel_rfl) (by kernel_rfl) hP (y_nil rfl (by kernel_rfl) (by kernel_rfl)) hS rfl (L' := #[true, true, true, true, true, true, true, true, true, true, true, true, true, false, false, false, false, false, false, false]) (by kernel_rfl) ?_
      refine h_takeL (i := 13) (v := .pointer (some ⟨p, 3, none⟩)) hns rfl rfl (by kernel_rfl) (by kernel_rfl) hP (y_faddr rfl (by kernel_rfl) (by kernel_rfl) (fa67_3 (p))) hS rfl (L' := #[true, true, true, true, true, true, true, true, true, true, true, true, true, true, false, false, false, false, false, false]) (by kernel_rfl) ?_
      refine h_takeL (i := 14) (v := .int .i64 ops) hns rfl rfl (by kernel_rfl) (by kernel_rfl) hP (y_load rfl (by kernel_rfl) (by kernel_rfl) (fun w h => load1 Try.isAgg3 h.2)) hS rfl (L' := #[true, true, true, true, true, true, true, true, true, true, true, true, true, true, true, false, false, false, false, false]) (by kernel_rfl) ?_
      simp only [List.setIfInBounds_toArray, List.set_cons_zero, List.set_cons_succ]
      refine h_takeL (i := 15) (v := (.bool true)) hns rfl rfl (by kernel_rfl) (by kernel_rfl) hP (y_leq rfl (by kernel_rfl) (by kernel_rfl) (by kernel_rfl) (decide_eq_true h1)) hS rfl (L' := #[true, true, true, true, true, true, true, true, true, true, true, true, true, true, true, true, false, false, false, false]) (by kernel_rfl) ?_
      refine h_takeL (i := 16) (v := (.bool true)) hns rfl rfl (by kernel_rfl) (by kernel_rfl) hP (y_pick (b := true) rfl (by kernel_rfl) (by kernel_rfl) (by kernel_rfl)) hS rfl (L' := #[true, true, true, true, true, true, true, true, true, true, true, true, true, true, true, true, true, false, false, false]) (by kernel_rfl) ?_
      refine h_takeL (i := 17) (v := .pointer (some ⟨p, 0, none⟩)) hns rfl rfl (by kernel_rfl) (by kernel_rfl) hP (y_nil rfl (by kernel_rfl) (by kernel_rfl)) hS rfl (L' := #[true, true, true, true, true, true, true, true, true, true, true, true, true, true, true, true, true, true, false, false]) (by kernel_rfl) ?_
      refine h_takeL (i := 18) (v := .pointer (some ⟨p, 5, none⟩)) hns rfl rfl (by kernel_rfl) (by kernel_rfl) hP (y_faddr rfl (by kernel_rfl) (by kernel_rfl) (fa67_5 (p))) hS rfl (L' := #[true, true, true, true, true, true, true, true, true, true, true, true, true, true, true, true, true, true, true, false]) (by kernel_rfl) ?_
      refine h_skipL (i := 19) (by kernel_rfl) rfl rfl (by kernel_rfl) (run_storeOp rfl (by kernel_rfl) (by kernel_rfl) (store1 (t := 4) Try.sizeOf4 (.bool true) rfl rfl h5 f5)) (SL w p cut ops true ⟨h4, h3⟩) (L' := #[true, true, true, true, true, true, true, true, true, true, true, true, true, true, true, true, true, true, true, true]) (by kernel_rfl) ?_
      simp only [List.setIfInBounds_toArray, List.set_cons_zero, List.set_cons_succ]
      refine wpAnyH_done (by kernel_rfl) ?_ _
      refine hN _ _ ?_
      clear hP hN hns
      have hl : lost cut ops = true := by unfold lost; simp; omega
      have hD : Dc (w.drew.setCell ⟨p, 5, none⟩ (.bool true)) p vn vk m ops cut true := heap_setCell (w := w.drew) H.out 5 (.bool true)
      have hF : Fr [p] w (w.drew.setCell ⟨p, 5, none⟩ (.bool true)) := (Fr.setCell w.drew p 5 _).undrew
      generalize w.drew.setCell ⟨p, 5, none⟩ (.bool true) = w1 at hD hF ⊢
      have c5 := hD.c5
      clear hS h3 h4 h5 f5
      go_wp2
      go_ret
      rw [hl]
      exact ⟨rfl, hD, hF⟩
    · skip
      go_enter Try.func39, Try.ntmps39
      go_wp2_with fail
      refine h_openL (S := fun w => w.cell? ⟨p, 4, none⟩ = some (.int .i64 cut) ∧ w.cell? ⟨p, 3, none⟩ = some (.int .i64 ops)) (by kernel_rfl) (by kernel_rfl) (fun _ _ _ _ _ h => h) (L := #[false, false, false, false, false, false, false, false, false, false, false, false, false, false, false, false, false, false, false, false]) (by kernel_rfl) ?_
      intro Q' hns hP hN
      have hS := (show w.drew.cell? ⟨p, 4, none⟩ = some (.int .i64 cut) ∧ w.drew.cell? ⟨p, 3, none⟩ = some (.int .i64 ops) from ⟨h4, h3⟩)
      refine h_takeL (i := 0) (v := .pointer (some ⟨p, 0, none⟩)) hns rfl rfl (by kernel_rfl) (by kernel_rfl) hP (y_move rfl (by kernel_rfl) (by kernel_rfl)) hS rfl (L' := #[true, false, false, false, false, false, false, false, false, false, false, false, false, false, false, false, false, false, false, false]) (by kernel_rfl) ?_
      refine h_takeL (i := 1) (v := .pointer (some ⟨p, 0, none⟩)) hns rfl rfl (by kernel_rfl) (by kernel_rfl) hP (y_move rfl (by kernel_rfl) (by kernel_rfl)) hS rfl (L' := #[true, true, false, false, false, false, false, false, false, false, false, false, false, false, false, false, false, false, false, false]) (by kernel_rfl) ?_
      refine h_takeL (i := 2) (v := .pointer (some ⟨p, 0, none⟩)) hns rfl rfl (by kernel_rfl) (by kernel_rfl) hP (y_nil rfl (by kernel_rfl) (by kernel_rfl)) hS rfl (L' := #[true, true, true, false, false, false, false, false, false, false, false, false, false, false, false, false, false, false, false, false]) (by kernel_rfl) ?_
      refine h_takeL (i := 3) (v := .pointer (some ⟨p, 4, none⟩)) hns rfl rfl (by kernel_rfl) (by kernel_rfl) hP (y_faddr rfl (by kernel_rfl) (by kernel_rfl) (fa67_4 (p))) hS rfl (L' := #[true, true, true, true, false, false, false, false, false, false, false, false, false, false, false, false, false, false, false, false]) (by kernel_rfl) ?_
      refine h_takeL (i := 4) (v := .int .i64 cut) hns rfl rfl (by kernel_rfl) (by kernel_rfl) hP (y_load rfl (by kernel_rfl) (by kernel_rfl) (fun w h => load1 Try.isAgg3 h.1)) hS rfl (L' := #[true, true, true, true, true, false, false, false, false, false, false, false, false, false, false, false, false, false, false, false]) (by kernel_rfl) ?_
      refine h_takeL (i := 5) (v := (.bool true)) hns rfl rfl (by kernel_rfl) (by kernel_rfl) hP (y_leq rfl (by kernel_rfl) (by kernel_rfl) (by kernel_rfl) (decide_eq_true h0)) hS rfl (L' := #[true, true, true, true, true, true, false, false, false, false, false, false, false, false, false, false, false, false, false, false]) (by kernel_rfl) ?_
      refine h_takeL (i := 6) (v := (.bool true)) hns rfl rfl (by kernel_rfl) (by kernel_rfl) hP (y_move rfl (by kernel_rfl) (by kernel_rfl)) hS rfl (L' := #[true, true, true, true, true, true, true, false, false, false, false, false, false, false, false, false, false, false, false, false]) (by kernel_rfl) ?_
      simp only [List.setIfInBounds_toArray, List.set_cons_zero, List.set_cons_succ]
      refine h_takeL (i := 7) (v := .pointer (some ⟨p, 0, none⟩)) hns rfl rfl (by kernel_rfl) (by kernel_rfl) hP (y_move rfl (by kernel_rfl) (by kernel_rfl)) hS rfl (L' := #[true, true, true, true, true, true, true, true, false, false, false, false, false, false, false, false, false, false, false, false]) (by kernel_rfl) ?_
      refine h_takeL (i := 8) (v := .pointer (some ⟨p, 0, none⟩)) hns rfl rfl (by kernel_rfl) (by kernel_rfl) hP (y_nil rfl (by kernel_rfl) (by kernel_rfl)) hS rfl (L' := #[true, true, true, true, true, true, true, true, true, false, false, false, false, false, false, false, false, false, false, false]) (by kernel_rfl) ?_
      refine h_takeL (i := 9) (v := .pointer (some ⟨p, 4, none⟩)) hns rfl rfl (by kernel_rfl) (by kernel_rfl) hP (y_faddr rfl (by kernel_rfl) (by kernel_rfl) (fa67_4 (p))) hS rfl (L' := #[true, true, true, true, true, true, true, true, true, true, false, false, false, false, false, false, false, false, false, false]) (by kernel_rfl) ?_
      refine h_takeL (i := 10) (v := .int .i64 cut) hns rfl rfl (by kernel_rfl) (by kernel_rfl) hP (y_load rfl (by kernel_rfl) (by kernel_rfl) (fun w h => load1 Try.isAgg3 h.1)) hS rfl (L' := #[true, true, true, true, true, true, true, true, true, true, true, false, false, false, false, false, false, false, false, false]) (by kernel_rfl) ?_
      refine h_takeL (i := 11) (v := .pointer (some ⟨p, 0, none⟩)) hns rfl rfl (by kernel_rfl) (by kernel_rfl) hP (y_move rfl (by kernel_rfl) (by kernel_rfl)) hS rfl (L' := #[true, true, true, true, true, true, true, true, true, true, true, true, false, false, false, false, false, false, false, false]) (by kernel_rfl) ?_
      refine h_takeL (i := 12) (v := .pointer (some ⟨p, 0, none⟩)) hns rfl rfl (by kernel_rfl) (by kernel_rfl) hP (y_nil rfl (by kernel_rfl) (by kernel_rfl)) hS rfl (L' := #[true, true, true, true, true, true, true, true, true, true, true, true, true, false, false, false, false, false, false, false]) (by kernel_rfl) ?_
      refine h_takeL (i := 13) (v := .pointer (some ⟨p, 3, none⟩)) hns rfl rfl (by kernel_rfl) (by kernel_rfl) hP (y_faddr rfl (by kernel_rfl) (by kernel_rfl) (fa67_3 (p))) hS rfl (L' := #[true, true, true, true, true, true, true, true, true, true, true, true, true, true, false, false, false, false, false, false]) (by kernel_rfl) ?_
      refine h_takeL (i := 14) (v := .int .i64 ops) hns rfl rfl (by kernel_rfl) (by kernel_rfl) hP (y_load rfl (by kernel_rfl) (by kernel_rfl) (fun w h => load1 Try.isAgg3 h.2)) hS rfl (L' := #[true, true, true, true, true, true, true, true, true, true, true, true, true, true, true, false, false, false, false, false]) (by kernel_rfl) ?_
      simp only [List.setIfInBounds_toArray, List.set_cons_zero, List.set_cons_succ]
      refine h_takeL (i := 15) (v := (.bool false)) hns rfl rfl (by kernel_rfl) (by kernel_rfl) hP (y_leq rfl (by kernel_rfl) (by kernel_rfl) (by kernel_rfl) (decide_eq_false (show ¬ cut ≤ ops by omega))) hS rfl (L' := #[true, true, true, true, true, true, true, true, true, true, true, true, true, true, true, true, false, false, false, false]) (by kernel_rfl) ?_
      refine h_takeL (i := 16) (v := (.bool false)) hns rfl rfl (by kernel_rfl) (by kernel_rfl) hP (y_pick (b := true) rfl (by kernel_rfl) (by kernel_rfl) (by kernel_rfl)) hS rfl (L' := #[true, true, true, true, true, true, true, true, true, true, true, true, true, true, true, true, true, false, false, false]) (by kernel_rfl) ?_
      refine h_takeL (i := 17) (v := .pointer (some ⟨p, 0, none⟩)) hns rfl rfl (by kernel_rfl) (by kernel_rfl) hP (y_nil rfl (by kernel_rfl) (by kernel_rfl)) hS rfl (L' := #[true, true, true, true, true, true, true, true, true, true, true, true, true, true, true, true, true, true, false, false]) (by kernel_rfl) ?_
      refine h_takeL (i := 18) (v := .pointer (some ⟨p, 5, none⟩)) hns rfl rfl (by kernel_rfl) (by kernel_rfl) hP (y_faddr rfl (by kernel_rfl) (by kernel_rfl) (fa67_5 (p))) hS rfl (L' := #[true, true, true, true, true, true, true, true, true, true, true, true, true, true, true, true, true, true, true, false]) (by kernel_rfl) ?_
      refine h_skipL (i := 19) (by kernel_rfl) rfl rfl (by kernel_rfl) (run_storeOp rfl (by kernel_rfl) (by kernel_rfl) (store1 (t := 4) Try.sizeOf4 (.bool false) rfl rfl h5 f5)) (SL w p cut ops false ⟨h4, h3⟩) (L' := #[true, true, true, true, true, true, true, true, true, true, true, true, true, true, true, true, true, true, true, true]) (by kernel_rfl) ?_
      simp only [List.setIfInBounds_toArray, List.set_cons_zero, List.set_cons_succ]
      refine wpAnyH_done (by kernel_rfl) ?_ _
      refine hN _ _ ?_
      clear hP hN hns
      have hl : lost cut ops = false := by unfold lost; simp; omega
      have hD : Dc (w.drew.setCell ⟨p, 5, none⟩ (.bool false)) p vn vk m ops cut false := heap_setCell (w := w.drew) H.out 5 (.bool false)
      have hF : Fr [p] w (w.drew.setCell ⟨p, 5, none⟩ (.bool false)) := (Fr.setCell w.drew p 5 _).undrew
      generalize w.drew.setCell ⟨p, 5, none⟩ (.bool false) = w1 at hD hF ⊢
      have c5 := hD.c5
      clear hS h3 h4 h5 f5
      go_wp2
      go_ret
      rw [hl]
      exact ⟨rfl, hD, hF⟩
  · skip
    go_enter Try.func39, Try.ntmps39
    go_wp2_with fail
    refine h_openL (S := fun w => w.cell? ⟨p, 4, none⟩ = some (.int .i64 cut) ∧ w.cell? ⟨p, 3, none⟩ = some (.int .i64 ops)) (by kernel_rfl) (by kernel_rfl) (fun _ _ _ _ _ h => h) (L := #[false, false, false, false, false, false, false, false, false, false, false, false, false, false, false, false, false, false, false, false]) (by kernel_rfl) ?_
    intro Q' hns hP hN
    have hS := (show w.drew.cell? ⟨p, 4, none⟩ = some (.int .i64 cut) ∧ w.drew.cell? ⟨p, 3, none⟩ = some (.int .i64 ops) from ⟨h4, h3⟩)
    refine h_takeL (i := 0) (v := .pointer (some ⟨p, 0, none⟩)) hns rfl rfl (by kernel_rfl) (by kernel_rfl) hP (y_move rfl (by kernel_rfl) (by kernel_rfl)) hS rfl (L' := #[true, false, false, false, false, false, false, false, false, false, false, false, false, false, false, false, false, false, false, false]) (by kernel_rfl) ?_
    refine h_takeL (i := 1) (v := .pointer (some ⟨p, 0, none⟩)) hns rfl rfl (by kernel_rfl) (by kernel_rfl) hP (y_move rfl (by kernel_rfl) (by kernel_rfl)) hS rfl (L' := #[true, true, false, false, false, false, false, false, false, false, false, false, false, false, false, false, false, false, false, false]) (by kernel_rfl) ?_
    refine h_takeL (i := 2) (v := .pointer (some ⟨p, 0, none⟩)) hns rfl rfl (by kernel_rfl) (by kernel_rfl) hP (y_nil rfl (by kernel_rfl) (by kernel_rfl)) hS rfl (L' := #[true, true, true, false, false, false, false, false, false, false, false, false, false, false, false, false, false, false, false, false]) (by kernel_rfl) ?_
    refine h_takeL (i := 3) (v := .pointer (some ⟨p, 4, none⟩)) hns rfl rfl (by kernel_rfl) (by kernel_rfl) hP (y_faddr rfl (by kernel_rfl) (by kernel_rfl) (fa67_4 (p))) hS rfl (L' := #[true, true, true, true, false, false, false, false, false, false, false, false, false, false, false, false, false, false, false, false]) (by kernel_rfl) ?_
    refine h_takeL (i := 4) (v := .int .i64 cut) hns rfl rfl (by kernel_rfl) (by kernel_rfl) hP (y_load rfl (by kernel_rfl) (by kernel_rfl) (fun w h => load1 Try.isAgg3 h.1)) hS rfl (L' := #[true, true, true, true, true, false, false, false, false, false, false, false, false, false, false, false, false, false, false, false]) (by kernel_rfl) ?_
    refine h_takeL (i := 5) (v := (.bool false)) hns rfl rfl (by kernel_rfl) (by kernel_rfl) hP (y_leq rfl (by kernel_rfl) (by kernel_rfl) (by kernel_rfl) (decide_eq_false (show ¬ (0 : Int) ≤ cut by omega))) hS rfl (L' := #[true, true, true, true, true, true, false, false, false, false, false, false, false, false, false, false, false, false, false, false]) (by kernel_rfl) ?_
    refine h_takeL (i := 6) (v := (.bool false)) hns rfl rfl (by kernel_rfl) (by kernel_rfl) hP (y_move rfl (by kernel_rfl) (by kernel_rfl)) hS rfl (L' := #[true, true, true, true, true, true, true, false, false, false, false, false, false, false, false, false, false, false, false, false]) (by kernel_rfl) ?_
    simp only [List.setIfInBounds_toArray, List.set_cons_zero, List.set_cons_succ]
    refine h_takeL (i := 7) (v := undef) hns rfl rfl (by kernel_rfl) (by kernel_rfl) hP (y_skip (by kernel_rfl) rfl) hS rfl (L' := #[true, true, true, true, true, true, true, true, false, false, false, false, false, false, false, false, false, false, false, false]) (by kernel_rfl) ?_
    refine h_takeL (i := 8) (v := undef) hns rfl rfl (by kernel_rfl) (by kernel_rfl) hP (y_skip (by kernel_rfl) rfl) hS rfl (L' := #[true, true, true, true, true, true, true, true, true, false, false, false, false, false, false, false, false, false, false, false]) (by kernel_rfl) ?_
    refine h_takeL (i := 9) (v := undef) hns rfl rfl (by kernel_rfl) (by kernel_rfl) hP (y_skip (by kernel_rfl) rfl) hS rfl (L' := #[true, true, true, true, true, true, true, true, true, true, false, false, false, false, false, false, false, false, false, false]) (by kernel_rfl) ?_
    refine h_takeL (i := 10) (v := undef) hns rfl rfl (by kernel_rfl) (by kernel_rfl) hP (y_skip (by kernel_rfl) rfl) hS rfl (L' := #[true, true, true, true, true, true, true, true, true, true, true, false, false, false, false, false, false, false, false, false]) (by kernel_rfl) ?_
    refine h_takeL (i := 11) (v := undef) hns rfl rfl (by kernel_rfl) (by kernel_rfl) hP (y_skip (by kernel_rfl) rfl) hS rfl (L' := #[true, true, true, true, true, true, true, true, true, true, true, true, false, false, false, false, false, false, false, false]) (by kernel_rfl) ?_
    refine h_takeL (i := 12) (v := undef) hns rfl rfl (by kernel_rfl) (by kernel_rfl) hP (y_skip (by kernel_rfl) rfl) hS rfl (L' := #[true, true, true, true, true, true, true, true, true, true, true, true, true, false, false, false, false, false, false, false]) (by kernel_rfl) ?_
    refine h_takeL (i := 13) (v := undef) hns rfl rfl (by kernel_rfl) (by kernel_rfl) hP (y_skip (by kernel_rfl) rfl) hS rfl (L' := #[true, true, true, true, true, true, true, true, true, true, true, true, true, true, false, false, false, false, false, false]) (by kernel_rfl) ?_
    refine h_takeL (i := 14) (v := undef) hns rfl rfl (by kernel_rfl) (by kernel_rfl) hP (y_skip (by kernel_rfl) rfl) hS rfl (L' := #[true, true, true, true, true, true, true, true, true, true, true, true, true, true, true, false, false, false, false, false]) (by kernel_rfl) ?_
    simp only [List.setIfInBounds_toArray, List.set_cons_zero, List.set_cons_succ]
    refine h_takeL (i := 15) (v := undef) hns rfl rfl (by kernel_rfl) (by kernel_rfl) hP (y_skip (by kernel_rfl) rfl) hS rfl (L' := #[true, true, true, true, true, true, true, true, true, true, true, true, true, true, true, true, false, false, false, false]) (by kernel_rfl) ?_
    refine h_takeL (i := 16) (v := (.bool false)) hns rfl rfl (by kernel_rfl) (by kernel_rfl) hP (y_pick (b := false) rfl (by kernel_rfl) (by kernel_rfl) (by kernel_rfl)) hS rfl (L' := #[true, true, true, true, true, true, true, true, true, true, true, true, true, true, true, true, true, false, false, false]) (by kernel_rfl) ?_
    refine h_takeL (i := 17) (v := .pointer (some ⟨p, 0, none⟩)) hns rfl rfl (by kernel_rfl) (by kernel_rfl) hP (y_nil rfl (by kernel_rfl) (by kernel_rfl)) hS rfl (L' := #[true, true, true, true, true, true, true, true, true, true, true, true, true, true, true, true, true, true, false, false]) (by kernel_rfl) ?_
    refine h_takeL (i := 18) (v := .pointer (some ⟨p, 5, none⟩)) hns rfl rfl (by kernel_rfl) (by kernel_rfl) hP (y_faddr rfl (by kernel_rfl) (by kernel_rfl) (fa67_5 (p))) hS rfl (L' := #[true, true, true, true, true, true, true, true, true, true, true, true, true, true, true, true, true, true, true, false]) (by kernel_rfl) ?_
    refine h_skipL (i := 19) (by kernel_rfl) rfl rfl (by kernel_rfl) (run_storeOp rfl (by kernel_rfl) (by kernel_rfl) (store1 (t := 4) Try.sizeOf4 (.bool false) rfl rfl h5 f5)) (SL w p cut ops false ⟨h4, h3⟩) (L' := #[true, true, true, true, true, true, true, true, true, true, true, true, true, true, true, true, true, true, true, true]) (by kernel_rfl) ?_
    simp only [List.setIfInBounds_toArray, List.set_cons_zero, List.set_cons_succ]
    refine wpAnyH_done (by kernel_rfl) ?_ _
    refine hN _ _ ?_
    clear hP hN hns
    have hl : lost cut ops = false := by unfold lost; simp; omega
    have hD : Dc (w.drew.setCell ⟨p, 5, none⟩ (.bool false)) p vn vk m ops cut false := heap_setCell (w := w.drew) H.out 5 (.bool false)
    have hF : Fr [p] w (w.drew.setCell ⟨p, 5, none⟩ (.bool false)) := (Fr.setCell w.drew p 5 _).undrew
    generalize w.drew.setCell ⟨p, 5, none⟩ (.bool false) = w1 at hD hF ⊢
    have c5 := hD.c5
    clear hS h3 h4 h5 f5
    go_wp2
    go_ret
    rw [hl]
    exact ⟨rfl, hD, hF⟩

def hasB (at_ : Int) (n : Nat) : Bool := decide (0 ≤ at_) && decide (at_ < (n : Int))
set_option maxRecDepth 100000 in
set_option maxHeartbeats 400000 in
theorem has_any (w : World) (p : Nat) (vn : Value) (b n cb m : Nat) (ops : Int) (cut : Int) (gone : Bool) (at_ : Int) (h : Dc w p vn (.slice (some ⟨b, 0, none⟩) n cb) m ops cut gone) :
    Calls Try.prog 38 #[.pointer (some ⟨p, 0, none⟩), .int .i64 at_] w fun e w' => e = .returned (.bool (hasB at_ n)) ∧ w' = w := by
  have h1 := h.c1
  clear h
  by_cases h0 : 0 ≤ at_
  · have d0 : decide (0 ≤ at_) = true := decide_eq_true h0
    by_cases hn : at_ < (n : Int)
    · have d1 : decide (at_ < (n : Int)) = true := decide_eq_true hn
      go_enter Try.func38, Try.ntmps38
      go_wp2
      go_ret
      exact ⟨by unfold hasB; rw [d0, d1]; rfl, rfl⟩
    · have d1 : decide (at_ < (n : Int)) = false := decide_eq_false hn
      go_enter Try.func38, Try.ntmps38
      go_wp2
      go_ret
      exact ⟨by unfold hasB; rw [d0, d1]; rfl, rfl⟩
  · have d0 : decide (0 ≤ at_) = false := decide_eq_false h0
    go_enter Try.func38, Try.ntmps38
    go_wp2
    go_ret
    exact ⟨by unfold hasB; rw [d0]; rfl, rfl⟩

set_option maxHeartbeats 400000 in
theorem ops_any (w : World) (p : Nat) (vn vk : Value) (m : Nat) (ops : Int) (cut : Int) (gone : Bool) (h : Dc w p vn vk m ops cut gone) :
    Calls Try.prog 24 #[.pointer (some ⟨p, 0, none⟩)] w fun e w' => e = .returned (.int .i64 ops) ∧ w' = w := by
  have h3 := h.c3
  clear h
  go_enter Try.func24, Try.ntmps24
  go_wp2
  go_ret
  exact ⟨rfl, rfl⟩
set_option maxHeartbeats 400000 in
theorem sectors_any (w : World) (p : Nat) (vn : Value) (b n cb m : Nat) (ops : Int) (cut : Int) (gone : Bool) (h : Dc w p vn (.slice (some ⟨b, 0, none⟩) n cb) m ops cut gone) :
    Calls Try.prog 22 #[.pointer (some ⟨p, 0, none⟩)] w fun e w' => e = .returned (.int .i64 n) ∧ w' = w := by
  have h1 := h.c1
  clear h
  go_enter Try.func22, Try.ntmps22
  go_wp2
  go_ret
  exact ⟨rfl, rfl⟩
set_option maxHeartbeats 400000 in
theorem loose_any (w : World) (p : Nat) (vn vk : Value) (m : Nat) (ops : Int) (cut : Int) (gone : Bool) (L : List (Nat × List UInt8)) (h : Dc w p vn vk m ops cut gone) (hm : Mp w m L) :
    Calls Try.prog 15 #[.pointer (some ⟨p, 0, none⟩)] w fun e w' => e = .returned (.int .i64 L.length) ∧ w' = w := by
  have h2 := h.c2
  have hl := len_map hm
  clear h
  go_enter Try.func15, Try.ntmps15
  go_wp2
  go_ret
  exact ⟨rfl, rfl⟩
set_option maxHeartbeats 400000 in
theorem cutAt_any (w : World) (p : Nat) (vn vk : Value) (m : Nat) (ops : Int) (cut : Int) (gone : Bool) (n : Int) (h : Dc w p vn vk m ops cut gone) :
    Calls Try.prog 25 #[.pointer (some ⟨p, 0, none⟩), .int .i64 n] w fun e w' => e = .returned (.tuple #[]) ∧ Dc w' p vn vk m ops n false ∧ Fr [p] w w' := by
  have h4 := h.c4
  have h5 := h.c5
  have f4 := h.f 4
  have f5 := h.f 5
  have H := hid h
  clear h
  go_enter Try.func25, Try.ntmps25
  go_wp2
  go_end0
  refine ⟨rfl, ?_, ?_⟩
  · exact heap_setCell (heap_setCell H.out 4 _) 5 _
  · exact (Fr.setCell w p 4 _).trans (Fr.setCell _ p 5 _) (fun x hx => .inl hx)
end Go.Proofs.Ytkfomolglangdaa
