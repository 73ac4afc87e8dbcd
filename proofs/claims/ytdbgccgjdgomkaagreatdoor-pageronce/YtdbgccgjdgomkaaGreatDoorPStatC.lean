/- A state out of a head: rooted, (head).state. -/
import Derived.Test.YtdbgccgjdgomkaaGreatDoorPHeadC
namespace Go.Proofs.YtdbgccgjdgomkaaGreatDoor
open Go Go.RowKit

set_option maxRecDepth 100000 in
set_option maxHeartbeats 1600000 in
theorem rooted_none {w : World} {g : Nat} {l : List Bool} {kl : Int} (h : Sb w g l kl (-1)) : Calls Tryz.prog 83 #[.pointer (some ⟨g, 0, none⟩)] w fun e w' => e = .returned (.bool true) ∧ w' = w.drew := by
  have HS : Hid (Sb w.drew g l kl (-1)) := hid h
  clear h
  go_enter Tryz.func83, Tryz.ntmps83
  go_upto_region 1 with fail
  refine h_openL (S := fun w' => Sb w' g l kl (-1)) (by kernel_rfl) (by kernel_rfl) (fun _ _ _ _ _ h => h) (L := #[false, false, false, false, false, false, false, false, false, false, false, false, false, false, false, false, false, false, false, false, false, false, false, false, false, false, false, false, false]) (by kernel_rfl) ?_
  intro Q' hns hP hN
  have hS := HS.out
  refine h_takeL (i := 0) (v := .pointer (some ⟨g, 0, none⟩)) hns rfl rfl (by kernel_rfl) (by kernel_rfl) hP (y_move rfl (by kernel_rfl) (by kernel_rfl)) hS rfl (L' := #[true, false, false, false, false, false, false, false, false, false, false, false, false, false, false, false, false, false, false, false, false, false, false, false, false, false, false, false, false]) (by kernel_rfl) ?_
  refine h_takeL (i := 1) (v := .pointer (some ⟨g, 0, none⟩)) hns rfl rfl (by kernel_rfl) (by kernel_rfl) hP (y_nil rfl (by kernel_rfl) (by kernel_rfl)) hS rfl (L' := #[true, true, false, false, false, false, false, false, false, false, false, false, false, false, false, false, false, false, false, false, false, false, false, false, false, false, false, false, false]) (by kernel_rfl) ?_
  refine h_takeL (i := 2) (v := .pointer (some ⟨g, 2, none⟩)) hns rfl rfl (by kernel_rfl) (by kernel_rfl) hP (y_faddr rfl (by kernel_rfl) (by kernel_rfl) (fg76_2 (g) (0))) hS rfl (L' := #[true, true, true, false, false, false, false, false, false, false, false, false, false, false, false, false, false, false, false, false, false, false, false, false, false, false, false, false, false]) (by kernel_rfl) ?_
  refine h_takeL (i := 3) (v := .int .i64 (-1)) hns rfl rfl (by kernel_rfl) (by kernel_rfl) hP (y_load rfl (by kernel_rfl) (by kernel_rfl) (fun w' h => load1 Tryz.isAgg3 h.c2)) hS rfl (L' := #[true, true, true, true, false, false, false, false, false, false, false, false, false, false, false, false, false, false, false, false, false, false, false, false, false, false, false, false, false]) (by kernel_rfl) ?_
  refine h_takeL (i := 4) (v := .bool true) hns rfl rfl (by kernel_rfl) (by kernel_rfl) hP (y_bin (k := .i64) (k' := .i64) (m := -1) (n := -1) rfl (by kernel_rfl) (by kernel_rfl) (by kernel_rfl) (qeql _ _ _ rfl)) hS rfl (L' := #[true, true, true, true, true, false, false, false, false, false, false, false, false, false, false, false, false, false, false, false, false, false, false, false, false, false, false, false, false]) (by kernel_rfl) ?_
  refine h_takeL (i := 5) (v := .bool true) hns rfl rfl (by kernel_rfl) (by kernel_rfl) hP (y_move rfl (by kernel_rfl) (by kernel_rfl)) hS rfl (L' := #[true, true, true, true, true, true, false, false, false, false, false, false, false, false, false, false, false, false, false, false, false, false, false, false, false, false, false, false, false]) (by kernel_rfl) ?_
  refine h_takeL (i := 6) (v := undef) hns rfl rfl (by kernel_rfl) (by kernel_rfl) hP (y_skip (by kernel_rfl) rfl) hS rfl (L' := #[true, true, true, true, true, true, true, false, false, false, false, false, false, false, false, false, false, false, false, false, false, false, false, false, false, false, false, false, false]) (by kernel_rfl) ?_
  try simp only [List.setIfInBounds_toArray, List.set_cons_zero, List.set_cons_succ]
  refine h_takeL (i := 7) (v := undef) hns rfl rfl (by kernel_rfl) (by kernel_rfl) hP (y_skip (by kernel_rfl) rfl) hS rfl (L' := #[true, true, true, true, true, true, true, true, false, false, false, false, false, false, false, false, false, false, false, false, false, false, false, false, false, false, false, false, false]) (by kernel_rfl) ?_
  refine h_takeL (i := 8) (v := undef) hns rfl rfl (by kernel_rfl) (by kernel_rfl) hP (y_skip (by kernel_rfl) rfl) hS rfl (L' := #[true, true, true, true, true, true, true, true, true, false, false, false, false, false, false, false, false, false, false, false, false, false, false, false, false, false, false, false, false]) (by kernel_rfl) ?_
  refine h_takeL (i := 9) (v := undef) hns rfl rfl (by kernel_rfl) (by kernel_rfl) hP (y_skip (by kernel_rfl) rfl) hS rfl (L' := #[true, true, true, true, true, true, true, true, true, true, false, false, false, false, false, false, false, false, false, false, false, false, false, false, false, false, false, false, false]) (by kernel_rfl) ?_
  refine h_takeL (i := 10) (v := undef) hns rfl rfl (by kernel_rfl) (by kernel_rfl) hP (y_skip (by kernel_rfl) rfl) hS rfl (L' := #[true, true, true, true, true, true, true, true, true, true, true, false, false, false, false, false, false, false, false, false, false, false, false, false, false, false, false, false, false]) (by kernel_rfl) ?_
  refine h_takeL (i := 11) (v := undef) hns rfl rfl (by kernel_rfl) (by kernel_rfl) hP (y_skip (by kernel_rfl) rfl) hS rfl (L' := #[true, true, true, true, true, true, true, true, true, true, true, true, false, false, false, false, false, false, false, false, false, false, false, false, false, false, false, false, false]) (by kernel_rfl) ?_
  refine h_takeL (i := 12) (v := undef) hns rfl rfl (by kernel_rfl) (by kernel_rfl) hP (y_skip (by kernel_rfl) rfl) hS rfl (L' := #[true, true, true, true, true, true, true, true, true, true, true, true, true, false, false, false, false, false, false, false, false, false, false, false, false, false, false, false, false]) (by kernel_rfl) ?_
  refine h_takeL (i := 13) (v := undef) hns rfl rfl (by kernel_rfl) (by kernel_rfl) hP (y_skip (by kernel_rfl) rfl) hS rfl (L' := #[true, true, true, true, true, true, true, true, true, true, true, true, true, true, false, false, false, false, false, false, false, false, false, false, false, false, false, false, false]) (by kernel_rfl) ?_
  refine h_takeL (i := 14) (v := undef) hns rfl rfl (by kernel_rfl) (by kernel_rfl) hP (y_skip (by kernel_rfl) rfl) hS rfl (L' := #[true, true, true, true, true, true, true, true, true, true, true, true, true, true, true, false, false, false, false, false, false, false, false, false, false, false, false, false, false]) (by kernel_rfl) ?_
  try simp only [List.setIfInBounds_toArray, List.set_cons_zero, List.set_cons_succ]
  refine h_takeL (i := 15) (v := undef) hns rfl rfl (by kernel_rfl) (by kernel_rfl) hP (y_skip (by kernel_rfl) rfl) hS rfl (L' := #[true, true, true, true, true, true, true, true, true, true, true, true, true, true, true, true, false, false, false, false, false, false, false, false, false, false, false, false, false]) (by kernel_rfl) ?_
  refine h_takeL (i := 16) (v := undef) hns rfl rfl (by kernel_rfl) (by kernel_rfl) hP (y_skip (by kernel_rfl) rfl) hS rfl (L' := #[true, true, true, true, true, true, true, true, true, true, true, true, true, true, true, true, true, false, false, false, false, false, false, false, false, false, false, false, false]) (by kernel_rfl) ?_
  refine h_takeL (i := 17) (v := undef) hns rfl rfl (by kernel_rfl) (by kernel_rfl) hP (y_skip (by kernel_rfl) rfl) hS rfl (L' := #[true, true, true, true, true, true, true, true, true, true, true, true, true, true, true, true, true, true, false, false, false, false, false, false, false, false, false, false, false]) (by kernel_rfl) ?_
  refine h_takeL (i := 18) (v := undef) hns rfl rfl (by kernel_rfl) (by kernel_rfl) hP (y_skip (by kernel_rfl) rfl) hS rfl (L' := #[true, true, true, true, true, true, true, true, true, true, true, true, true, true, true, true, true, true, true, false, false, false, false, false, false, false, false, false, false]) (by kernel_rfl) ?_
  refine h_takeL (i := 19) (v := undef) hns rfl rfl (by kernel_rfl) (by kernel_rfl) hP (y_skip (by kernel_rfl) rfl) hS rfl (L' := #[true, true, true, true, true, true, true, true, true, true, true, true, true, true, true, true, true, true, true, true, false, false, false, false, false, false, false, false, false]) (by kernel_rfl) ?_
  refine h_takeL (i := 20) (v := undef) hns rfl rfl (by kernel_rfl) (by kernel_rfl) hP (y_skip (by kernel_rfl) rfl) hS rfl (L' := #[true, true, true, true, true, true, true, true, true, true, true, true, true, true, true, true, true, true, true, true, true, false, false, false, false, false, false, false, false]) (by kernel_rfl) ?_
  refine h_takeL (i := 21) (v := undef) hns rfl rfl (by kernel_rfl) (by kernel_rfl) hP (y_skip (by kernel_rfl) rfl) hS rfl (L' := #[true, true, true, true, true, true, true, true, true, true, true, true, true, true, true, true, true, true, true, true, true, true, false, false, false, false, false, false, false]) (by kernel_rfl) ?_
  refine h_takeL (i := 22) (v := undef) hns rfl rfl (by kernel_rfl) (by kernel_rfl) hP (y_skip (by kernel_rfl) rfl) hS rfl (L' := #[true, true, true, true, true, true, true, true, true, true, true, true, true, true, true, true, true, true, true, true, true, true, true, false, false, false, false, false, false]) (by kernel_rfl) ?_
  try simp only [List.setIfInBounds_toArray, List.set_cons_zero, List.set_cons_succ]
  refine h_takeL (i := 23) (v := undef) hns rfl rfl (by kernel_rfl) (by kernel_rfl) hP (y_skip (by kernel_rfl) rfl) hS rfl (L' := #[true, true, true, true, true, true, true, true, true, true, true, true, true, true, true, true, true, true, true, true, true, true, true, true, false, false, false, false, false]) (by kernel_rfl) ?_
  refine h_takeL (i := 24) (v := undef) hns rfl rfl (by kernel_rfl) (by kernel_rfl) hP (y_skip (by kernel_rfl) rfl) hS rfl (L' := #[true, true, true, true, true, true, true, true, true, true, true, true, true, true, true, true, true, true, true, true, true, true, true, true, true, false, false, false, false]) (by kernel_rfl) ?_
  refine h_takeL (i := 25) (v := undef) hns rfl rfl (by kernel_rfl) (by kernel_rfl) hP (y_skip (by kernel_rfl) rfl) hS rfl (L' := #[true, true, true, true, true, true, true, true, true, true, true, true, true, true, true, true, true, true, true, true, true, true, true, true, true, true, false, false, false]) (by kernel_rfl) ?_
  refine h_takeL (i := 26) (v := undef) hns rfl rfl (by kernel_rfl) (by kernel_rfl) hP (y_skip (by kernel_rfl) rfl) hS rfl (L' := #[true, true, true, true, true, true, true, true, true, true, true, true, true, true, true, true, true, true, true, true, true, true, true, true, true, true, true, false, false]) (by kernel_rfl) ?_
  refine h_takeL (i := 27) (v := .bool true) hns rfl rfl (by kernel_rfl) (by kernel_rfl) hP (y_pick (b := true) rfl (by kernel_rfl) (by kernel_rfl) (by kernel_rfl)) hS rfl (L' := #[true, true, true, true, true, true, true, true, true, true, true, true, true, true, true, true, true, true, true, true, true, true, true, true, true, true, true, true, false]) (by kernel_rfl) ?_
  refine h_takeL (i := 28) (v := .bool true) hns rfl rfl (by kernel_rfl) (by kernel_rfl) hP (y_assign rfl (by kernel_rfl) (by kernel_rfl)) hS rfl (L' := #[true, true, true, true, true, true, true, true, true, true, true, true, true, true, true, true, true, true, true, true, true, true, true, true, true, true, true, true, true]) (by kernel_rfl) ?_
  try simp only [List.setIfInBounds_toArray, List.set_cons_zero, List.set_cons_succ]
  refine wpAnyH_done (by kernel_rfl) ?_ _
  refine hN _ _ ?_
  clear hP hN hns
  clear hS HS
  go_wp2_with fail
  go_ret
  exact ⟨rfl, rfl⟩
set_option maxRecDepth 100000 in
set_option maxHeartbeats 1600000 in
theorem rooted_in {w : World} {g : Nat} {l : List Bool} {kl : Int} {q : Nat} (h : Sb w g l kl q) (hl : l.length ≤ 1023) (hq : l[q]? = some true) : Calls Tryz.prog 83 #[.pointer (some ⟨g, 0, none⟩)] w fun e w' => e = .returned (.bool true) ∧ w' = w.drew := by
  have hql : q < l.length := (List.getElem?_eq_some_iff.1 hq).1
  have HS : Hid (Sb w.drew g l kl q) := hid h
  have HLD : Hid (∀ w', Sb w' g l kl q → (Instr.loadAt 73 (.pointer (some ⟨g, 3 + q, none⟩))).run Tryz.prog w' = .ok (.int .u8 1) w') := hid (fun w' h' => by
    have hc := h'.cu hl q hql
    rw [at8_useB l q hql] at hc
    have : l.getD q false = true := by simp [List.getD, hq]
    rw [this] at hc
    exact load1 Tryz.isAgg73 hc)
  have HE : Hid (((q : Int) == -1) = false) := hid (by rw [beq_eq_false_iff_ne]; omega)
  have HLT : Hid (decide ((q : Int) < (l.length : Int)) = true) := hid (decide_eq_true (by omega))
  have HQ := hid (show q < 1023 by omega)
  clear h hq hl hql
  go_enter Tryz.func83, Tryz.ntmps83
  go_upto_region 1 with fail
  refine h_openL (S := fun w' => Sb w' g l kl q) (by kernel_rfl) (by kernel_rfl) (fun _ _ _ _ _ h => h) (L := #[false, false, false, false, false, false, false, false, false, false, false, false, false, false, false, false, false, false, false, false, false, false, false, false, false, false, false, false, false]) (by kernel_rfl) ?_
  intro Q' hns hP hN
  have hS := HS.out
  refine h_takeL (i := 0) (v := .pointer (some ⟨g, 0, none⟩)) hns rfl rfl (by kernel_rfl) (by kernel_rfl) hP (y_move rfl (by kernel_rfl) (by kernel_rfl)) hS rfl (L' := #[true, false, false, false, false, false, false, false, false, false, false, false, false, false, false, false, false, false, false, false, false, false, false, false, false, false, false, false, false]) (by kernel_rfl) ?_
  refine h_takeL (i := 1) (v := .pointer (some ⟨g, 0, none⟩)) hns rfl rfl (by kernel_rfl) (by kernel_rfl) hP (y_nil rfl (by kernel_rfl) (by kernel_rfl)) hS rfl (L' := #[true, true, false, false, false, false, false, false, false, false, false, false, false, false, false, false, false, false, false, false, false, false, false, false, false, false, false, false, false]) (by kernel_rfl) ?_
  refine h_takeL (i := 2) (v := .pointer (some ⟨g, 2, none⟩)) hns rfl rfl (by kernel_rfl) (by kernel_rfl) hP (y_faddr rfl (by kernel_rfl) (by kernel_rfl) (fg76_2 (g) (0))) hS rfl (L' := #[true, true, true, false, false, false, false, false, false, false, false, false, false, false, false, false, false, false, false, false, false, false, false, false, false, false, false, false, false]) (by kernel_rfl) ?_
  refine h_takeL (i := 3) (v := .int .i64 q) hns rfl rfl (by kernel_rfl) (by kernel_rfl) hP (y_load rfl (by kernel_rfl) (by kernel_rfl) (fun w' h => load1 Tryz.isAgg3 h.c2)) hS rfl (L' := #[true, true, true, true, false, false, false, false, false, false, false, false, false, false, false, false, false, false, false, false, false, false, false, false, false, false, false, false, false]) (by kernel_rfl) ?_
  refine h_takeL (i := 4) (v := .bool false) hns rfl rfl (by kernel_rfl) (by kernel_rfl) hP (y_bin (k := .i64) (k' := .i64) (m := q) (n := -1) rfl (by kernel_rfl) (by kernel_rfl) (by kernel_rfl) (qeql _ _ _ HE.out)) hS rfl (L' := #[true, true, true, true, true, false, false, false, false, false, false, false, false, false, false, false, false, false, false, false, false, false, false, false, false, false, false, false, false]) (by kernel_rfl) ?_
  refine h_takeL (i := 5) (v := .bool false) hns rfl rfl (by kernel_rfl) (by kernel_rfl) hP (y_move rfl (by kernel_rfl) (by kernel_rfl)) hS rfl (L' := #[true, true, true, true, true, true, false, false, false, false, false, false, false, false, false, false, false, false, false, false, false, false, false, false, false, false, false, false, false]) (by kernel_rfl) ?_
  refine h_takeL (i := 6) (v := .pointer (some ⟨g, 0, none⟩)) hns rfl rfl (by kernel_rfl) (by kernel_rfl) hP (y_move rfl (by kernel_rfl) (by kernel_rfl)) hS rfl (L' := #[true, true, true, true, true, true, true, false, false, false, false, false, false, false, false, false, false, false, false, false, false, false, false, false, false, false, false, false, false]) (by kernel_rfl) ?_
  try simp only [List.setIfInBounds_toArray, List.set_cons_zero, List.set_cons_succ]
  refine h_takeL (i := 7) (v := .pointer (some ⟨g, 0, none⟩)) hns rfl rfl (by kernel_rfl) (by kernel_rfl) hP (y_nil rfl (by kernel_rfl) (by kernel_rfl)) hS rfl (L' := #[true, true, true, true, true, true, true, true, false, false, false, false, false, false, false, false, false, false, false, false, false, false, false, false, false, false, false, false, false]) (by kernel_rfl) ?_
  refine h_takeL (i := 8) (v := .pointer (some ⟨g, 2, none⟩)) hns rfl rfl (by kernel_rfl) (by kernel_rfl) hP (y_faddr rfl (by kernel_rfl) (by kernel_rfl) (fg76_2 (g) (0))) hS rfl (L' := #[true, true, true, true, true, true, true, true, true, false, false, false, false, false, false, false, false, false, false, false, false, false, false, false, false, false, false, false, false]) (by kernel_rfl) ?_
  refine h_takeL (i := 9) (v := .int .i64 q) hns rfl rfl (by kernel_rfl) (by kernel_rfl) hP (y_load rfl (by kernel_rfl) (by kernel_rfl) (fun w' h => load1 Tryz.isAgg3 h.c2)) hS rfl (L' := #[true, true, true, true, true, true, true, true, true, true, false, false, false, false, false, false, false, false, false, false, false, false, false, false, false, false, false, false, false]) (by kernel_rfl) ?_
  refine h_takeL (i := 10) (v := .pointer (some ⟨g, 0, none⟩)) hns rfl rfl (by kernel_rfl) (by kernel_rfl) hP (y_move rfl (by kernel_rfl) (by kernel_rfl)) hS rfl (L' := #[true, true, true, true, true, true, true, true, true, true, true, false, false, false, false, false, false, false, false, false, false, false, false, false, false, false, false, false, false]) (by kernel_rfl) ?_
  refine h_takeL (i := 11) (v := .pointer (some ⟨g, 0, none⟩)) hns rfl rfl (by kernel_rfl) (by kernel_rfl) hP (y_nil rfl (by kernel_rfl) (by kernel_rfl)) hS rfl (L' := #[true, true, true, true, true, true, true, true, true, true, true, true, false, false, false, false, false, false, false, false, false, false, false, false, false, false, false, false, false]) (by kernel_rfl) ?_
  refine h_takeL (i := 12) (v := .pointer (some ⟨g, 0, none⟩)) hns rfl rfl (by kernel_rfl) (by kernel_rfl) hP (y_faddr rfl (by kernel_rfl) (by kernel_rfl) (fg76_0 (g) (0))) hS rfl (L' := #[true, true, true, true, true, true, true, true, true, true, true, true, true, false, false, false, false, false, false, false, false, false, false, false, false, false, false, false, false]) (by kernel_rfl) ?_
  refine h_takeL (i := 13) (v := .int .i64 l.length) hns rfl rfl (by kernel_rfl) (by kernel_rfl) hP (y_load rfl (by kernel_rfl) (by kernel_rfl) (fun w' h => load1 Tryz.isAgg3 h.c0)) hS rfl (L' := #[true, true, true, true, true, true, true, true, true, true, true, true, true, true, false, false, false, false, false, false, false, false, false, false, false, false, false, false, false]) (by kernel_rfl) ?_
  refine h_takeL (i := 14) (v := .bool true) hns rfl rfl (by kernel_rfl) (by kernel_rfl) hP (y_bin (k := .i64) (k' := .i64) (m := q) (n := l.length) rfl (by kernel_rfl) (by kernel_rfl) (by kernel_rfl) (qlss _ _ _ HLT.out)) hS rfl (L' := #[true, true, true, true, true, true, true, true, true, true, true, true, true, true, true, false, false, false, false, false, false, false, false, false, false, false, false, false, false]) (by kernel_rfl) ?_
  try simp only [List.setIfInBounds_toArray, List.set_cons_zero, List.set_cons_succ]
  refine h_takeL (i := 15) (v := .bool true) hns rfl rfl (by kernel_rfl) (by kernel_rfl) hP (y_move rfl (by kernel_rfl) (by kernel_rfl)) hS rfl (L' := #[true, true, true, true, true, true, true, true, true, true, true, true, true, true, true, true, false, false, false, false, false, false, false, false, false, false, false, false, false]) (by kernel_rfl) ?_
  refine h_takeL (i := 16) (v := .pointer (some ⟨g, 0, none⟩)) hns rfl rfl (by kernel_rfl) (by kernel_rfl) hP (y_move rfl (by kernel_rfl) (by kernel_rfl)) hS rfl (L' := #[true, true, true, true, true, true, true, true, true, true, true, true, true, true, true, true, true, false, false, false, false, false, false, false, false, false, false, false, false]) (by kernel_rfl) ?_
  refine h_takeL (i := 17) (v := .pointer (some ⟨g, 0, none⟩)) hns rfl rfl (by kernel_rfl) (by kernel_rfl) hP (y_move rfl (by kernel_rfl) (by kernel_rfl)) hS rfl (L' := #[true, true, true, true, true, true, true, true, true, true, true, true, true, true, true, true, true, true, false, false, false, false, false, false, false, false, false, false, false]) (by kernel_rfl) ?_
  refine h_takeL (i := 18) (v := .pointer (some ⟨g, 0, none⟩)) hns rfl rfl (by kernel_rfl) (by kernel_rfl) hP (y_nil rfl (by kernel_rfl) (by kernel_rfl)) hS rfl (L' := #[true, true, true, true, true, true, true, true, true, true, true, true, true, true, true, true, true, true, true, false, false, false, false, false, false, false, false, false, false]) (by kernel_rfl) ?_
  refine h_takeL (i := 19) (v := .pointer (some ⟨g, 2, none⟩)) hns rfl rfl (by kernel_rfl) (by kernel_rfl) hP (y_faddr rfl (by kernel_rfl) (by kernel_rfl) (fg76_2 (g) (0))) hS rfl (L' := #[true, true, true, true, true, true, true, true, true, true, true, true, true, true, true, true, true, true, true, true, false, false, false, false, false, false, false, false, false]) (by kernel_rfl) ?_
  refine h_takeL (i := 20) (v := .int .i64 q) hns rfl rfl (by kernel_rfl) (by kernel_rfl) hP (y_load rfl (by kernel_rfl) (by kernel_rfl) (fun w' h => load1 Tryz.isAgg3 h.c2)) hS rfl (L' := #[true, true, true, true, true, true, true, true, true, true, true, true, true, true, true, true, true, true, true, true, true, false, false, false, false, false, false, false, false]) (by kernel_rfl) ?_
  refine h_takeL (i := 21) (v := .pointer (some ⟨g, 0, none⟩)) hns rfl rfl (by kernel_rfl) (by kernel_rfl) hP (y_nil rfl (by kernel_rfl) (by kernel_rfl)) hS rfl (L' := #[true, true, true, true, true, true, true, true, true, true, true, true, true, true, true, true, true, true, true, true, true, true, false, false, false, false, false, false, false]) (by kernel_rfl) ?_
  refine h_takeL (i := 22) (v := .pointer (some ⟨g, 3, none⟩)) hns rfl rfl (by kernel_rfl) (by kernel_rfl) hP (y_faddr rfl (by kernel_rfl) (by kernel_rfl) (fg76_3 (g) (0))) hS rfl (L' := #[true, true, true, true, true, true, true, true, true, true, true, true, true, true, true, true, true, true, true, true, true, true, true, false, false, false, false, false, false]) (by kernel_rfl) ?_
  try simp only [List.setIfInBounds_toArray, List.set_cons_zero, List.set_cons_succ]
  refine h_takeL (i := 23) (v := .pointer (some ⟨g, 3 + q, none⟩)) hns rfl rfl (by kernel_rfl) (by kernel_rfl) hP (y_index rfl (by kernel_rfl) (by kernel_rfl) (by kernel_rfl) (ix74 g 3 q HQ.out)) hS rfl (L' := #[true, true, true, true, true, true, true, true, true, true, true, true, true, true, true, true, true, true, true, true, true, true, true, true, false, false, false, false, false]) (by kernel_rfl) ?_
  refine h_takeL (i := 24) (v := .int .u8 1) hns rfl rfl (by kernel_rfl) (by kernel_rfl) hP (y_load rfl (by kernel_rfl) (by kernel_rfl) (HLD.out)) hS rfl (L' := #[true, true, true, true, true, true, true, true, true, true, true, true, true, true, true, true, true, true, true, true, true, true, true, true, true, false, false, false, false]) (by kernel_rfl) ?_
  refine h_takeL (i := 25) (v := .bool true) hns rfl rfl (by kernel_rfl) (by kernel_rfl) hP (y_bin (k := .u8) (k' := .u8) (m := 1) (n := 1) rfl (by kernel_rfl) (by kernel_rfl) (by kernel_rfl) (qeqlU _ _ _ rfl)) hS rfl (L' := #[true, true, true, true, true, true, true, true, true, true, true, true, true, true, true, true, true, true, true, true, true, true, true, true, true, true, false, false, false]) (by kernel_rfl) ?_
  refine h_takeL (i := 26) (v := .bool true) hns rfl rfl (by kernel_rfl) (by kernel_rfl) hP (y_pick (b := true) rfl (by kernel_rfl) (by kernel_rfl) (by kernel_rfl)) hS rfl (L' := #[true, true, true, true, true, true, true, true, true, true, true, true, true, true, true, true, true, true, true, true, true, true, true, true, true, true, true, false, false]) (by kernel_rfl) ?_
  refine h_takeL (i := 27) (v := .bool true) hns rfl rfl (by kernel_rfl) (by kernel_rfl) hP (y_pick (b := false) rfl (by kernel_rfl) (by kernel_rfl) (by kernel_rfl)) hS rfl (L' := #[true, true, true, true, true, true, true, true, true, true, true, true, true, true, true, true, true, true, true, true, true, true, true, true, true, true, true, true, false]) (by kernel_rfl) ?_
  refine h_takeL (i := 28) (v := .bool true) hns rfl rfl (by kernel_rfl) (by kernel_rfl) hP (y_assign rfl (by kernel_rfl) (by kernel_rfl)) hS rfl (L' := #[true, true, true, true, true, true, true, true, true, true, true, true, true, true, true, true, true, true, true, true, true, true, true, true, true, true, true, true, true]) (by kernel_rfl) ?_
  try simp only [List.setIfInBounds_toArray, List.set_cons_zero, List.set_cons_succ]
  refine wpAnyH_done (by kernel_rfl) ?_ _
  refine hN _ _ ?_
  clear hP hN hns
  clear hS HS
  go_wp2_with fail
  go_ret
  exact ⟨rfl, rfl⟩
theorem qshrU (x : UInt8) (k : Nat) (hk : k < 8) (w : World) : (binOp .shr 5 (cb x) (.int .i64 k)).run Tryz.prog w = .ok (cb (x >>> UInt8.ofNat k)) w := by
  have e : ((x.toNat : Nat) : Int).fdiv (2 ^ k) = ((x >>> UInt8.ofNat k).toNat : Nat) := by
    have h : ∀ (n : Fin 256) (k : Fin 8), ((n.val : Nat) : Int).fdiv (2 ^ k.val) = ((UInt8.ofNat n.val >>> UInt8.ofNat k.val).toNat : Nat) := by decide +kernel
    have := h ⟨x.toNat, x.toNat_lt⟩ ⟨k, hk⟩
    simpa using this
  unfold cb
  rw [← e]
  generalize (x.toNat : Int) = y
  go_simp
  exact (Int.fdiv_eq_ediv_of_nonneg _ (Int.le_of_lt (Int.pow_pos (by decide)))).symm
theorem qandU (x : UInt8) (w : World) : (binOp .and 5 (cb x) (.int .u8 1)).run Tryz.prog w = .ok (cb (x &&& 1)) w := by
  have e := u8_and_nat x.toNat 1 x.toNat_lt (by decide)
  have e2 : (x &&& 1).toNat = x.toNat &&& 1 := by rw [UInt8.toNat_and]; rfl
  unfold cb
  rw [e2, ← e]
  generalize (x.toNat : Int) = y
  go_simp
theorem rbit_01 (h : List UInt8) (k : Nat) : rbit h k = b2u (rbit h k == 1) := by
  have hx : ∀ y : UInt8, y &&& 1 = b2u (y &&& 1 == 1) := fun y => by
    have h : ∀ n : Fin 256, UInt8.ofNat n.val &&& 1 = b2u (UInt8.ofNat n.val &&& 1 == 1) := by decide +kernel
    have := h ⟨y.toNat, y.toNat_lt⟩
    simpa using this
  exact hx _
/-- The first k bits of a head's pages. -/
def lk (h : List UInt8) (n k : Nat) : List Bool := (List.range n).map fun q => decide (q < k) && (rbit h q == 1)
theorem lk_len (h : List UInt8) (n k : Nat) : (lk h n k).length = n := by simp [lk]
theorem lk_get (h : List UInt8) (n k q : Nat) (hq : q < n) : (lk h n k)[q]? = some (decide (q < k) && (rbit h q == 1)) := by simp [lk, hq]
theorem lk_zero (h : List UInt8) (n : Nat) : lk h n 0 = List.replicate n false := by
  apply List.ext_getElem?
  intro q
  by_cases hq : q < n
  · rw [lk_get h n 0 q hq]; simp [hq]
  · rw [List.getElem?_eq_none (by rw [lk_len]; omega), List.getElem?_eq_none (by simp; omega)]
theorem lk_succ (h : List UInt8) (n k : Nat) (hk : k < n) : (lk h n k).set k (rbit h k == 1) = lk h n (k + 1) := by
  apply List.ext_getElem?
  intro q
  by_cases hq : q < n
  · by_cases e : k = q
    · subst e
      rw [List.getElem?_set_self (by rw [lk_len]; exact hk), lk_get h n (k + 1) k hk]
      simp
    · rw [List.getElem?_set_ne e, lk_get h n k q hq, lk_get h n (k + 1) q hq]
      congr 2
      by_cases h1 : q < k
      · rw [decide_eq_true h1, decide_eq_true (by omega)]
      · rw [decide_eq_false h1, decide_eq_false (by omega)]
  · rw [List.getElem?_eq_none (by rw [List.length_set, lk_len]; omega), List.getElem?_eq_none (by rw [lk_len]; omega)]
theorem lef_none (n : Nat) : lef (List.replicate n false) = n := by simp [lef]
theorem lef_step (h : List UInt8) (n k : Nat) (hk : k < n) : (lef (lk h n (k + 1)) : Int) = (lef (lk h n k) : Int) - (if (rbit h k == 1) then 1 else 0) := by
  have h0 : (lk h n k)[k]? = some false := by rw [lk_get h n k k hk]; simp
  rw [← lk_succ h n k hk]
  cases hb : (rbit h k == 1) with
  | true => have := lef_set_true (lk h n k) k h0; simp; omega
  | false =>
    have e : (lk h n k).set k false = lk h n k := by
      obtain ⟨hl, he⟩ := List.getElem?_eq_some_iff.1 h0
      rw [← he]
      exact List.set_getElem_self hl
    rw [e]; simp
theorem lk_full (l : List Bool) (r : Nat) (hl : l.length ≤ 1023) : lk (hdOf l r) l.length l.length = l := by
  apply List.ext_getElem?
  intro q
  by_cases hq : q < l.length
  · rw [lk_get _ _ _ q hq, rbit_hd l r hl q hq]
    simp only [hq, decide_true, Bool.true_and, List.getD, List.getElem?_eq_getElem hq, Option.getD_some]
    cases l[q] <;> rfl
  · rw [List.getElem?_eq_none (by rw [lk_len]; omega), List.getElem?_eq_none (by omega)]
/-- Two heads are compared. -/
theorem equal70 (a b : List UInt8) (ha : a.length = 224) (hb : b.length = 224) (w : World) : (Op.equalIn 10000 70 (V8 a) (V8 b)).run Tryz.prog w = .ok (decide (a = b)) w := by
  unfold V8
  rw [show (10000 : Nat) = 9998 + 1 + 1 from rfl]
  have hs : ∀ w, (Go.sizeOf 5).run Tryz.prog w = .ok 1 w := Tryz.sizeOf5
  have hg : ∀ w, (isAgg 5).run Tryz.prog w = .ok false w := Tryz.isAgg5
  rw [Op.equalIn]
  simp only [Sem.run_bind, run_underlying punder70, Result.andThen_ok, hs]
  rw [Std.Legacy.Range.forIn_eq_forIn_range']
  have key : ∀ n s, s + n = 224 → (Sem.run Tryz.prog
          (forIn (List.range' s n 1) ((none, ()) : Option Bool × Unit) fun i __s => do
            let x ← part 5 (cells8 a).toArray (i * 1)
            let y ← part 5 (cells8 b).toArray (i * 1)
            let r ← Op.equalIn (9998 + 1) 5 x y
            if (!r) = true then pure (ForInStep.done (some false, ())) else pure (ForInStep.yield (none, ()))) w) =
        .ok (if a.drop s = b.drop s then (none, ()) else (some false, ())) w := by
    intro n
    induction n with
    | zero =>
      intro s h
      rw [List.drop_of_length_le (by omega), List.drop_of_length_le (by omega)]
      simp
    | succ n ih =>
      intro s h
      have h1 : (part 5 (cells8 a).toArray (s * 1)).run Tryz.prog w = .ok (.int .u8 (at8 a s)) w := by
        have hc : (cells8 a).toArray[s * 1]? = some (.int .u8 (at8 a s)) := by rw [Nat.mul_one]; simpa using cells8_get a s (by omega)
        simp only [part, Sem.run_bind, hg, Result.andThen_ok, hc]
        rfl
      have h2 : (part 5 (cells8 b).toArray (s * 1)).run Tryz.prog w = .ok (.int .u8 (at8 b s)) w := by
        have hc : (cells8 b).toArray[s * 1]? = some (.int .u8 (at8 b s)) := by rw [Nat.mul_one]; simpa using cells8_get b s (by omega)
        simp only [part, Sem.run_bind, hg, Result.andThen_ok, hc]
        rfl
      have h3 : (Op.equalIn (9998 + 1) 5 (.int .u8 (at8 a s)) (.int .u8 (at8 b s))).run Tryz.prog w = .ok (at8 a s == at8 b s) w := run_equalIn_int w 9998 5 .u8 .u8 _ _ Tryz.underlying5
      rw [List.range'_succ, List.forIn_cons]
      simp only [Sem.run_bind, h1, h2, h3, Result.andThen_ok]
      rw [drop_cons8 a s (by omega), drop_cons8 b s (by omega)]
      by_cases he : at8 a s = at8 b s
      · have hab : a.getD s 0 = b.getD s 0 := by unfold at8 at he; exact u8_ext (by omega)
        have hbe : (at8 a s == at8 b s) = true := by simp [he]
        rw [hbe]
        simp only [Bool.not_true, Bool.false_eq_true, if_false, Sem.run_pure, Result.andThen_ok]
        rw [ih (s + 1) (by omega), hab]
        simp
      · have hab : a.getD s 0 ≠ b.getD s 0 := fun e => he (by unfold at8; rw [e])
        have hbe : (at8 a s == at8 b s) = false := by simp [he]
        rw [hbe]
        simp only [Bool.not_false, if_true, Sem.run_pure, Result.andThen_ok]
        rw [if_neg (by intro e; simp only [List.cons.injEq] at e; exact hab e.1)]
  have hk := key 224 0 rfl
  rw [List.drop_zero, List.drop_zero] at hk
  have hsz : ({ start := 0, stop := 224, step := 1, step_pos := by decide } : Std.Legacy.Range).size = 224 := by decide
  simp only [hsz]
  rw [hk]
  by_cases e : a = b
  · simp [e]
  · simp [e]
theorem neq70 (a b : List UInt8) (ha : a.length = 224) (hb : b.length = 224) (w : World) : (binOp .neq 70 (V8 a) (V8 b)).run Tryz.prog w = .ok (.bool (!decide (a = b))) w := by
  have h := equal70 a b ha hb w
  unfold V8 at h ⊢
  rw [run_neq_struct, h]
  rfl
theorem y_neq70 {ops : Array Oper} {S : World → Prop} {o : Oper} {x : Act} {p q : Operand} {a b : List UInt8} {r : Bool} (ha : a.length = 224) (hb : b.length = 224) (hop : o.op = .binOp .neq 70 p q 70) (hw : Region.wanted o (yielded ops x.tmps) = true) (hp : x.eval p = V8 a) (hq : x.eval q = V8 b) (hr : (!decide (a = b)) = r) :
    YieldsIf Tryz.prog ops S o (.bool r) x :=
  .inl ⟨hw, fun w _ => by
    subst hr
    unfold execOp; rw [hop]; simp only [hp, hq, Sem.run_bind]
    have hg : (eqGuard .neq 70 p q (V8 a) (V8 b)).run Tryz.prog w = .ok () w := run_eqGuard_agg w .neq 70 p q _ _ (by kernel_rfl)
    rw [hg]; simp only [Result.andThen_ok, neq70 a b ha hb]; rfl⟩
set_option maxRecDepth 100000 in
set_option maxHeartbeats 4000000 in
theorem state_any (h : List UInt8) (hl : h.length = 224) (n : Nat) (hn : n ≤ 1023) (r : Nat) (hr : r = (h.getD 18 0).toNat * 256 + (h.getD 19 0).toNat) (hroot : r = 0 ∨ ∃ q, r = q + 1 ∧ (lk h n n)[q]? = some true) (w : World) :
    Calls Tryz.prog 40 #[V8 h, .int .i64 n] w fun e w' => e = .returned (.tuple #[if hdOf (lk h n n) r = h then St (lk h n n) (lef (lk h n n)) ((r : Int) - 1) else St [] 0 0, .bool (decide (hdOf (lk h n n) r = h))]) ∧ Below w.heap.size w w' := by
  obtain ⟨l, hle⟩ : ∃ l, lk h n n = l := ⟨_, rfl⟩
  rw [hle] at hroot ⊢
  have HLE := hid hle
  clear hle
  obtain ⟨hd, hhd⟩ : ∃ hd, hdOf l r = hd := ⟨_, rfl⟩
  rw [hhd]
  have HHDE := hid hhd
  clear hhd
  obtain ⟨V, hV⟩ : ∃ V, (if hd = h then St l (lef l) ((r : Int) - 1) else St [] 0 0) = V := ⟨_, rfl⟩
  obtain ⟨bb, hbb⟩ : ∃ bb, decide (hd = h) = bb := ⟨_, rfl⟩
  rw [hV, hbb]
  have HV := hid hV
  have HBB := hid hbb
  clear hV hbb
  obtain ⟨g0, hg0⟩ : ∃ g, w.heap.size = g := ⟨_, rfl⟩
  have hbx := pbox70 w h
  have hB1 : Below w.heap.size w (w.alloc (.cells (cells8 h).toArray 70)) := (Below.refl _ _).alloc (Nat.le_refl _) _
  have hR1 : Rw (w.alloc (.cells (cells8 h).toArray 70)) w.heap.size 70 h := heap_alloc_last w _
  have hz1 : (w.alloc (.cells (cells8 h).toArray 70)).heap.size = w.heap.size + 1 := by show (w.heap.push _).size = _; simp
  generalize hw1 : w.alloc (.cells (cells8 h).toArray 70) = w1 at *
  obtain ⟨g1, hg1⟩ : ∃ g, w1.heap.size = g := ⟨_, rfl⟩
  have hal := palloc76 w1
  have hB2 : Below w1.heap.size w1 (w1.alloc (.cells (stC [] 0 0).toArray 76)) := (Below.refl _ _).alloc (Nat.le_refl _) _
  have hS2 : Sb (w1.alloc (.cells (stC [] 0 0).toArray 76)) w1.heap.size [] 0 0 := heap_alloc_last w1 _
  have hz2 : (w1.alloc (.cells (stC [] 0 0).toArray 76)).heap.size = w1.heap.size + 1 := by show (w1.heap.push _).size = _; simp
  generalize hw2 : w1.alloc (.cells (stC [] 0 0).toArray 76) = w2 at *
  rw [hg0] at hbx hR1 hz1 hB1
  rw [hg1] at hal hS2 hz2 hB2 hz1
  have hR2 : Rw w2 g0 70 h := hR1.below hB2 (by omega)
  have hB02 : Below g0 w w2 := hB1.trans (hB2.mono (by omega))
  have HBX := hid hbx
  have HAL := hid hal
  have H2 := hid (And.intro hR2 (And.intro hS2 (And.intro hB02 (show w2.heap.size = g0 + 2 ∧ g1 = g0 + 1 from ⟨by omega, by omega⟩))))
  have HL := hid hl
  have HN := hid hn
  have HR := hid hr
  have HROOT := hid hroot
  have HG0 := hid hg0
  clear hbx hal hR1 hR2 hS2 hB1 hB2 hB02 hz1 hz2 hg1 hw1 hw2 hl hn hr hroot hg0
  go_enter Tryz.func40, Tryz.ntmps40
  go_upto_region 0 with fail
  refine wp_region_lit ?_
  refine wp_run (v := .pointer (some ⟨g0, 0, none⟩)) rfl rfl (run_boxOp rfl (by kernel_rfl) HBX.out) rfl ?_
  refine wp_run (v := .pointer (some ⟨g1, 0, none⟩)) rfl rfl (run_alOp rfl HAL.out) rfl ?_
  refine wp_y (v := (.bool false)) rfl rfl (y_assign rfl (by kernel_rfl) (by kernel_rfl)) rfl ?_
  try simp only [List.setIfInBounds_toArray, List.set_cons_zero, List.set_cons_succ]
  refine wp_end ?_
  clear HBX HAL
  go_upto_region 1 with fail
  refine wp_region_lit ?_
  refine wp_y (v := .int .i64 n) rfl rfl (y_move rfl (by kernel_rfl) (by kernel_rfl)) rfl ?_
  refine wp_call (f := 79) (args := #[.int .i64 n]) (by kernel_rfl) (fun w => by go_simp) ?_
  refine (empty_any n HN.out w2).mono ?_
  rintro e w3 ⟨rfl, hB3⟩
  refine ⟨_, rfl, ?_⟩
  have h2 := H2.out
  have hR3 : Rw w3 g0 70 h := h2.1.below hB3 (by omega)
  have hS3 : Sb w3 g1 [] 0 0 := h2.2.1.below hB3 (by omega)
  have hB3g : Below g0 w w3 := h2.2.2.1.trans (hB3.mono (by omega))
  obtain ⟨g2, hg2⟩ : ∃ g, w3.heap.size = g := ⟨_, rfl⟩
  have hal3 := palloc76 w3
  have hB4 : Below w3.heap.size w3 (w3.alloc (.cells (stC [] 0 0).toArray 76)) := (Below.refl _ _).alloc (Nat.le_refl _) _
  have hS4 : Sb (w3.alloc (.cells (stC [] 0 0).toArray 76)) w3.heap.size [] 0 0 := heap_alloc_last w3 _
  have hz4 := hB3.size
  generalize w3.alloc (.cells (stC [] 0 0).toArray 76) = w4 at *
  rw [hg2] at hal3 hB4 hS4 hz4
  have hs5 := pstore76 (by simp : ([] : List Bool).length ≤ 1023) (by rw [List.length_replicate]; exact HN.out : (List.replicate n false).length ≤ 1023) hS4 (kl' := n) (kr' := -1)
  have hS5 := hS4.row (List.replicate n false) n (-1)
  have hF5 := Fr.setRow w4 g2 (stC (List.replicate n false) n (-1)).toArray
  generalize w4.setRow g2 (stC (List.replicate n false) n (-1)).toArray = w5 at *
  have HAL3 := hid hal3
  have HS5 := hid hs5
  have hg4 : g2 ≤ w4.heap.size := by rw [← hg2]; exact hB4.size
  clear hal3 hs5 hS4 hB3 H2
  dsimp only [Act.put]
  refine wp_run (v := .pointer (some ⟨g2, 0, none⟩)) rfl rfl (run_alOp rfl HAL3.out) rfl ?_
  refine wp_do rfl rfl (run_storeOp rfl (by kernel_rfl) (by kernel_rfl) HS5.out) ?_
  try simp only [List.setIfInBounds_toArray, List.set_cons_zero, List.set_cons_succ]
  refine wp_end ?_
  have H5 : Hid (Rw w5 g0 70 h ∧ Sb w5 g1 [] 0 0 ∧ Sb w5 g2 (List.replicate n false) n (-1) ∧ Below g0 w w5 ∧ g0 < g1 ∧ g1 < g2 ∧ g2 < w5.heap.size) := hid ⟨hF5.at (hR3.below hB4 (by omega)) (by simp; omega), (hS3.below hB4 (by omega)).fr hF5 (by simp; omega), hS5, (hB3g.trans (hB4.mono (by omega))).trans (hF5.below (by omega) (by simp; omega)), by omega, by omega, heap_lt hS5⟩
  clear hF5 hB4 hR3 hS3 hS5 hB3g h2 hg2 hz4
  go_upto_region 2 with fail
  refine wp_region_lit ?_
  refine wp_y (v := V8 h) rfl rfl (y_load rfl (by kernel_rfl) (by kernel_rfl) (fun w' h => by rw [h]; exact pload70 HL.out H5.out.1)) rfl ?_
  refine wp_call (f := 82) (args := #[V8 h, .int .i64 18]) (by kernel_rfl) (fun w => by go_simp) ?_
  refine (number_any h HL.out 18 (by decide) w5).mono ?_
  rintro e w6 ⟨rfl, hB6⟩
  rw [show (18 + 1 : Nat) = 19 from rfl, ← HR.out]
  refine ⟨_, rfl, ?_⟩
  have h5 := H5.out
  have hS6 : Sb w6 g2 (List.replicate n false) n (-1) := h5.2.2.1.below hB6 h5.2.2.2.2.2.2
  have hc2 := hS6.c2
  have HST7 := hid (store1 Tryz.sizeOf3 (.int .i64 ((r : Int) - 1)) rfl rfl hc2 (hS6.fz 2))
  have hF7 : Fr [g2] w6 (w6.setCell ⟨g2, 2, none⟩ (.int .i64 ((r : Int) - 1))) := Fr.setCell _ _ _ _
  have H7 : Hid (Rw (w6.setCell ⟨g2, 2, none⟩ (.int .i64 ((r : Int) - 1))) g0 70 h ∧ Sb (w6.setCell ⟨g2, 2, none⟩ (.int .i64 ((r : Int) - 1))) g1 [] 0 0 ∧ Sb (w6.setCell ⟨g2, 2, none⟩ (.int .i64 ((r : Int) - 1))) g2 (List.replicate n false) n ((r : Int) - 1) ∧ Below g0 w (w6.setCell ⟨g2, 2, none⟩ (.int .i64 ((r : Int) - 1))) ∧ g0 < g1 ∧ g1 < g2) := hid ⟨hF7.at (h5.1.below hB6 (by omega)) (by simp; omega), (h5.2.1.below hB6 (by omega)).fr hF7 (by simp; omega), hS6.s2 _, (h5.2.2.2.1.trans (hB6.mono (by omega))).trans (hF7.below (by have := hB6.size; omega) (by simp; omega)), h5.2.2.2.2.1, h5.2.2.2.2.2.1⟩
  have HSUB : Hid (IntKind.i64.wrap ((r : Int) - 1) = (r : Int) - 1) := hid (by
    have h1 := (h.getD 18 0).toNat_lt
    have h2 := (h.getD 19 0).toNat_lt
    have h3 := HR.out
    rw [IntWalk.i64_in _ ⟨by omega, by omega⟩])
  generalize w6.setCell ⟨g2, 2, none⟩ (.int .i64 ((r : Int) - 1)) = w7 at *
  clear h5 hS6 hc2 hF7 hB6
  dsimp only [Act.put]
  refine wp_y (v := .int .i64 ((r : Int) - 1)) rfl rfl (y_bin (k := .i64) (k' := .i64) (m := (r : Nat)) (n := 1) rfl (by kernel_rfl) (by kernel_rfl) (by kernel_rfl) (qsub _ _ _ HSUB.out)) rfl ?_
  refine wp_y (v := .pointer (some ⟨g2, 2, none⟩)) rfl rfl (y_faddr rfl (by kernel_rfl) (by kernel_rfl) (fg76_2 (g2) (0))) rfl ?_
  refine wp_do rfl rfl (run_storeOp rfl (by kernel_rfl) (by kernel_rfl) HST7.out) ?_
  try simp only [List.setIfInBounds_toArray, List.set_cons_zero, List.set_cons_succ]
  refine wp_end ?_
  clear H5
  go_wp2_with fail
  go_loopw [15, 7] (fun y _ wr => ∃ k : Nat, k ≤ n ∧ y = .int .i64 k ∧ Rw wr g0 70 h ∧ Sb wr g1 [] 0 0 ∧ Sb wr g2 (lk h n k) (lef (lk h n k)) ((r : Int) - 1) ∧ Below g0 w wr) (fun y _ _ => n - (intOf y).toNat)
  case atStart => exact ⟨0, Nat.zero_le _, rfl, H7.out.1, H7.out.2.1, by rw [lk_zero, lef_none]; exact H7.out.2.2.1, H7.out.2.2.2.1⟩
  case round =>
    have HGG := hid H7.out.2.2.2.2
    clear H7
    obtain ⟨k, hk, rfl, hR, hS1, hS, hB⟩ := hrel
    have hn := HN.out
    have hwk : IntKind.i64.wrap ((k : Int) + 1) = ((k + 1 : Nat) : Int) := by rw [IntWalk.i64_in _ ⟨by omega, by omega⟩]; omega
    by_cases hlt : k < n
    · have hlt' : (k : Int) < (n : Int) := by omega
      have hix : 20 + k / 8 < 224 := by omega
      have hG := HGG.out
      have hG0 := HG0.out
      have hle := lef_le (lk h n k)
      rw [lk_len] at hle
      obtain ⟨x, hx⟩ : ∃ x, x = h.getD (20 + k / 8) 0 := ⟨_, rfl⟩
      obtain ⟨bk, hbk⟩ : ∃ bk, bk = (rbit h k == 1) := ⟨_, rfl⟩
      have hxb : x >>> UInt8.ofNat (k % 8) &&& 1 = b2u bk := by rw [hx, hbk]; exact rbit_01 h k
      have hkl : k < (lk h n k).length := by rw [lk_len]; exact hlt
      have HLD1 := hid (show (Instr.loadAt 5 (.pointer (some ⟨g0, 20 + k / 8, none⟩))).run Tryz.prog wr = .ok (cb x) wr by
        have hc := hR.rd (20 + k / 8) (by rw [HL.out]; omega)
        rw [Nat.zero_add] at hc
        rw [hx]
        exact load1 Tryz.isAgg5 hc)
      have hcu := hS.cu (by rw [lk_len]; exact hn) k hkl
      have HST1 := hid (store1 Tryz.sizeOf73 (.int .u8 (b2u bk).toNat) rfl rfl hcu (hS.fz (3 + k)))
      have hS6 := hS.su k bk hkl
      rw [hbk, lk_succ h n k hlt, ← hbk] at hS6
      have hF6 : Fr [g2] wr (wr.setCell ⟨g2, 3 + k, none⟩ (.int .u8 (b2u bk).toNat)) := Fr.setCell _ _ _ _
      generalize hw6 : wr.setCell ⟨g2, 3 + k, none⟩ (.int .u8 (b2u bk).toNat) = w6 at *
      have hlk6 : k < (lk h n (k + 1)).length := by rw [lk_len]; exact hlt
      have hcu6 := hS6.cu (by rw [lk_len]; exact hn) k hlk6
      have hgb : (lk h n (k + 1)).getD k false = bk := by rw [hbk, List.getD, lk_get h n (k + 1) k hlt]; simp
      rw [at8, useB_get _ k hlk6, hgb] at hcu6
      have HLD2 := hid (load1 Tryz.isAgg73 hcu6)
      have hR6 : Rw w6 g0 70 h := hF6.at hR (by simp; omega)
      have hS16 := hS1.fr hF6 (by simp; omega)
      have hB6 := hB.trans (hF6.below (by have := hB.size; omega) (by simp; omega))
      have hst := lef_step h n k hlt
      rw [← hbk] at hst
      have HXB := hid hxb
      have HIX := hid hix
      have HLT := hid hlt
      have HAD : Hid (IntKind.i64.wrap (20 + ((k / 8 : Nat) : Int)) = ((20 + k / 8 : Nat) : Int)) := hid (by rw [IntWalk.i64_in _ ⟨by omega, by omega⟩]; omega)
      cases bk with
      | true =>
        simp only [if_true] at hst
        have hc1 := hS6.c1
        have HSUB : Hid (IntKind.i64.wrap ((lef (lk h n k) : Int) - 1) = (lef (lk h n (k + 1)) : Int)) := hid (by rw [IntWalk.i64_in _ ⟨by omega, by omega⟩]; omega)
        have HLD3 := hid (load1 Tryz.isAgg3 hc1)
        have HST2 := hid (store1 Tryz.sizeOf3 (.int .i64 (lef (lk h n (k + 1)))) rfl rfl hc1 (hS6.fz 1))
        have hF7 : Fr [g2] w6 (w6.setCell ⟨g2, 1, none⟩ (.int .i64 (lef (lk h n (k + 1))))) := Fr.setCell _ _ _ _
        have HZ : Hid (Rw (w6.setCell ⟨g2, 1, none⟩ (.int .i64 (lef (lk h n (k + 1))))) g0 70 h ∧ Sb (w6.setCell ⟨g2, 1, none⟩ (.int .i64 (lef (lk h n (k + 1))))) g1 [] 0 0 ∧ Sb (w6.setCell ⟨g2, 1, none⟩ (.int .i64 (lef (lk h n (k + 1))))) g2 (lk h n (k + 1)) (lef (lk h n (k + 1))) ((r : Int) - 1) ∧ Below g0 w (w6.setCell ⟨g2, 1, none⟩ (.int .i64 (lef (lk h n (k + 1)))))) := hid ⟨hF7.at hR6 (by simp; omega), hS16.fr hF7 (by simp; omega), hS6.s1 _, hB6.trans (hF7.below (by have := hB6.size; omega) (by simp; omega))⟩
        clear hR hS1 hS hB hcu hS6 hF6 hw6 hcu6 hgb hR6 hS16 hB6 hst hxb hix hlt hk hG hG0 hle hx hbk hkl hlk6 hc1 hF7
        go_upto_region 6 with fail
        refine wp_region_lit ?_
        refine wp_y (v := .int .i64 k) rfl rfl (y_move rfl (by kernel_rfl) (by kernel_rfl)) rfl ?_
        refine wp_y (v := .int .i64 k) rfl rfl (y_move rfl (by kernel_rfl) (by kernel_rfl)) rfl ?_
        refine wp_y (v := .int .i64 ((k / 8 : Nat) : Int)) rfl rfl (y_bin (k := .i64) (k' := .i64) (m := k) (n := 8) rfl (by kernel_rfl) (by kernel_rfl) (by kernel_rfl) (qquo8 k (by have := HLT.out; omega))) rfl ?_
        refine wp_y (v := .int .i64 ((20 + k / 8 : Nat) : Int)) rfl rfl (y_bin (k := .i64) (k' := .i64) (m := 20) (n := ((k / 8 : Nat) : Int)) rfl (by kernel_rfl) (by kernel_rfl) (by kernel_rfl) (qadd _ _ _ HAD.out)) rfl ?_
        refine wp_y (v := .pointer (some ⟨g0, 20 + k / 8, none⟩)) rfl rfl (y_index rfl (by kernel_rfl) (by kernel_rfl) (by kernel_rfl) (ix70 g0 (20 + k / 8) HIX.out)) rfl ?_
        refine wp_y (v := cb x) rfl rfl (y_load rfl (by kernel_rfl) (by kernel_rfl) (fun w' h => by rw [h]; exact HLD1.out)) rfl ?_
        refine wp_y (v := .int .i64 k) rfl rfl (y_move rfl (by kernel_rfl) (by kernel_rfl)) rfl ?_
        refine wp_y (v := .int .i64 ((k % 8 : Nat) : Int)) rfl rfl (y_bin (k := .i64) (k' := .i64) (m := k) (n := 8) rfl (by kernel_rfl) (by kernel_rfl) (by kernel_rfl) (qrem8 k)) rfl ?_
        try simp only [List.setIfInBounds_toArray, List.set_cons_zero, List.set_cons_succ]
        refine wp_y (v := cb (x >>> UInt8.ofNat (k % 8))) rfl rfl (y_bin (k := .u8) (k' := .i64) (m := x.toNat) (n := ((k % 8 : Nat) : Int)) rfl (by kernel_rfl) (by kernel_rfl) (by kernel_rfl) (qshrU x (k % 8) (Nat.mod_lt _ (by decide)))) rfl ?_
        refine wp_y (v := .int .u8 (b2u true).toNat) rfl rfl (y_bin (k := .u8) (k' := .u8) (m := (x >>> UInt8.ofNat (k % 8)).toNat) (n := 1) rfl (by kernel_rfl) (by kernel_rfl) (by kernel_rfl) (by have := qandU (x >>> UInt8.ofNat (k % 8)); rw [HXB.out] at this; exact this)) rfl ?_
        refine wp_y (v := .pointer (some ⟨g2, 3, none⟩)) rfl rfl (y_faddr rfl (by kernel_rfl) (by kernel_rfl) (fg76_3 (g2) (0))) rfl ?_
        refine wp_y (v := .pointer (some ⟨g2, 3 + k, none⟩)) rfl rfl (y_index rfl (by kernel_rfl) (by kernel_rfl) (by kernel_rfl) (ix74 g2 3 k (by have := HLT.out; omega))) rfl ?_
        refine wp_do rfl rfl (run_storeOp rfl (by kernel_rfl) (by kernel_rfl) HST1.out) ?_
        try simp only [List.setIfInBounds_toArray, List.set_cons_zero, List.set_cons_succ]
        refine wp_end ?_
        go_upto_region 7 with fail
        refine wp_region_lit ?_
        refine wp_y (v := .int .i64 k) rfl rfl (y_move rfl (by kernel_rfl) (by kernel_rfl)) rfl ?_
        refine wp_y (v := .pointer (some ⟨g2, 3, none⟩)) rfl rfl (y_faddr rfl (by kernel_rfl) (by kernel_rfl) (fg76_3 (g2) (0))) rfl ?_
        refine wp_y (v := .pointer (some ⟨g2, 3 + k, none⟩)) rfl rfl (y_index rfl (by kernel_rfl) (by kernel_rfl) (by kernel_rfl) (ix74 g2 3 k (by have := HLT.out; omega))) rfl ?_
        refine wp_y (v := .int .u8 (b2u true).toNat) rfl rfl (y_load rfl (by kernel_rfl) (by kernel_rfl) (fun w' h => by rw [h]; exact HLD2.out)) rfl ?_
        refine wp_y (v := .bool true) rfl rfl (y_bin (k := .u8) (k' := .u8) (m := (b2u true).toNat) (n := 1) rfl (by kernel_rfl) (by kernel_rfl) (by kernel_rfl) (qeqlU _ _ _ rfl)) rfl ?_
        try simp only [List.setIfInBounds_toArray, List.set_cons_zero, List.set_cons_succ]
        refine wp_end ?_
        go_upto_region 8 with fail
        refine wp_region_lit ?_
        refine wp_y (v := .pointer (some ⟨g2, 1, none⟩)) rfl rfl (y_faddr rfl (by kernel_rfl) (by kernel_rfl) (fg76_1 (g2) (0))) rfl ?_
        refine wp_y (v := .int .i64 (lef (lk h n k))) rfl rfl (y_load rfl (by kernel_rfl) (by kernel_rfl) (fun w' h => by rw [h]; exact HLD3.out)) rfl ?_
        refine wp_y (v := .int .i64 (lef (lk h n (k + 1)))) rfl rfl (y_bin (k := .i64) (k' := .i64) (m := (lef (lk h n k))) (n := 1) rfl (by kernel_rfl) (by kernel_rfl) (by kernel_rfl) (qsub _ _ _ HSUB.out)) rfl ?_
        refine wp_y (v := .pointer (some ⟨g2, 1, none⟩)) rfl rfl (y_faddr rfl (by kernel_rfl) (by kernel_rfl) (fg76_1 (g2) (0))) rfl ?_
        refine wp_do rfl rfl (run_storeOp rfl (by kernel_rfl) (by kernel_rfl) HST2.out) ?_
        try simp only [List.setIfInBounds_toArray, List.set_cons_zero, List.set_cons_succ]
        refine wp_end ?_
        go_wp2_with fail
        exact ⟨⟨k + 1, HLT.out, rfl, HZ.out⟩, by have := HLT.out; simp [intOf]; omega⟩
      | false =>
        simp only [Bool.false_eq_true, if_false, Int.sub_zero] at hst
        rw [← hst] at hS6
        have HZ : Hid (Rw w6 g0 70 h ∧ Sb w6 g1 [] 0 0 ∧ Sb w6 g2 (lk h n (k + 1)) (lef (lk h n (k + 1))) ((r : Int) - 1) ∧ Below g0 w w6) := hid ⟨hR6, hS16, hS6, hB6⟩
        clear hR hS1 hS hB hcu hS6 hF6 hw6 hcu6 hgb hR6 hS16 hB6 hst hxb hix hlt hk hG hG0 hle hx hbk hkl hlk6
        go_upto_region 6 with fail
        refine wp_region_lit ?_
        refine wp_y (v := .int .i64 k) rfl rfl (y_move rfl (by kernel_rfl) (by kernel_rfl)) rfl ?_
        refine wp_y (v := .int .i64 k) rfl rfl (y_move rfl (by kernel_rfl) (by kernel_rfl)) rfl ?_
        refine wp_y (v := .int .i64 ((k / 8 : Nat) : Int)) rfl rfl (y_bin (k := .i64) (k' := .i64) (m := k) (n := 8) rfl (by kernel_rfl) (by kernel_rfl) (by kernel_rfl) (qquo8 k (by have := HLT.out; omega))) rfl ?_
        refine wp_y (v := .int .i64 ((20 + k / 8 : Nat) : Int)) rfl rfl (y_bin (k := .i64) (k' := .i64) (m := 20) (n := ((k / 8 : Nat) : Int)) rfl (by kernel_rfl) (by kernel_rfl) (by kernel_rfl) (qadd _ _ _ HAD.out)) rfl ?_
        refine wp_y (v := .pointer (some ⟨g0, 20 + k / 8, none⟩)) rfl rfl (y_index rfl (by kernel_rfl) (by kernel_rfl) (by kernel_rfl) (ix70 g0 (20 + k / 8) HIX.out)) rfl ?_
        refine wp_y (v := cb x) rfl rfl (y_load rfl (by kernel_rfl) (by kernel_rfl) (fun w' h => by rw [h]; exact HLD1.out)) rfl ?_
        refine wp_y (v := .int .i64 k) rfl rfl (y_move rfl (by kernel_rfl) (by kernel_rfl)) rfl ?_
        refine wp_y (v := .int .i64 ((k % 8 : Nat) : Int)) rfl rfl (y_bin (k := .i64) (k' := .i64) (m := k) (n := 8) rfl (by kernel_rfl) (by kernel_rfl) (by kernel_rfl) (qrem8 k)) rfl ?_
        try simp only [List.setIfInBounds_toArray, List.set_cons_zero, List.set_cons_succ]
        refine wp_y (v := cb (x >>> UInt8.ofNat (k % 8))) rfl rfl (y_bin (k := .u8) (k' := .i64) (m := x.toNat) (n := ((k % 8 : Nat) : Int)) rfl (by kernel_rfl) (by kernel_rfl) (by kernel_rfl) (qshrU x (k % 8) (Nat.mod_lt _ (by decide)))) rfl ?_
        refine wp_y (v := .int .u8 (b2u false).toNat) rfl rfl (y_bin (k := .u8) (k' := .u8) (m := (x >>> UInt8.ofNat (k % 8)).toNat) (n := 1) rfl (by kernel_rfl) (by kernel_rfl) (by kernel_rfl) (by have := qandU (x >>> UInt8.ofNat (k % 8)); rw [HXB.out] at this; exact this)) rfl ?_
        refine wp_y (v := .pointer (some ⟨g2, 3, none⟩)) rfl rfl (y_faddr rfl (by kernel_rfl) (by kernel_rfl) (fg76_3 (g2) (0))) rfl ?_
        refine wp_y (v := .pointer (some ⟨g2, 3 + k, none⟩)) rfl rfl (y_index rfl (by kernel_rfl) (by kernel_rfl) (by kernel_rfl) (ix74 g2 3 k (by have := HLT.out; omega))) rfl ?_
        refine wp_do rfl rfl (run_storeOp rfl (by kernel_rfl) (by kernel_rfl) HST1.out) ?_
        try simp only [List.setIfInBounds_toArray, List.set_cons_zero, List.set_cons_succ]
        refine wp_end ?_
        go_upto_region 7 with fail
        refine wp_region_lit ?_
        refine wp_y (v := .int .i64 k) rfl rfl (y_move rfl (by kernel_rfl) (by kernel_rfl)) rfl ?_
        refine wp_y (v := .pointer (some ⟨g2, 3, none⟩)) rfl rfl (y_faddr rfl (by kernel_rfl) (by kernel_rfl) (fg76_3 (g2) (0))) rfl ?_
        refine wp_y (v := .pointer (some ⟨g2, 3 + k, none⟩)) rfl rfl (y_index rfl (by kernel_rfl) (by kernel_rfl) (by kernel_rfl) (ix74 g2 3 k (by have := HLT.out; omega))) rfl ?_
        refine wp_y (v := .int .u8 (b2u false).toNat) rfl rfl (y_load rfl (by kernel_rfl) (by kernel_rfl) (fun w' h => by rw [h]; exact HLD2.out)) rfl ?_
        refine wp_y (v := .bool false) rfl rfl (y_bin (k := .u8) (k' := .u8) (m := (b2u false).toNat) (n := 1) rfl (by kernel_rfl) (by kernel_rfl) (by kernel_rfl) (qeqlU _ _ _ rfl)) rfl ?_
        try simp only [List.setIfInBounds_toArray, List.set_cons_zero, List.set_cons_succ]
        refine wp_end ?_
        go_wp2_with fail
        exact ⟨⟨k + 1, HLT.out, rfl, HZ.out⟩, by have := HLT.out; simp [intOf]; omega⟩
    · obtain rfl : k = n := by omega
      have hlt' : ¬ (k : Int) < (k : Int) := by omega
      have hll : l.length ≤ 1023 := by rw [← HLE.out, lk_len]; exact hn
      rw [HLE.out] at hS
      have hG := HGG.out
      have hG0 := HG0.out
      have hrl : r < 65536 := by
        have h1 := (h.getD 18 0).toNat_lt
        have h2 := (h.getD 19 0).toNat_lt
        have h3 := HR.out
        omega
      have HRT : Hid (Calls Tryz.prog 83 #[.pointer (some ⟨g2, 0, none⟩)] wr.drew fun e w' => e = .returned (.bool true) ∧ w' = wr.drew.drew) := hid (by
        have hSd : Sb wr.drew g2 l (lef l) ((r : Int) - 1) := hS
        rcases HROOT.out with h0 | ⟨q, hq, hlq⟩
        · rw [h0] at hSd
          exact rooted_none hSd
        · rw [hq, show (((q + 1 : Nat) : Int) - 1) = (q : Nat) by omega] at hSd
          exact rooted_in hSd hll hlq)
      have hd2 : Below wr.heap.size wr wr.drew.drew := ((Below.refl _ _).drew).trans ((Below.refl _ _).drew)
      have HS10 := hid (show Sb wr.drew g2 l (lef l) ((r : Int) - 1) ∧ Rw wr.drew g0 70 h from ⟨hS, hR⟩)
      have HS11 := hid (show Sb wr.drew.drew g2 l (lef l) ((r : Int) - 1) ∧ Rw wr.drew.drew g0 70 h from ⟨hS, hR⟩)
      have HHD := hid (head_state l (lef l) ((r : Int) - 1) hll r (by omega) hrl wr.drew.drew)
      have HLL := hid hll
      have HK := hid (And.intro hS1 (And.intro hB (And.intro hd2 (show g0 < g1 ∧ g1 < g2 ∧ g2 < wr.heap.size from ⟨hG.1, hG.2, heap_lt hS⟩))))
      have HHL := hid (show hd.length = 224 by rw [← HHDE.out]; exact hdOf_len l r)
      rw [HHDE.out] at HHD
      generalize (lef l : Int) = ll at *
      generalize ((r : Int) - 1) = rr at *
      clear hR hS1 hS hB hk hlt hG hG0 hrl hd2 hll HROOT HR
      go_wp2_with fail
      refine h_openL (S := fun w' => Sb w' g2 l ll rr ∧ Rw w' g0 70 h) (by kernel_rfl) (by kernel_rfl) (fun _ _ _ _ _ h => h) (L := #[false, false, false, false, false, false, false, false]) (by kernel_rfl) ?_
      intro Q' hns hP hN
      have hS := HS10.out
      refine h_callL (i := 0) (f := 83) (args := #[.pointer (some ⟨g2, 0, none⟩)]) (by kernel_rfl) rfl rfl (by kernel_rfl) (enter_go rfl (by kernel_rfl) (fun w => by go_simp)) (L' := #[true, false, false, false, false, false, false, false]) (by kernel_rfl) ?_
      refine HRT.out.mono ?_
      rintro e w8 ⟨rfl, rfl⟩
      refine ⟨_, rfl, HS11.out, ?_⟩
      have hS2 := HS11.out
      clear hS
      have hS := hS2
      refine h_takeL (i := 1) (v := .bool false) hns rfl rfl (by kernel_rfl) (by kernel_rfl) hP (y_un rfl (by kernel_rfl) (by kernel_rfl) (not_b true)) hS rfl (L' := #[true, true, false, false, false, false, false, false]) (by kernel_rfl) ?_
      refine h_takeL (i := 2) (v := .bool false) hns rfl rfl (by kernel_rfl) (by kernel_rfl) hP (y_move rfl (by kernel_rfl) (by kernel_rfl)) hS rfl (L' := #[true, true, true, false, false, false, false, false]) (by kernel_rfl) ?_
      refine h_takeL (i := 3) (v := St l ll rr) hns rfl rfl (by kernel_rfl) (by kernel_rfl) hP (y_load rfl (by kernel_rfl) (by kernel_rfl) (fun w' h => pload76 HLL.out h.1)) hS rfl (L' := #[true, true, true, true, false, false, false, false]) (by kernel_rfl) ?_
      refine h_takeL (i := 5) (v := V8 h) hns rfl rfl (by kernel_rfl) (by kernel_rfl) hP (y_load rfl (by kernel_rfl) (by kernel_rfl) (fun w' h => pload70 HL.out h.2)) hS rfl (L' := #[true, true, true, true, false, true, false, false]) (by kernel_rfl) ?_
      refine h_callL (i := 4) (f := 84) (args := #[St l ll rr]) (by kernel_rfl) rfl rfl (by kernel_rfl) (enter_go rfl (by kernel_rfl) (fun w => by go_simp)) (L' := #[true, true, true, true, true, true, false, false]) (by kernel_rfl) ?_
      refine HHD.out.mono ?_
      rintro e w9 ⟨rfl, hB9⟩
      have hS9 : Sb w9 g2 l ll rr ∧ Rw w9 g0 70 h := ⟨hS.1.below hB9 (heap_lt hS.1), hS.2.below hB9 hS.2.lt⟩
      refine ⟨_, rfl, hS9, ?_⟩
      clear hS
      have hS := hS9
      refine h_takeL (i := 6) (v := .bool (!decide (hd = h))) hns rfl rfl (by kernel_rfl) (by kernel_rfl) hP (y_neq70 HHL.out HL.out rfl (by kernel_rfl) (by kernel_rfl) (by kernel_rfl) rfl) hS rfl (L' := #[true, true, true, true, true, true, true, false]) (by kernel_rfl) ?_
      try simp only [List.setIfInBounds_toArray, List.set_cons_zero, List.set_cons_succ]
      refine h_takeL (i := 7) (v := .bool (!decide (hd = h))) hns rfl rfl (by kernel_rfl) (by kernel_rfl) hP (y_pick (b := false) rfl (by kernel_rfl) (by kernel_rfl) (by kernel_rfl)) hS rfl (L' := #[true, true, true, true, true, true, true, true]) (by kernel_rfl) ?_
      try simp only [List.setIfInBounds_toArray, List.set_cons_zero, List.set_cons_succ]
      refine wpAnyH_done (by kernel_rfl) ?_ _
      refine hN _ _ ?_
      clear hP hN hns
      clear hS hS2
      have hk := HK.out
      have hG0 := HG0.out
      have hs1 : Sb w9 g1 [] 0 0 := (hk.1.below hk.2.2.1 (by omega)).below hB9 (by have := hk.2.2.1.size; omega)
      have hs2 : Sb w9 g2 l ll rr := hS9.1
      have hb9 : Below g0 w w9 := (hk.2.1.trans (hk.2.2.1.mono (by have := hk.2.1.size; omega))).trans (hB9.mono (by have := hk.2.1.size; have := hk.2.2.1.size; omega))
      have hl0 : ([] : List Bool).length ≤ 1023 := by simp
      clear hS9 HS10 HS11
      by_cases he : hd = h
      · have HST := hid (pstore76 hl0 HLL.out hs1 (kl' := ll) (kr' := rr))
        have HLR := hid (pload76 HLL.out (hs1.row l ll rr))
        have HLD := hid (pload76 HLL.out hs2)
        have HZ : Hid (Below w.heap.size w (w9.setRow g1 (stC l ll rr).toArray)) := hid (by
          rw [HG0.out]
          exact hb9.trans ((Fr.setRow w9 g1 _).below (by have := hb9.size; omega) (by simp; omega)))
        have HFIN : Hid (Ending.returned (.tuple #[St l ll rr, .bool true]) = .returned (.tuple #[V, .bool bb])) := hid (by rw [← HV.out, ← HBB.out, if_pos he, decide_eq_true he])
        simp only [decide_eq_true he, Bool.not_true]
        clear hs1 hs2 hb9 hl0 hk hG0 hB9 he HV HBB
        go_upto_region 12 with fail
        refine wp_region_lit ?_
        refine wp_y (v := St l ll rr) rfl rfl (y_load rfl (by kernel_rfl) (by kernel_rfl) (fun w' h => by rw [h]; exact HLD.out)) rfl ?_
        refine wp_do rfl rfl (run_storeOp rfl (by kernel_rfl) (by kernel_rfl) HST.out) ?_
        refine wp_y (v := (.bool true)) rfl rfl (y_assign rfl (by kernel_rfl) (by kernel_rfl)) rfl ?_
        try simp only [List.setIfInBounds_toArray, List.set_cons_zero, List.set_cons_succ]
        refine wp_end ?_
        go_wp2_with fail
        exact ret_pair rfl rfl rfl HLR.out ⟨HFIN.out, HZ.out⟩
      · have HST := hid (pstore76 hl0 hl0 hs1 (kl' := 0) (kr' := 0))
        have HLR := hid (pload76 hl0 (hs1.row [] 0 0))
        have HZ : Hid (Below w.heap.size w (w9.setRow g1 (stC [] 0 0).toArray)) := hid (by
          rw [HG0.out]
          exact hb9.trans ((Fr.setRow w9 g1 _).below (by have := hb9.size; omega) (by simp; omega)))
        have HFIN : Hid (Ending.returned (.tuple #[St [] 0 0, .bool false]) = .returned (.tuple #[V, .bool bb])) := hid (by rw [← HV.out, ← HBB.out, if_neg he, decide_eq_false he])
        simp only [decide_eq_false he, Bool.not_false]
        clear hs1 hs2 hb9 hl0 hk hG0 hB9 he HV HBB
        go_upto_region 11 with fail
        refine wp_region_lit ?_
        refine wp_run (v := St [] 0 0) rfl rfl (run_buildOp rfl (by kernel_rfl) (pbuild76e _)) rfl ?_
        refine wp_do rfl rfl (run_storeOp rfl (by kernel_rfl) (by kernel_rfl) HST.out) ?_
        refine wp_y (v := (.bool false)) rfl rfl (y_assign rfl (by kernel_rfl) (by kernel_rfl)) rfl ?_
        try simp only [List.setIfInBounds_toArray, List.set_cons_zero, List.set_cons_succ]
        refine wp_end ?_
        go_wp2_with fail
        exact ret_pair rfl rfl rfl HLR.out ⟨HFIN.out, HZ.out⟩
end Go.Proofs.YtdbgccgjdgomkaaGreatDoor
