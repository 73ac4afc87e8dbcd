/- the text SSamesW -/
import Derived.Test.YtmdpccjhjhkpgabGreatDoorSGa
import Derived.Test.YtmdpccjhjhkpgabGreatDoorSGj
namespace Go.Proofs.YtmdpccjhjhkpgabGreatDoor
open Go Go.RowKit

theorem eqlB (a b : Bool) (w : World) : (binOp .eql 4 (.bool a) (.bool b)).run Tryz.prog w = .ok (.bool (a == b)) w := by go_simp
theorem y_eqlB {ops : Array Oper} {S : World → Prop} {o : Oper} {a : Act} {x y : Operand} {t' : TypeId} {l m r : Bool} (hop : o.op = .binOp .eql 4 x y t') (hw : Region.wanted o (yielded ops a.tmps) = true) (hx : a.eval x = .bool l) (hy : a.eval y = .bool m) (hr : (l == m) = r) : YieldsIf Tryz.prog ops S o (.bool r) a :=
  .inl ⟨hw, fun w _ => by
    unfold execOp; rw [hop]; simp only [hx, hy, Sem.run_bind]
    have : (eqGuard .eql 4 x y (.bool l) (.bool m)).run Tryz.prog w = .ok () w := by
      unfold eqGuard; go_simp
    rw [this]; simp only [Result.andThen_ok, eqlB, hr]; rfl⟩
set_option maxRecDepth 100000 in
set_option maxHeartbeats 1000000 in
seal wpList in
theorem showSames_any {w : World} (hsh : ∀ w1 : World, Below w.heap.size w w1 → Calls Tryz.prog 4 #[] w1 fun e w' => e = .returned (.bool true) ∧ Below w1.heap.size w1 w') {v v' : Value} {t t' : Tr} (hN : Nd w v t) (hM : Nd w v' t') :
    Calls Tryz.prog 3 #[v, v'] w fun e w' => e = .returned (.bool true) ∧ Below w.heap.size w w' := by
  obtain ⟨k, tx, n, kids, at_⟩ := t
  obtain ⟨k', tx', n', kids', at'⟩ := t'
  obtain ⟨a, c, rfl, -, -⟩ := hN.open
  obtain ⟨a', c', rfl, -, -⟩ := hM.open
  obtain ⟨w1, hbx, hS1, hB1, hz1⟩ := box24 w k tx n (.slice a kids.length c) at_
  obtain ⟨w2, hbx2, hT2, hB2, hz2⟩ := box24 w1 k' tx' n' (.slice a' kids'.length c') at'
  obtain ⟨g0, hg0⟩ : ∃ g, w.heap.size = g := ⟨_, rfl⟩
  obtain ⟨g1, hg1⟩ : ∃ g, w1.heap.size = g := ⟨_, rfl⟩
  rw [hg1] at hbx2 hT2 hB2 hz2 hz1
  rw [hg0] at hbx hS1 hB1 hz1 ⊢
  have hS2 := below_at hB2 hS1 (by omega)
  have hB02 : Below g0 w w2 := hB1.trans (hB2.mono (by omega))
  have HBX := hid hbx
  have HBX2 := hid hbx2
  have HSH := hid (hsh w2 (by rw [hg0]; exact hB02))
  have HW : Hid (∀ w5, Below w2.heap.size w2 w5 → Below g0 w w5 ∧ Nd w5 (nv k tx n (.slice a kids.length c) at_) (.mk k tx n kids at_) ∧ Nd w5 (nv k' tx' n' (.slice a' kids'.length c') at') (.mk k' tx' n' kids' at') ∧ (Instr.loadAt 24 (.pointer (some ⟨g0, 0, none⟩))).run Tryz.prog w5 = .ok (nv k tx n (.slice a kids.length c) at_) w5 ∧ (Instr.loadAt 24 (.pointer (some ⟨g1, 0, none⟩))).run Tryz.prog w5 = .ok (nv k' tx' n' (.slice a' kids'.length c') at') w5) := hid (fun w5 h => by
    have hb : Below g0 w w5 := hB02.trans (h.mono (by omega))
    have hb' : Below w.heap.size w w5 := by rw [hg0]; exact hb
    have hS5 := below_at h hS2 (by omega)
    have hT5 := below_at h hT2 (by omega)
    exact ⟨hb, hN.later hb', hM.later hb', load24 ⟨k, tx, n, _, at_, rfl, cell_at hS5 0 rfl, cell_at hS5 1 rfl, cell_at hS5 2 rfl, cell_at hS5 3 rfl, cell_at hS5 4 rfl⟩, load24 ⟨k', tx', n', _, at', rfl, cell_at hT5 0 rfl, cell_at hT5 1 rfl, cell_at hT5 2 rfl, cell_at hT5 3 rfl, cell_at hT5 4 rfl⟩⟩)
  clear hbx hbx2 hS1 hT2 hB1 hB2 hz1 hz2 hg0 hg1 hS2 hB02 hN hM hsh
  generalize kids.length = N at *
  generalize kids'.length = M at *
  obtain ⟨T, hT⟩ : ∃ T, Tr.mk k tx n kids at_ = T := ⟨_, rfl⟩
  obtain ⟨T', hT'⟩ : ∃ T, Tr.mk k' tx' n' kids' at' = T := ⟨_, rfl⟩
  rw [hT, hT'] at HW
  clear hT hT'
  go_enter Tryz.func3, Tryz.ntmps3
  go_upto_region 0 with fail
  refine wp_region_lit ?_
  refine wp_run (v := .pointer (some ⟨g0, 0, none⟩)) rfl rfl (run_boxOp rfl (by kernel_rfl) HBX.out) rfl ?_
  try simp only [nmA, nmB, nmC]
  refine wp_run (v := .pointer (some ⟨g1, 0, none⟩)) rfl rfl (run_boxOp rfl (by kernel_rfl) HBX2.out) rfl ?_
  try simp only [nmA, nmB, nmC]
  refine wp_y (v := (.bool false)) rfl rfl (y_assign rfl) rfl ?_
  try simp only [nmA, nmB, nmC]
  refine wp_end ?_
  clear HBX HBX2
  go_upto_region 1 with fail
  refine wp_region_lit ?_
  refine wp_call (f := 4) (args := #[]) (by kernel_rfl) (fun w => by go_simp) ?_
  refine HSH.out.mono ?_
  rintro e w3 ⟨rfl, hB3⟩
  refine ⟨_, rfl, ?_⟩
  have HB3 := hid hB3
  clear hB3 HSH
  dsimp only [Act.put]
  try simp only [nmA, nmB, nmC]
  refine wp_y (v := .bool true) rfl rfl (y_assign rfl) rfl ?_
  try simp only [nmA, nmB, nmC]
  refine wp_end ?_
  have HQ1 : Hid ((samL T T' 8192 == (sml T && sml T' && sam T T')) = true) := hid (by rw [same_eq]; simp)
  have HQ2 : Hid ((samL T' T 8192 == (sml T' && sml T && sam T' T)) = true) := hid (by rw [same_eq]; simp)
  have HQ3 : Hid ((samL T T 8192 == sml T) = true) := hid (by rw [same_self]; simp)
  go_upto_region 2 with fail
  refine h_openL (S := fun w' => Below w2.heap.size w2 w') (by kernel_rfl) (by kernel_rfl) (fun _ _ _ _ _ h => h) (L := #[false, false, false, false, false, false, false, false, false, false, false, false, false, false, false, false, false, false, false, false, false, false, false, false, false, false, false, false]) (by kernel_rfl) ?_
  intro Q' hns hP hN
  have hS := (show Below w2.heap.size w2 w3.drew from HB3.out.drew)
  refine h_takeL (i := 0) (v := .bool true) hns rfl rfl (by kernel_rfl) (by kernel_rfl) hP (y_move rfl) hS rfl (L' := #[true, false, false, false, false, false, false, false, false, false, false, false, false, false, false, false, false, false, false, false, false, false, false, false, false, false, false, false]) (by kernel_rfl) ?_
  refine h_takeL (i := 1) (v := .bool true) hns rfl rfl (by kernel_rfl) (by kernel_rfl) hP (y_move rfl) hS rfl (L' := #[true, true, false, false, false, false, false, false, false, false, false, false, false, false, false, false, false, false, false, false, false, false, false, false, false, false, false, false]) (by kernel_rfl) ?_
  refine h_takeL (i := 2) (v := nv k tx n (.slice a N c) at_) hns rfl rfl (by kernel_rfl) (by kernel_rfl) hP (y_load rfl (hl := fun w' h => (HW.out w' h).2.2.2.1)) hS rfl (L' := #[true, true, true, false, false, false, false, false, false, false, false, false, false, false, false, false, false, false, false, false, false, false, false, false, false, false, false, false]) (by kernel_rfl) ?_
  refine h_takeL (i := 3) (v := nv k' tx' n' (.slice a' M c') at') hns rfl rfl (by kernel_rfl) (by kernel_rfl) hP (y_load rfl (hl := fun w' h => (HW.out w' h).2.2.2.2)) hS rfl (L' := #[true, true, true, true, false, false, false, false, false, false, false, false, false, false, false, false, false, false, false, false, false, false, false, false, false, false, false, false]) (by kernel_rfl) ?_
  refine h_takeL (i := 5) (v := nv k tx n (.slice a N c) at_) hns rfl rfl (by kernel_rfl) (by kernel_rfl) hP (y_load rfl (hl := fun w' h => (HW.out w' h).2.2.2.1)) hS rfl (L' := #[true, true, true, true, false, true, false, false, false, false, false, false, false, false, false, false, false, false, false, false, false, false, false, false, false, false, false, false]) (by kernel_rfl) ?_
  refine h_takeL (i := 6) (v := nv k' tx' n' (.slice a' M c') at') hns rfl rfl (by kernel_rfl) (by kernel_rfl) hP (y_load rfl (hl := fun w' h => (HW.out w' h).2.2.2.2)) hS rfl (L' := #[true, true, true, true, false, true, true, false, false, false, false, false, false, false, false, false, false, false, false, false, false, false, false, false, false, false, false, false]) (by kernel_rfl) ?_
  refine h_callL (i := 4) (f := 5) (args := #[nv k tx n (.slice a N c) at_, nv k' tx' n' (.slice a' M c') at']) (by kernel_rfl) rfl rfl (by kernel_rfl) (enter_go rfl (by kernel_rfl) (fun w => by go_simp)) (L' := #[true, true, true, true, true, true, true, false, false, false, false, false, false, false, false, false, false, false, false, false, false, false, false, false, false, false, false, false]) (by kernel_rfl) ?_
  refine (same18 (HW.out _ hS).2.1 (HW.out _ hS).2.2.1).mono ?_
  rintro e w4 ⟨rfl, hBn⟩
  replace hS := hS.trans (hBn.mono hS.size)
  refine ⟨_, rfl, hS, ?_⟩
  clear hBn
  try simp only [nmA, nmB, nmC]
  refine h_callL (i := 7) (f := 6) (args := #[nv k tx n (.slice a N c) at_, nv k' tx' n' (.slice a' M c') at']) (by kernel_rfl) rfl rfl (by kernel_rfl) (enter_go rfl (by kernel_rfl) (fun w => by go_simp)) (L' := #[true, true, true, true, true, true, true, true, false, false, false, false, false, false, false, false, false, false, false, false, false, false, false, false, false, false, false, false]) (by kernel_rfl) ?_
  refine (same19 (HW.out _ hS).2.1 (HW.out _ hS).2.2.1).mono ?_
  rintro e w5 ⟨rfl, hBn⟩
  replace hS := hS.trans (hBn.mono hS.size)
  refine ⟨_, rfl, hS, ?_⟩
  clear hBn
  refine h_takeL (i := 8) (v := .bool true) hns rfl rfl (by kernel_rfl) (by kernel_rfl) hP (y_eqlB rfl (by kernel_rfl) (by kernel_rfl) (by kernel_rfl) HQ1.out) hS rfl (L' := #[true, true, true, true, true, true, true, true, true, false, false, false, false, false, false, false, false, false, false, false, false, false, false, false, false, false, false, false]) (by kernel_rfl) ?_
  refine h_takeL (i := 9) (v := .bool true) hns rfl rfl (by kernel_rfl) (by kernel_rfl) hP (y_pick (b := true) rfl) hS rfl (L' := #[true, true, true, true, true, true, true, true, true, true, false, false, false, false, false, false, false, false, false, false, false, false, false, false, false, false, false, false]) (by kernel_rfl) ?_
  refine h_takeL (i := 10) (v := .bool true) hns rfl rfl (by kernel_rfl) (by kernel_rfl) hP (y_move rfl) hS rfl (L' := #[true, true, true, true, true, true, true, true, true, true, true, false, false, false, false, false, false, false, false, false, false, false, false, false, false, false, false, false]) (by kernel_rfl) ?_
  refine h_takeL (i := 11) (v := nv k' tx' n' (.slice a' M c') at') hns rfl rfl (by kernel_rfl) (by kernel_rfl) hP (y_load rfl (hl := fun w' h => (HW.out w' h).2.2.2.2)) hS rfl (L' := #[true, true, true, true, true, true, true, true, true, true, true, true, false, false, false, false, false, false, false, false, false, false, false, false, false, false, false, false]) (by kernel_rfl) ?_
  refine h_takeL (i := 12) (v := nv k tx n (.slice a N c) at_) hns rfl rfl (by kernel_rfl) (by kernel_rfl) hP (y_load rfl (hl := fun w' h => (HW.out w' h).2.2.2.1)) hS rfl (L' := #[true, true, true, true, true, true, true, true, true, true, true, true, true, false, false, false, false, false, false, false, false, false, false, false, false, false, false, false]) (by kernel_rfl) ?_
  refine h_takeL (i := 14) (v := nv k' tx' n' (.slice a' M c') at') hns rfl rfl (by kernel_rfl) (by kernel_rfl) hP (y_load rfl (hl := fun w' h => (HW.out w' h).2.2.2.2)) hS rfl (L' := #[true, true, true, true, true, true, true, true, true, true, true, true, true, false, true, false, false, false, false, false, false, false, false, false, false, false, false, false]) (by kernel_rfl) ?_
  refine h_takeL (i := 15) (v := nv k tx n (.slice a N c) at_) hns rfl rfl (by kernel_rfl) (by kernel_rfl) hP (y_load rfl (hl := fun w' h => (HW.out w' h).2.2.2.1)) hS rfl (L' := #[true, true, true, true, true, true, true, true, true, true, true, true, true, false, true, true, false, false, false, false, false, false, false, false, false, false, false, false]) (by kernel_rfl) ?_
  try simp only [nmA, nmB, nmC]
  refine h_callL (i := 13) (f := 5) (args := #[nv k' tx' n' (.slice a' M c') at', nv k tx n (.slice a N c) at_]) (by kernel_rfl) rfl rfl (by kernel_rfl) (enter_go rfl (by kernel_rfl) (fun w => by go_simp)) (L' := #[true, true, true, true, true, true, true, true, true, true, true, true, true, true, true, true, false, false, false, false, false, false, false, false, false, false, false, false]) (by kernel_rfl) ?_
  refine (same18 (HW.out _ hS).2.2.1 (HW.out _ hS).2.1).mono ?_
  rintro e w6 ⟨rfl, hBn⟩
  replace hS := hS.trans (hBn.mono hS.size)
  refine ⟨_, rfl, hS, ?_⟩
  clear hBn
  refine h_callL (i := 16) (f := 6) (args := #[nv k' tx' n' (.slice a' M c') at', nv k tx n (.slice a N c) at_]) (by kernel_rfl) rfl rfl (by kernel_rfl) (enter_go rfl (by kernel_rfl) (fun w => by go_simp)) (L' := #[true, true, true, true, true, true, true, true, true, true, true, true, true, true, true, true, true, false, false, false, false, false, false, false, false, false, false, false]) (by kernel_rfl) ?_
  refine (same19 (HW.out _ hS).2.2.1 (HW.out _ hS).2.1).mono ?_
  rintro e w7 ⟨rfl, hBn⟩
  replace hS := hS.trans (hBn.mono hS.size)
  refine ⟨_, rfl, hS, ?_⟩
  clear hBn
  refine h_takeL (i := 17) (v := .bool true) hns rfl rfl (by kernel_rfl) (by kernel_rfl) hP (y_eqlB rfl (by kernel_rfl) (by kernel_rfl) (by kernel_rfl) HQ2.out) hS rfl (L' := #[true, true, true, true, true, true, true, true, true, true, true, true, true, true, true, true, true, true, false, false, false, false, false, false, false, false, false, false]) (by kernel_rfl) ?_
  refine h_takeL (i := 18) (v := .bool true) hns rfl rfl (by kernel_rfl) (by kernel_rfl) hP (y_pick (b := true) rfl) hS rfl (L' := #[true, true, true, true, true, true, true, true, true, true, true, true, true, true, true, true, true, true, true, false, false, false, false, false, false, false, false, false]) (by kernel_rfl) ?_
  refine h_takeL (i := 19) (v := .bool true) hns rfl rfl (by kernel_rfl) (by kernel_rfl) hP (y_move rfl) hS rfl (L' := #[true, true, true, true, true, true, true, true, true, true, true, true, true, true, true, true, true, true, true, true, false, false, false, false, false, false, false, false]) (by kernel_rfl) ?_
  refine h_takeL (i := 20) (v := nv k tx n (.slice a N c) at_) hns rfl rfl (by kernel_rfl) (by kernel_rfl) hP (y_load rfl (hl := fun w' h => (HW.out w' h).2.2.2.1)) hS rfl (L' := #[true, true, true, true, true, true, true, true, true, true, true, true, true, true, true, true, true, true, true, true, true, false, false, false, false, false, false, false]) (by kernel_rfl) ?_
  refine h_takeL (i := 21) (v := nv k tx n (.slice a N c) at_) hns rfl rfl (by kernel_rfl) (by kernel_rfl) hP (y_load rfl (hl := fun w' h => (HW.out w' h).2.2.2.1)) hS rfl (L' := #[true, true, true, true, true, true, true, true, true, true, true, true, true, true, true, true, true, true, true, true, true, true, false, false, false, false, false, false]) (by kernel_rfl) ?_
  refine h_takeL (i := 23) (v := nv k tx n (.slice a N c) at_) hns rfl rfl (by kernel_rfl) (by kernel_rfl) hP (y_load rfl (hl := fun w' h => (HW.out w' h).2.2.2.1)) hS rfl (L' := #[true, true, true, true, true, true, true, true, true, true, true, true, true, true, true, true, true, true, true, true, true, true, false, true, false, false, false, false]) (by kernel_rfl) ?_
  try simp only [nmA, nmB, nmC]
  refine h_callL (i := 22) (f := 5) (args := #[nv k tx n (.slice a N c) at_, nv k tx n (.slice a N c) at_]) (by kernel_rfl) rfl rfl (by kernel_rfl) (enter_go rfl (by kernel_rfl) (fun w => by go_simp)) (L' := #[true, true, true, true, true, true, true, true, true, true, true, true, true, true, true, true, true, true, true, true, true, true, true, true, false, false, false, false]) (by kernel_rfl) ?_
  refine (same18 (HW.out _ hS).2.1 (HW.out _ hS).2.1).mono ?_
  rintro e w8 ⟨rfl, hBn⟩
  replace hS := hS.trans (hBn.mono hS.size)
  refine ⟨_, rfl, hS, ?_⟩
  clear hBn
  refine h_callL (i := 24) (f := 7) (args := #[nv k tx n (.slice a N c) at_]) (by kernel_rfl) rfl rfl (by kernel_rfl) (enter_go rfl (by kernel_rfl) (fun w => by go_simp)) (L' := #[true, true, true, true, true, true, true, true, true, true, true, true, true, true, true, true, true, true, true, true, true, true, true, true, true, false, false, false]) (by kernel_rfl) ?_
  refine (small_any (HW.out _ hS).2.1).mono ?_
  rintro e w9 ⟨rfl, hBn⟩
  replace hS := hS.trans (hBn.mono hS.size)
  refine ⟨_, rfl, hS, ?_⟩
  clear hBn
  refine h_takeL (i := 25) (v := .bool true) hns rfl rfl (by kernel_rfl) (by kernel_rfl) hP (y_eqlB rfl (by kernel_rfl) (by kernel_rfl) (by kernel_rfl) HQ3.out) hS rfl (L' := #[true, true, true, true, true, true, true, true, true, true, true, true, true, true, true, true, true, true, true, true, true, true, true, true, true, true, false, false]) (by kernel_rfl) ?_
  refine h_takeL (i := 26) (v := .bool true) hns rfl rfl (by kernel_rfl) (by kernel_rfl) hP (y_pick (b := true) rfl) hS rfl (L' := #[true, true, true, true, true, true, true, true, true, true, true, true, true, true, true, true, true, true, true, true, true, true, true, true, true, true, true, false]) (by kernel_rfl) ?_
  refine h_takeL (i := 27) (v := .bool true) hns rfl rfl (by kernel_rfl) (by kernel_rfl) hP (y_assign rfl) hS rfl (L' := #[true, true, true, true, true, true, true, true, true, true, true, true, true, true, true, true, true, true, true, true, true, true, true, true, true, true, true, true]) (by kernel_rfl) ?_
  try simp only [nmA, nmB, nmC]
  refine wpAnyH_done (by kernel_rfl) ?_ _
  refine hN _ _ ?_
  clear hP hN hns
  go_wp2_with fail
  go_ret
  exact ⟨rfl, (HW.out _ hS).1⟩
end Go.Proofs.YtmdpccjhjhkpgabGreatDoor
