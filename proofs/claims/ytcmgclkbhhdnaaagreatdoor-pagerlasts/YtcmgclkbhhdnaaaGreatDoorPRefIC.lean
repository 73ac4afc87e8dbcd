/- the text PRefI -/
import Derived.Test.YtcmgclkbhhdnaaaGreatDoorPRefHC
namespace Go.Proofs.YtcmgclkbhhdnaaaGreatDoor
open Go Go.RowKit
variable {Z : Nat → Prop}

theorem rbuild95c (a a' : Option Addr) (n c n' c' : Nat) (rt wr : Int) (ch : Bool) (w : World) : (Instr.build 95 #[(0, Rs (.slice a n c) rt), (1, Rs (.slice a' n' c') wr), (2, .bool ch)]).run Tryz.prog w = .ok (.agg #[.slice a n c, .int .i64 rt, .slice a' n' c', .int .i64 wr, .bool ch]) w := by unfold Rs; go_simp
set_option maxRecDepth 100000 in
set_option maxHeartbeats 400000 in
theorem rclone_all {w : World} {B r : Nat} {cur was : Pgs} {rt wr : Int} {ch : Bool} (h : Rp Z w B r cur was rt wr ch) (h1 : 1 ≤ cur.length) (h2 : cur.length ≤ 1023) (h3 : 1 ≤ was.length) (h4 : was.length ≤ 1023) :
    Calls Tryz.prog 19 #[.pointer (some ⟨r, 0, none⟩)] w fun e w' => ∃ r2, w.heap.size ≤ r2 ∧ e = .returned (.pointer (some ⟨r2, 0, none⟩)) ∧ Rp (fun _ => False) w' w.heap.size r2 cur was rt wr ch ∧ Below w.heap.size w w' := by
  obtain ⟨B0, hB0⟩ : ∃ B, w.heap.size = B := ⟨_, rfl⟩
  rw [hB0]
  obtain ⟨wd, hwd⟩ : ∃ wd, w.drew = wd := ⟨_, rfl⟩
  have hBd : Below B0 w wd := by rw [← hwd]; exact (Below.refl _ _).drew
  have hzd : wd.heap.size = B0 := by rw [← hwd]; exact hB0
  have h := h.below (by rw [hB0]; exact hBd)
  obtain ⟨hB, vp, vw, al, be, hr, hp, hw, hs, hs2, hne⟩ := h
  obtain ⟨a, c, rfl⟩ := owns_shape hp
  obtain ⟨a', c', rfl⟩ := owns_shape hw
  have HC1 := hid (clone_row hp h1 h2 rt)
  have HC2 : Hid (∀ w1, Below wd.heap.size wd w1 → Calls Tryz.prog 43 #[Rs (.slice a' was.length c') wr] w1 fun e w' => ∃ v', e = .returned (Rs v' wr) ∧ w'.ownsRow w1.heap.size 148 1 v' was.length (be.map pV) ∧ Below w1.heap.size w1 w') := hid (fun w1 hB1 => clone_row (owns_below2 hw hB1) h3 h4 wr)
  have H0 := hid (And.intro hs (And.intro hs2 (And.intro h1 h3)))
  have HS : Hid (wd.heap[r]? = some (.cells #[.slice a cur.length c, .int .i64 rt, .slice a' was.length c', .int .i64 wr, .bool ch] 95 (0, 0))) := hid hr
  have HBD := hid (And.intro hBd hzd)
  have HWD := hid hwd
  obtain ⟨n, hn⟩ : ∃ n, cur.length = n := ⟨_, rfl⟩
  obtain ⟨m, hm⟩ : ∃ n, was.length = n := ⟨_, rfl⟩
  rw [hn] at HC1
  rw [hn, hm] at HS
  rw [hm] at HC2
  have HN := hid (And.intro hn hm)
  clear hr hp hw hs hs2 hne hB h1 h2 h3 h4 hBd hzd hwd hn hm hB0
  go_enter Tryz.func19, Tryz.ntmps19
  go_upto_region 1 with fail
  refine h_openL (S := fun w' => w'.heap[r]? = some (.cells #[.slice a n c, .int .i64 rt, .slice a' m c', .int .i64 wr, .bool ch] 95 (0, 0))) (by kernel_rfl) (by kernel_rfl) (fun _ _ _ _ _ h => h) (L := #[false, false, false, false, false, false, false, false, false, false, false, false, false, false, false, false, false]) (by kernel_rfl) ?_
  intro Q' hns hP hN
  have hS := HS.out
  rw [HWD.out]
  refine h_takeL (i := 0) (v := .pointer (some ⟨r, 0, none⟩)) hns rfl rfl (by kernel_rfl) (by kernel_rfl) hP (y_move rfl) hS rfl (L' := #[true, false, false, false, false, false, false, false, false, false, false, false, false, false, false, false, false]) (by kernel_rfl) ?_
  refine h_takeL (i := 1) (v := .pointer (some ⟨r, 0, none⟩)) hns rfl rfl (by kernel_rfl) (by kernel_rfl) hP (y_nil rfl) hS rfl (L' := #[true, true, false, false, false, false, false, false, false, false, false, false, false, false, false, false, false]) (by kernel_rfl) ?_
  refine h_takeL (i := 2) (v := .pointer (some ⟨r, 0, none⟩)) hns rfl rfl (by kernel_rfl) (by kernel_rfl) hP (y_faddr rfl (hf := fa95_0 (r))) hS rfl (L' := #[true, true, true, false, false, false, false, false, false, false, false, false, false, false, false, false, false]) (by kernel_rfl) ?_
  refine h_takeL (i := 3) (v := Rs (.slice a n c) rt) hns rfl rfl (by kernel_rfl) (by kernel_rfl) hP (y_load rfl (hl := fun w' h => rload93 (cell_at h 0 rfl) (cell_at h 1 rfl))) hS rfl (L' := #[true, true, true, true, false, false, false, false, false, false, false, false, false, false, false, false, false]) (by kernel_rfl) ?_
  refine h_takeL (i := 5) (v := .pointer (some ⟨r, 0, none⟩)) hns rfl rfl (by kernel_rfl) (by kernel_rfl) hP (y_move rfl) hS rfl (L' := #[true, true, true, true, false, true, false, false, false, false, false, false, false, false, false, false, false]) (by kernel_rfl) ?_
  refine h_takeL (i := 6) (v := .pointer (some ⟨r, 0, none⟩)) hns rfl rfl (by kernel_rfl) (by kernel_rfl) hP (y_nil rfl) hS rfl (L' := #[true, true, true, true, false, true, true, false, false, false, false, false, false, false, false, false, false]) (by kernel_rfl) ?_
  refine h_takeL (i := 7) (v := .pointer (some ⟨r, 2, none⟩)) hns rfl rfl (by kernel_rfl) (by kernel_rfl) hP (y_faddr rfl (hf := fa95_1 (r))) hS rfl (L' := #[true, true, true, true, false, true, true, true, false, false, false, false, false, false, false, false, false]) (by kernel_rfl) ?_
  try simp only [List.setIfInBounds_toArray, List.set_cons_zero, List.set_cons_succ]
  refine h_takeL (i := 8) (v := Rs (.slice a' m c') wr) hns rfl rfl (by kernel_rfl) (by kernel_rfl) hP (y_load rfl (hl := fun w' h => rload93 (cell_at h 2 rfl) (cell_at h 3 rfl))) hS rfl (L' := #[true, true, true, true, false, true, true, true, true, false, false, false, false, false, false, false, false]) (by kernel_rfl) ?_
  refine h_takeL (i := 10) (v := .pointer (some ⟨r, 0, none⟩)) hns rfl rfl (by kernel_rfl) (by kernel_rfl) hP (y_move rfl) hS rfl (L' := #[true, true, true, true, false, true, true, true, true, false, true, false, false, false, false, false, false]) (by kernel_rfl) ?_
  refine h_takeL (i := 11) (v := .pointer (some ⟨r, 0, none⟩)) hns rfl rfl (by kernel_rfl) (by kernel_rfl) hP (y_nil rfl) hS rfl (L' := #[true, true, true, true, false, true, true, true, true, false, true, true, false, false, false, false, false]) (by kernel_rfl) ?_
  refine h_takeL (i := 12) (v := .pointer (some ⟨r, 4, none⟩)) hns rfl rfl (by kernel_rfl) (by kernel_rfl) hP (y_faddr rfl (hf := fa95_2 (r))) hS rfl (L' := #[true, true, true, true, false, true, true, true, true, false, true, true, true, false, false, false, false]) (by kernel_rfl) ?_
  refine h_takeL (i := 13) (v := .bool ch) hns rfl rfl (by kernel_rfl) (by kernel_rfl) hP (y_load rfl (hl := fun w' h => load1 Tryz.isAgg4 (cell_at h 4 rfl))) hS rfl (L' := #[true, true, true, true, false, true, true, true, true, false, true, true, true, true, false, false, false]) (by kernel_rfl) ?_
  refine h_callL (i := 4) (f := 43) (args := #[Rs (.slice a n c) rt]) (by kernel_rfl) rfl rfl (by kernel_rfl) (enter_go rfl (by kernel_rfl) (fun w => by go_simp)) (L' := #[true, true, true, true, true, true, true, true, true, false, true, true, true, true, false, false, false]) (by kernel_rfl) ?_
  refine HC1.out.mono ?_
  rintro e w1 ⟨v', rfl, ho1, hB1⟩
  obtain ⟨g1, c1, rfl⟩ : ∃ g c, v' = .slice (some ⟨g, 0, none⟩) n c := by
    rcases ho1.2 with ⟨_, hz⟩ | ⟨g, cap, cs, e, _⟩
    · have := H0.out.2.2.1; have := HN.out.1; omega
    · exact ⟨g, cap, e⟩
  have hS1 := below_at hB1 HS.out (heap_lt HS.out)
  have H1 := hid (And.intro ho1 (And.intro hB1 hS1))
  refine ⟨_, rfl, H1.out.2.2, ?_⟩
  clear hS ho1 hB1 hS1
  have hS := H1.out.2.2
  refine h_callL (i := 9) (f := 43) (args := #[Rs (.slice a' m c') wr]) (by kernel_rfl) rfl rfl (by kernel_rfl) (enter_go rfl (by kernel_rfl) (fun w => by go_simp)) (L' := #[true, true, true, true, true, true, true, true, true, true, true, true, true, true, false, false, false]) (by kernel_rfl) ?_
  refine (HC2.out w1 H1.out.2.1).mono ?_
  rintro e w2 ⟨v', rfl, ho2, hB2⟩
  obtain ⟨g2, c2, rfl⟩ : ∃ g c, v' = .slice (some ⟨g, 0, none⟩) m c := by
    rcases ho2.2 with ⟨_, hz⟩ | ⟨g, cap, cs, e, _⟩
    · have := H0.out.2.2.2; have := HN.out.2; omega
    · exact ⟨g, cap, e⟩
  have h1 := H1.out
  have hS2 := below_at hB2 h1.2.2 (heap_lt h1.2.2)
  have ho12 := owns_below2 h1.1 hB2
  have hbx := rbox95 w2 (.slice (some ⟨g1, 0, none⟩) n c1) (.int .i64 rt) (.slice (some ⟨g2, 0, none⟩) m c2) (.int .i64 wr) (.bool ch)
  have hB3 : Below w2.heap.size w2 (w2.alloc (.cells #[.slice (some ⟨g1, 0, none⟩) n c1, .int .i64 rt, .slice (some ⟨g2, 0, none⟩) m c2, .int .i64 wr, .bool ch] 95)) := (Below.refl _ _).alloc (Nat.le_refl _) _
  have hP3 : (w2.alloc (.cells #[.slice (some ⟨g1, 0, none⟩) n c1, .int .i64 rt, .slice (some ⟨g2, 0, none⟩) m c2, .int .i64 wr, .bool ch] 95)).heap[w2.heap.size]? = some (.cells #[.slice (some ⟨g1, 0, none⟩) n c1, .int .i64 rt, .slice (some ⟨g2, 0, none⟩) m c2, .int .i64 wr, .bool ch] 95 (0, 0)) := heap_alloc_last w2 _
  generalize w2.alloc (.cells #[.slice (some ⟨g1, 0, none⟩) n c1, .int .i64 rt, .slice (some ⟨g2, 0, none⟩) m c2, .int .i64 wr, .bool ch] 95) = w3 at *
  have hS3 := below_at hB3 hS2 (heap_lt hS2)
  have hlo2 := (ho2.lt g2 rfl).1
  have hlt1 := (h1.1.lt g1 rfl).2
  have hbd := HBD.out
  have hn := HN.out
  have hz1 : B0 ≤ w1.heap.size := by have := h1.2.1.size; omega
  have hz2 : B0 ≤ w2.heap.size := by have := hB2.size; omega
  have hBB : Below B0 w w3 := ((hbd.1.trans (h1.2.1.mono (by omega))).trans (hB2.mono hz1)).trans (hB3.mono hz2)
  have hsp1 := ((H0.out.1.below h1.2.1).below hB2).below hB3
  have hsp2 := ((H0.out.2.1.below h1.2.1).below hB2).below hB3
  have hw1 := owns_mono (owns_below2 ho12 hB3) (show B0 ≤ wd.heap.size by omega)
  have hw2 := owns_mono (owns_below2 ho2 hB3) hz1
  obtain ⟨r2, hr2⟩ : ∃ r2, w2.heap.size = r2 := ⟨_, rfl⟩
  rw [hr2] at hbx hP3
  have HZ : Hid (B0 ≤ r2 ∧ Rp (fun _ => False) w3 B0 r2 cur was rt wr ch ∧ Below B0 w w3) := hid ⟨by omega, ⟨⟨by omega, fun h => h⟩, _, _, al, be, hP3, by rw [hn.1]; exact hw1, by rw [hn.2]; exact hw2, hsp1, hsp2, ⟨fun g hg hu => by
    have e1 : g1 = g := by simpa [Value.ownBlock] using hg
    have e2 : g2 = g := by simpa [Value.ownBlock] using hu
    omega, fun _ _ h => h⟩⟩, hBB⟩
  have HBX := hid hbx
  have HS2 := hid hS2
  have HS3 := hid hS3
  refine ⟨_, rfl, HS2.out, ?_⟩
  clear hS h1 hS2 ho12 hbx hB3 hP3 hS3 hlo2 hlt1 hbd hn hz1 hz2 hBB hsp1 hsp2 hw1 hw2 hr2 ho2 hB2
  have hS := HS2.out
  refine h_valL (i := 14) (v := .agg #[.slice (some ⟨g1, 0, none⟩) n c1, .int .i64 rt, .slice (some ⟨g2, 0, none⟩) m c2, .int .i64 wr, .bool ch]) (by kernel_rfl) rfl rfl (by kernel_rfl) (run_buildOp rfl (by kernel_rfl) (rbuild95c _ _ _ _ _ _ _ _ _ _)) HS2.out rfl (L' := #[true, true, true, true, true, true, true, true, true, true, true, true, true, true, true, false, false]) (by kernel_rfl) ?_
  try simp only [List.setIfInBounds_toArray, List.set_cons_zero, List.set_cons_succ]
  refine h_valL (i := 15) (v := .pointer (some ⟨r2, 0, none⟩)) (by kernel_rfl) rfl rfl (by kernel_rfl) (run_boxOp rfl (by kernel_rfl) HBX.out) HS3.out rfl (L' := #[true, true, true, true, true, true, true, true, true, true, true, true, true, true, true, true, false]) (by kernel_rfl) ?_
  clear hS
  have hS := HS3.out
  refine h_takeL (i := 16) (v := .pointer (some ⟨r2, 0, none⟩)) hns rfl rfl (by kernel_rfl) (by kernel_rfl) hP (y_assign rfl) hS rfl (L' := #[true, true, true, true, true, true, true, true, true, true, true, true, true, true, true, true, true]) (by kernel_rfl) ?_
  try simp only [List.setIfInBounds_toArray, List.set_cons_zero, List.set_cons_succ]
  refine wpAnyH_done (by kernel_rfl) ?_ _
  refine hN _ _ ?_
  clear hP hN hns
  clear hS
  go_wp2_with fail
  go_ret
  exact ⟨r2, HZ.out.1, rfl, HZ.out.2⟩
end Go.Proofs.YtcmgclkbhhdnaaaGreatDoor
