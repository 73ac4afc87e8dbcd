/- Open. -/
import Derived.Test.YtdbgccgjdgomkaaGreatDoorPTwoC
namespace Go.Proofs.YtdbgccgjdgomkaaGreatDoor
open Go Go.RowKit

theorem hdOf_root (l : List Bool) (r : Nat) (hr : r < 65536) : r = ((hdOf l r).getD 18 0).toNat * 256 + ((hdOf l r).getD 19 0).toNat := by
  rw [(hdOf_18 l r).1, (hdOf_18 l r).2, UInt8.toNat_ofNat', UInt8.toNat_ofNat']
  omega
theorem popen_nil (w : World) : Calls Tryz.prog 13 #[.pointer none] w fun e w' => e = .returned (.tuple #[.pointer none, .int .i64 1]) ∧ w' = w := by
  go_enter Tryz.func13, Tryz.ntmps13
  go_wp2
  go_ret2
  exact ⟨rfl, rfl⟩
set_option maxRecDepth 100000 in
set_option maxHeartbeats 1000000 in
theorem popen_ok {w : World} {j d : Nat} {X : List Nat} {s : DS} {sq cnt : Nat} {bl : List (List UInt8)} (h : Jr w j d X s sq cnt bl) {n : Nat} {l : List Bool} {r : Nat} (hn : (nbOf s.n - 2) / 8 = n) (hl : l.length = n) (hc : cat bl 0 2 = hdOf l r) (hr : r < 65536) (hroot : r = 0 ∨ ∃ q, r = q + 1 ∧ l[q]? = some true) :
    Calls Tryz.prog 13 #[.pointer (some ⟨j, 0, none⟩)] w fun e w' => ∃ p, w.heap.size ≤ p ∧ e = .returned (.tuple #[.pointer (some ⟨p, 0, none⟩), .int .i64 0]) ∧ Pg w' p j l (lef l) ((r : Int) - 1) false (lef l) ((r : Int) - 1) none none 0 ∧ Below w.heap.size w w' := by
  have hn1 := h.nb
  have hbl : bl.length = nbOf s.n := h.sett.con.len
  have hnb2 : 2 ≤ nbOf s.n := by have := h.sett.n32; unfold nbOf; omega
  have hrh := readHead_any h (by omega)
  rw [hc] at hrh
  have HRH := hid hrh
  have HDL := hid (hdOf_len l r)
  have HLL : Hid (l.length ≤ 1023) := hid (by omega)
  have HS6 : Hid (∀ w', Calls Tryz.prog 40 #[V8 (hdOf l r), .int .i64 n] w' fun e w'' => e = .returned (.tuple #[St l (lef l) ((r : Int) - 1), .bool true]) ∧ Below w'.heap.size w' w'') := hid (fun w' => by
    have hlk : lk (hdOf l r) n n = l := by rw [← hl]; exact lk_full l r (by omega)
    have h1 := state_any (hdOf l r) (hdOf_len l r) n (by omega) r (hdOf_root l r hr) (by rw [hlk]; exact hroot) w'
    rw [hlk, if_pos rfl, decide_eq_true rfl] at h1
    exact h1)
  generalize hdOf l r = hd at *
  generalize (lef l : Int) = kl at *
  generalize (r : Int) - 1 = kr at *
  obtain ⟨B, hB⟩ : ∃ B, w.heap.size = B := ⟨_, rfl⟩
  have hHB := HRH.out
  have HPO : Hid (∀ w', Below B w w' → Calls Tryz.prog 41 #[.pointer (some ⟨j, 0, none⟩)] w' fun e w'' => e = .returned (.int .i64 n) ∧ w'' = w') := hid (fun w' hB' => by
    have h1 := pagesOf_any (h.below (by rw [hB]; exact hB')).jn hnb2 h.nb
    rw [hn] at h1
    exact h1)
  rw [hB] at hHB ⊢
  have HRH2 := hid hHB
  have HB := hid hB
  have HPO0 := HPO
  clear HRH hHB h hn hnb2 hB hn1 hbl hrh hl hc hr hroot
  go_enter Tryz.func13, Tryz.ntmps13
  go_upto_region 3 with fail
  refine wp_region_lit ?_
  refine wp_y (v := .pointer (some ⟨j, 0, none⟩)) rfl rfl (y_move rfl (by kernel_rfl) (by kernel_rfl)) rfl ?_
  refine wp_call (f := 39) (args := #[.pointer (some ⟨j, 0, none⟩)]) (by kernel_rfl) (fun w => by go_simp) ?_
  refine HRH2.out.mono ?_
  rintro e w2 ⟨rfl, hB2⟩
  refine ⟨_, rfl, ?_⟩
  have hal := palloc70 w2
  have hB3 : Below w2.heap.size w2 (w2.alloc (.cells (cells8 z224).toArray 70)) := (Below.refl _ _).alloc (Nat.le_refl _) _
  have hR3 : Rw (w2.alloc (.cells (cells8 z224).toArray 70)) w2.heap.size 70 z224 := heap_alloc_last w2 _
  generalize w2.alloc (.cells (cells8 z224).toArray 70) = w3 at *
  obtain ⟨g4, hg4⟩ : ∃ g, w2.heap.size = g := ⟨_, rfl⟩
  have hs2 : B ≤ g4 := by have := hB2.size; have := HB.out; omega
  rw [hg4] at hal hR3 hB3
  have hst := pstore70 z224_len HDL.out hR3
  have hR4 := hR3.row hd
  have hF4 := Fr.setRow w3 g4 (cells8 hd).toArray
  generalize w3.setRow g4 (cells8 hd).toArray = w4 at *
  have HZ4 : Hid (Rw w4 g4 70 hd ∧ Below B w w4 ∧ B ≤ w4.heap.size) := hid ⟨hR4, (hB2.trans (hB3.mono hs2)).trans (hF4.below (by have := hR3.lt; omega) (by simp; omega)), by have := hR4.lt; omega⟩
  have HAL := hid hal
  have HST := hid hst
  clear hB2 hB3 hR3 hal hst hR4 hF4 hg4 hs2
  dsimp only [Act.put]
  refine wp_y (v := .tuple #[V8 hd, .int .i64 0]) rfl rfl (y_move rfl (by kernel_rfl) (by kernel_rfl)) rfl ?_
  refine wp_y (v := V8 hd) rfl rfl (y_ext rfl (by kernel_rfl) (by kernel_rfl) (ext2_0 (V8 hd) (.int .i64 0))) rfl ?_
  refine wp_y (v := .int .i64 0) rfl rfl (y_ext rfl (by kernel_rfl) (by kernel_rfl) (ext2_1 (V8 hd) (.int .i64 0))) rfl ?_
  refine wp_run (v := .pointer (some ⟨g4, 0, none⟩)) rfl rfl (run_alOp rfl HAL.out) rfl ?_
  refine wp_do rfl rfl (run_storeOp rfl (by kernel_rfl) (by kernel_rfl) HST.out) ?_
  refine wp_y (v := .int .i64 0) rfl rfl (y_assign rfl (by kernel_rfl) (by kernel_rfl)) rfl ?_
  try simp only [List.setIfInBounds_toArray, List.set_cons_zero, List.set_cons_succ]
  refine wp_end ?_
  clear HAL HST
  obtain ⟨G, hG⟩ : ∃ G, w4.heap.size = G := ⟨_, rfl⟩
  obtain ⟨wd, hwd⟩ : ∃ wd, w4.drew = wd := ⟨_, rfl⟩
  have HS : Hid (Below G w4 wd) := hid (by rw [← hwd]; exact (Below.refl _ _).drew)
  have h4 := HZ4.out
  have HPO : Hid (∀ w', Below G w4 w' → Calls Tryz.prog 41 #[.pointer (some ⟨j, 0, none⟩)] w' fun e w'' => e = .returned (.int .i64 n) ∧ w'' = w') := hid (fun w' hB' => HPO0.out w' (h4.2.1.trans (hB'.mono (by omega))))
  have H4 : Hid (Rw w4 g4 70 hd ∧ g4 < G) := hid ⟨h4.1, by rw [← hG]; exact h4.1.lt⟩
  have H4B : Hid (Below B w w4 ∧ B ≤ w4.heap.size) := hid h4.2
  have HG := hid hG
  have HWD := hid hwd
  clear h4 HZ4 HPO0 hG hwd HRH2 HB
  go_upto_region 6 with fail
  refine h_openL (S := fun w' => Below G w4 w') (by kernel_rfl) (by kernel_rfl) (fun _ _ _ _ _ h => h) (L := #[false, false, false, false, false, false, false, false, false, false]) (by kernel_rfl) ?_
  intro Q' hns hP hN
  have hS := HS.out
  rw [HWD.out]
  refine h_takeL (i := 0) (v := V8 hd) hns rfl rfl (by kernel_rfl) (by kernel_rfl) hP (y_load rfl (by kernel_rfl) (by kernel_rfl) (fun w' h => pload70 HDL.out (H4.out.1.below h H4.out.2))) hS rfl (L' := #[true, false, false, false, false, false, false, false, false, false]) (by kernel_rfl) ?_
  refine h_takeL (i := 1) (v := .pointer (some ⟨j, 0, none⟩)) hns rfl rfl (by kernel_rfl) (by kernel_rfl) hP (y_move rfl (by kernel_rfl) (by kernel_rfl)) hS rfl (L' := #[true, true, false, false, false, false, false, false, false, false]) (by kernel_rfl) ?_
  try simp only [List.setIfInBounds_toArray, List.set_cons_zero, List.set_cons_succ]
  refine h_two (i := 2) (i2 := 7) (by kernel_rfl) rfl rfl (by kernel_rfl) (by kernel_rfl) ?_ ?_
  · refine o_call (i := 2) (f := 41) (args := #[.pointer (some ⟨j, 0, none⟩)]) rfl (enter_go rfl (by kernel_rfl) (fun w => by go_simp)) (L' := #[true, true, true, false, false, false, false, false, false, false]) (by kernel_rfl) ?_
    refine (HPO.out wd hS).mono ?_
    rintro e w5 ⟨rfl, hw5⟩
    obtain rfl := hw5.symm
    refine ⟨_, rfl, hS, ?_⟩
    try simp only [List.setIfInBounds_toArray, List.set_cons_zero, List.set_cons_succ]
    refine h_two (i := 3) (i2 := 7) (by kernel_rfl) rfl rfl (by kernel_rfl) (by kernel_rfl) ?_ ?_
    · refine o_call (i := 3) (f := 40) (args := #[V8 hd, .int .i64 n]) rfl (enter_go rfl (by kernel_rfl) (fun w => by go_simp)) (L' := #[true, true, true, true, false, false, false, false, false, false]) (by kernel_rfl) ?_
      refine (HS6.out wd).mono ?_
      rintro e w6 ⟨rfl, hB6⟩
      have hS6 : Below G w4 w6 := hS.trans (hB6.mono (by have := hS.size; have := HG.out; omega))
      refine ⟨_, rfl, hS6, ?_⟩
      try simp only [List.setIfInBounds_toArray, List.set_cons_zero, List.set_cons_succ]
      have HSS := hid hS6
      clear hS hB6 hS6
      have hS := HSS.out
      clear HSS
      refine h_takeL (i := 4) (v := .tuple #[St l kl kr, .bool true]) hns rfl rfl (by kernel_rfl) (by kernel_rfl) hP (y_move rfl (by kernel_rfl) (by kernel_rfl)) hS rfl (L' := #[true, true, true, true, true, false, false, false, false, false]) (by kernel_rfl) ?_
      refine h_takeL (i := 5) (v := St l kl kr) hns rfl rfl (by kernel_rfl) (by kernel_rfl) hP (y_ext rfl (by kernel_rfl) (by kernel_rfl) (ext2_0 (St l kl kr) (.bool true))) hS rfl (L' := #[true, true, true, true, true, true, false, false, false, false]) (by kernel_rfl) ?_
      refine h_takeL (i := 6) (v := .bool true) hns rfl rfl (by kernel_rfl) (by kernel_rfl) hP (y_ext rfl (by kernel_rfl) (by kernel_rfl) (ext2_1 (St l kl kr) (.bool true))) hS rfl (L' := #[true, true, true, true, true, true, true, false, false, false]) (by kernel_rfl) ?_
      try simp only [List.setIfInBounds_toArray, List.set_cons_zero, List.set_cons_succ]
      have hal := palloc76 w6
      have hBa : Below w6.heap.size w6 (w6.alloc (.cells (stC [] 0 0).toArray 76)) := (Below.refl _ _).alloc (Nat.le_refl _) _
      have hSb : Sb (w6.alloc (.cells (stC [] 0 0).toArray 76)) w6.heap.size [] 0 0 := heap_alloc_last w6 _
      generalize w6.alloc (.cells (stC [] 0 0).toArray 76) = wa at *
      obtain ⟨g6, hg6⟩ : ∃ g, w6.heap.size = g := ⟨_, rfl⟩
      rw [hg6] at hal hBa hSb
      have hGg : G ≤ g6 := by have := hS.size; have := HG.out; omega
      have hSa : Below G w4 wa := hS.trans (hBa.mono hGg)
      have HGG := hid hGg
      clear hGg hg6 hBa
      refine h_valL (i := 7) (v := .pointer (some ⟨g6, 0, none⟩)) (by kernel_rfl) rfl rfl (by kernel_rfl) (run_alOp rfl hal) hSa rfl (L' := #[true, true, true, true, true, true, true, true, false, false]) (by kernel_rfl) ?_
      try simp only [List.setIfInBounds_toArray, List.set_cons_zero, List.set_cons_succ]
      clear hS hal
      have hS := hSa
      clear hSa
      have hst := pstore76 (l := []) (kl := 0) (kr := 0) (by simp) HLL.out (kl' := kl) (kr' := kr) hSb
      have hS8 := hSb.row l kl kr
      have hF8 := Fr.setRow wa g6 (stC l kl kr).toArray
      generalize wa.setRow g6 (stC l kl kr).toArray = w8 at *
      have hB8 : Below G w4 w8 := hS.trans (hF8.below (by have := hS.size; have := HG.out; omega) (by have := HGG.out; simp; omega))
      have HE := hid (And.intro hS8 (And.intro hB8 HGG.out))
      have HST := hid hst
      have HB8 := hid hB8
      clear hst hS8 hF8 hB8 hSb
      refine h_skipL (i := 8) (by kernel_rfl) rfl rfl (by kernel_rfl) (run_storeOp rfl (by kernel_rfl) (by kernel_rfl) HST.out) HB8.out (L' := #[true, true, true, true, true, true, true, true, true, false]) (by kernel_rfl) ?_
      refine h_takeL (i := 9) (v := .bool true) hns rfl rfl (by kernel_rfl) (by kernel_rfl) hP (y_assign rfl (by kernel_rfl) (by kernel_rfl)) HB8.out rfl (L' := #[true, true, true, true, true, true, true, true, true, true]) (by kernel_rfl) ?_
      try simp only [List.setIfInBounds_toArray, List.set_cons_zero, List.set_cons_succ]
      refine wpAnyH_done (by kernel_rfl) ?_ _
      refine hN _ _ ?_
      clear hP hN hns
      clear hS HST HB8 HGG HS6 HPO HS
      go_upto_region 9 with fail
      refine h_openL (S := fun w' => Sb w' g6 l kl kr) (by kernel_rfl) (by kernel_rfl) (fun _ _ _ _ _ h => h) (L := #[false, false, false, false, false, false, false, false]) (by kernel_rfl) ?_
      intro Q' hns hP hN
      have hS := HE.out.1
      refine h_takeL (i := 0) (v := .pointer (some ⟨j, 0, none⟩)) hns rfl rfl (by kernel_rfl) (by kernel_rfl) hP (y_move rfl (by kernel_rfl) (by kernel_rfl)) hS rfl (L' := #[true, false, false, false, false, false, false, false]) (by kernel_rfl) ?_
      refine h_takeL (i := 1) (v := St l kl kr) hns rfl rfl (by kernel_rfl) (by kernel_rfl) hP (y_load rfl (by kernel_rfl) (by kernel_rfl) (fun w' h => pload76 HLL.out h)) hS rfl (L' := #[true, true, false, false, false, false, false, false]) (by kernel_rfl) ?_
      refine h_takeL (i := 2) (v := St l kl kr) hns rfl rfl (by kernel_rfl) (by kernel_rfl) hP (y_load rfl (by kernel_rfl) (by kernel_rfl) (fun w' h => pload76 HLL.out h)) hS rfl (L' := #[true, true, true, false, false, false, false, false]) (by kernel_rfl) ?_
      refine h_callL (i := 3) (f := 42) (args := #[St l kl kr]) (by kernel_rfl) rfl rfl (by kernel_rfl) (enter_go rfl (by kernel_rfl) (fun w => by go_simp)) (L' := #[true, true, true, true, false, false, false, false]) (by kernel_rfl) ?_
      refine (unchanged_any l kl kr _).mono ?_
      rintro e w9 ⟨rfl, hB9⟩
      have hS9 := Sb.below (B := w8.heap.size) hS (Below.undr hB9) (heap_lt hS)
      have hbx := pbox90 w9 j l kl kr false kl kr none none 0
      have hBx : Below w9.heap.size w9 (w9.alloc (.cells (pgC j l kl kr false kl kr none none 0).toArray 90)) := (Below.refl _ _).alloc (Nat.le_refl _) _
      have hPx : Pg (w9.alloc (.cells (pgC j l kl kr false kl kr none none 0).toArray 90)) w9.heap.size j l kl kr false kl kr none none 0 := ⟨HLL.out, heap_alloc_last w9 _⟩
      generalize w9.alloc (.cells (pgC j l kl kr false kl kr none none 0).toArray 90) = wx at *
      have hsz : B ≤ w9.heap.size := by have := hB9.size; have := HE.out.2.1.size; have := H4B.out.2; have := HG.out; have : w8.drew.heap.size = w8.heap.size := rfl; omega
      have hBB : Below B w wx := (((H4B.out.1.trans (HE.out.2.1.mono (by have := H4B.out.2; have := HG.out; omega))).trans ((Below.undr hB9).mono (by have := HE.out.2.1.size; have := H4B.out.2; have : w8.drew.heap.size = w8.heap.size := rfl; omega)))).trans (hBx.mono hsz)
      have hSx := hS9.below hBx (heap_lt hS9)
      obtain ⟨pp, hpp⟩ : ∃ g, w9.heap.size = g := ⟨_, rfl⟩
      rw [hpp] at hbx hPx hsz
      have HZ := hid (And.intro hsz (And.intro hPx hBB))
      have HBX := hid hbx
      have HSX := hid hSx
      refine ⟨_, rfl, hS9, ?_⟩
      have HS9 := hid hS9
      clear hS hB9 hS9 hbx hBx hPx hsz hBB hSx hpp
      have hS := HS9.out
      refine h_valL (i := 4) (v := .agg (pgC j l kl kr false kl kr none none 0).toArray) (by kernel_rfl) rfl rfl (by kernel_rfl) (run_buildOp rfl (by kernel_rfl) (pbuild90 j l kl kr kl kr HLL.out _)) hS rfl (L' := #[true, true, true, true, true, false, false, false]) (by kernel_rfl) ?_
      refine h_valL (i := 5) (v := .pointer (some ⟨pp, 0, none⟩)) (by kernel_rfl) rfl rfl (by kernel_rfl) (run_boxOp rfl (by kernel_rfl) HBX.out) HSX.out rfl (L' := #[true, true, true, true, true, true, false, false]) (by kernel_rfl) ?_
      clear hS HS9
      have hS := HSX.out
      refine h_takeL (i := 6) (v := .pointer (some ⟨pp, 0, none⟩)) hns rfl rfl (by kernel_rfl) (by kernel_rfl) hP (y_assign rfl (by kernel_rfl) (by kernel_rfl)) hS rfl (L' := #[true, true, true, true, true, true, true, false]) (by kernel_rfl) ?_
      try simp only [List.setIfInBounds_toArray, List.set_cons_zero, List.set_cons_succ]
      refine h_takeL (i := 7) (v := (.int .i64 0)) hns rfl rfl (by kernel_rfl) (by kernel_rfl) hP (y_assign rfl (by kernel_rfl) (by kernel_rfl)) hS rfl (L' := #[true, true, true, true, true, true, true, true]) (by kernel_rfl) ?_
      try simp only [List.setIfInBounds_toArray, List.set_cons_zero, List.set_cons_succ]
      refine wpAnyH_done (by kernel_rfl) ?_ _
      refine hN _ _ ?_
      clear hP hN hns
      clear hS HBX HSX
      go_wp2_with fail
      go_ret2
      exact ⟨pp, HZ.out.1, rfl, HZ.out.2⟩
    · have hal := palloc76 wd
      have hBa : Below wd.heap.size wd (wd.alloc (.cells (stC [] 0 0).toArray 76)) := (Below.refl _ _).alloc (Nat.le_refl _) _
      have hSb : Sb (wd.alloc (.cells (stC [] 0 0).toArray 76)) wd.heap.size [] 0 0 := heap_alloc_last wd _
      generalize wd.alloc (.cells (stC [] 0 0).toArray 76) = wa at *
      obtain ⟨g6, hg6⟩ : ∃ g, wd.heap.size = g := ⟨_, rfl⟩
      rw [hg6] at hal hBa hSb
      have hGg : G ≤ g6 := by have := hS.size; have := HG.out; omega
      have hSa : Below G w4 wa := hS.trans (hBa.mono hGg)
      have HGG := hid hGg
      clear hGg hg6 hBa
      refine o_val (i := 7) (v := .pointer (some ⟨g6, 0, none⟩)) rfl (run_alOp rfl hal) hSa rfl (L' := #[true, true, true, false, false, false, false, true, false, false]) (by kernel_rfl) ?_
      try simp only [List.setIfInBounds_toArray, List.set_cons_zero, List.set_cons_succ]
      clear hS hal
      have hS := hSa
      clear hSa
      refine h_callL (i := 3) (f := 40) (args := #[V8 hd, .int .i64 n]) (by kernel_rfl) rfl rfl (by kernel_rfl) (enter_go rfl (by kernel_rfl) (fun w => by go_simp)) (L' := #[true, true, true, true, false, false, false, true, false, false]) (by kernel_rfl) ?_
      refine (HS6.out wa).mono ?_
      rintro e w6 ⟨rfl, hB6⟩
      have hS6 : Below G w4 w6 := hS.trans (hB6.mono (by have := hS.size; have := HG.out; omega))
      have hSb6 := hSb.below hB6 (heap_lt hSb)
      refine ⟨_, rfl, hS6, ?_⟩
      try simp only [List.setIfInBounds_toArray, List.set_cons_zero, List.set_cons_succ]
      have HSS := hid hS6
      have HSB := hid hSb6
      clear hSb hSb6
      clear hS hB6 hS6
      have hS := HSS.out
      clear HSS
      have hSb := HSB.out
      clear HSB
      refine h_takeL (i := 4) (v := .tuple #[St l kl kr, .bool true]) hns rfl rfl (by kernel_rfl) (by kernel_rfl) hP (y_move rfl (by kernel_rfl) (by kernel_rfl)) hS rfl (L' := #[true, true, true, true, true, false, false, true, false, false]) (by kernel_rfl) ?_
      refine h_takeL (i := 5) (v := St l kl kr) hns rfl rfl (by kernel_rfl) (by kernel_rfl) hP (y_ext rfl (by kernel_rfl) (by kernel_rfl) (ext2_0 (St l kl kr) (.bool true))) hS rfl (L' := #[true, true, true, true, true, true, false, true, false, false]) (by kernel_rfl) ?_
      refine h_takeL (i := 6) (v := .bool true) hns rfl rfl (by kernel_rfl) (by kernel_rfl) hP (y_ext rfl (by kernel_rfl) (by kernel_rfl) (ext2_1 (St l kl kr) (.bool true))) hS rfl (L' := #[true, true, true, true, true, true, true, true, false, false]) (by kernel_rfl) ?_
      try simp only [List.setIfInBounds_toArray, List.set_cons_zero, List.set_cons_succ]
      have hst := pstore76 (l := []) (kl := 0) (kr := 0) (by simp) HLL.out (kl' := kl) (kr' := kr) hSb
      have hS8 := hSb.row l kl kr
      have hF8 := Fr.setRow w6 g6 (stC l kl kr).toArray
      generalize w6.setRow g6 (stC l kl kr).toArray = w8 at *
      have hB8 : Below G w4 w8 := hS.trans (hF8.below (by have := hS.size; have := HG.out; omega) (by have := HGG.out; simp; omega))
      have HE := hid (And.intro hS8 (And.intro hB8 HGG.out))
      have HST := hid hst
      have HB8 := hid hB8
      clear hst hS8 hF8 hB8 hSb
      refine h_skipL (i := 8) (by kernel_rfl) rfl rfl (by kernel_rfl) (run_storeOp rfl (by kernel_rfl) (by kernel_rfl) HST.out) HB8.out (L' := #[true, true, true, true, true, true, true, true, true, false]) (by kernel_rfl) ?_
      refine h_takeL (i := 9) (v := .bool true) hns rfl rfl (by kernel_rfl) (by kernel_rfl) hP (y_assign rfl (by kernel_rfl) (by kernel_rfl)) HB8.out rfl (L' := #[true, true, true, true, true, true, true, true, true, true]) (by kernel_rfl) ?_
      try simp only [List.setIfInBounds_toArray, List.set_cons_zero, List.set_cons_succ]
      refine wpAnyH_done (by kernel_rfl) ?_ _
      refine hN _ _ ?_
      clear hP hN hns
      clear hS HST HB8 HGG HS6 HPO HS
      go_upto_region 9 with fail
      refine h_openL (S := fun w' => Sb w' g6 l kl kr) (by kernel_rfl) (by kernel_rfl) (fun _ _ _ _ _ h => h) (L := #[false, false, false, false, false, false, false, false]) (by kernel_rfl) ?_
      intro Q' hns hP hN
      have hS := HE.out.1
      refine h_takeL (i := 0) (v := .pointer (some ⟨j, 0, none⟩)) hns rfl rfl (by kernel_rfl) (by kernel_rfl) hP (y_move rfl (by kernel_rfl) (by kernel_rfl)) hS rfl (L' := #[true, false, false, false, false, false, false, false]) (by kernel_rfl) ?_
      refine h_takeL (i := 1) (v := St l kl kr) hns rfl rfl (by kernel_rfl) (by kernel_rfl) hP (y_load rfl (by kernel_rfl) (by kernel_rfl) (fun w' h => pload76 HLL.out h)) hS rfl (L' := #[true, true, false, false, false, false, false, false]) (by kernel_rfl) ?_
      refine h_takeL (i := 2) (v := St l kl kr) hns rfl rfl (by kernel_rfl) (by kernel_rfl) hP (y_load rfl (by kernel_rfl) (by kernel_rfl) (fun w' h => pload76 HLL.out h)) hS rfl (L' := #[true, true, true, false, false, false, false, false]) (by kernel_rfl) ?_
      refine h_callL (i := 3) (f := 42) (args := #[St l kl kr]) (by kernel_rfl) rfl rfl (by kernel_rfl) (enter_go rfl (by kernel_rfl) (fun w => by go_simp)) (L' := #[true, true, true, true, false, false, false, false]) (by kernel_rfl) ?_
      refine (unchanged_any l kl kr _).mono ?_
      rintro e w9 ⟨rfl, hB9⟩
      have hS9 := Sb.below (B := w8.heap.size) hS (Below.undr hB9) (heap_lt hS)
      have hbx := pbox90 w9 j l kl kr false kl kr none none 0
      have hBx : Below w9.heap.size w9 (w9.alloc (.cells (pgC j l kl kr false kl kr none none 0).toArray 90)) := (Below.refl _ _).alloc (Nat.le_refl _) _
      have hPx : Pg (w9.alloc (.cells (pgC j l kl kr false kl kr none none 0).toArray 90)) w9.heap.size j l kl kr false kl kr none none 0 := ⟨HLL.out, heap_alloc_last w9 _⟩
      generalize w9.alloc (.cells (pgC j l kl kr false kl kr none none 0).toArray 90) = wx at *
      have hsz : B ≤ w9.heap.size := by have := hB9.size; have := HE.out.2.1.size; have := H4B.out.2; have := HG.out; have : w8.drew.heap.size = w8.heap.size := rfl; omega
      have hBB : Below B w wx := (((H4B.out.1.trans (HE.out.2.1.mono (by have := H4B.out.2; have := HG.out; omega))).trans ((Below.undr hB9).mono (by have := HE.out.2.1.size; have := H4B.out.2; have : w8.drew.heap.size = w8.heap.size := rfl; omega)))).trans (hBx.mono hsz)
      have hSx := hS9.below hBx (heap_lt hS9)
      obtain ⟨pp, hpp⟩ : ∃ g, w9.heap.size = g := ⟨_, rfl⟩
      rw [hpp] at hbx hPx hsz
      have HZ := hid (And.intro hsz (And.intro hPx hBB))
      have HBX := hid hbx
      have HSX := hid hSx
      refine ⟨_, rfl, hS9, ?_⟩
      have HS9 := hid hS9
      clear hS hB9 hS9 hbx hBx hPx hsz hBB hSx hpp
      have hS := HS9.out
      refine h_valL (i := 4) (v := .agg (pgC j l kl kr false kl kr none none 0).toArray) (by kernel_rfl) rfl rfl (by kernel_rfl) (run_buildOp rfl (by kernel_rfl) (pbuild90 j l kl kr kl kr HLL.out _)) hS rfl (L' := #[true, true, true, true, true, false, false, false]) (by kernel_rfl) ?_
      refine h_valL (i := 5) (v := .pointer (some ⟨pp, 0, none⟩)) (by kernel_rfl) rfl rfl (by kernel_rfl) (run_boxOp rfl (by kernel_rfl) HBX.out) HSX.out rfl (L' := #[true, true, true, true, true, true, false, false]) (by kernel_rfl) ?_
      clear hS HS9
      have hS := HSX.out
      refine h_takeL (i := 6) (v := .pointer (some ⟨pp, 0, none⟩)) hns rfl rfl (by kernel_rfl) (by kernel_rfl) hP (y_assign rfl (by kernel_rfl) (by kernel_rfl)) hS rfl (L' := #[true, true, true, true, true, true, true, false]) (by kernel_rfl) ?_
      try simp only [List.setIfInBounds_toArray, List.set_cons_zero, List.set_cons_succ]
      refine h_takeL (i := 7) (v := (.int .i64 0)) hns rfl rfl (by kernel_rfl) (by kernel_rfl) hP (y_assign rfl (by kernel_rfl) (by kernel_rfl)) hS rfl (L' := #[true, true, true, true, true, true, true, true]) (by kernel_rfl) ?_
      try simp only [List.setIfInBounds_toArray, List.set_cons_zero, List.set_cons_succ]
      refine wpAnyH_done (by kernel_rfl) ?_ _
      refine hN _ _ ?_
      clear hP hN hns
      clear hS HBX HSX
      go_wp2_with fail
      go_ret2
      exact ⟨pp, HZ.out.1, rfl, HZ.out.2⟩
  · have hal := palloc76 wd
    have hBa : Below wd.heap.size wd (wd.alloc (.cells (stC [] 0 0).toArray 76)) := (Below.refl _ _).alloc (Nat.le_refl _) _
    have hSb : Sb (wd.alloc (.cells (stC [] 0 0).toArray 76)) wd.heap.size [] 0 0 := heap_alloc_last wd _
    generalize wd.alloc (.cells (stC [] 0 0).toArray 76) = wa at *
    obtain ⟨g6, hg6⟩ : ∃ g, wd.heap.size = g := ⟨_, rfl⟩
    rw [hg6] at hal hBa hSb
    have hGg : G ≤ g6 := by have := hS.size; have := HG.out; omega
    have hSa : Below G w4 wa := hS.trans (hBa.mono hGg)
    have HGG := hid hGg
    clear hGg hg6 hBa
    refine o_val (i := 7) (v := .pointer (some ⟨g6, 0, none⟩)) rfl (run_alOp rfl hal) hSa rfl (L' := #[true, true, false, false, false, false, false, true, false, false]) (by kernel_rfl) ?_
    try simp only [List.setIfInBounds_toArray, List.set_cons_zero, List.set_cons_succ]
    clear hS hal
    have hS := hSa
    clear hSa
    refine h_callL (i := 2) (f := 41) (args := #[.pointer (some ⟨j, 0, none⟩)]) (by kernel_rfl) rfl rfl (by kernel_rfl) (enter_go rfl (by kernel_rfl) (fun w => by go_simp)) (L' := #[true, true, true, false, false, false, false, true, false, false]) (by kernel_rfl) ?_
    refine (HPO.out wa hS).mono ?_
    rintro e w5 ⟨rfl, hw5⟩
    obtain rfl := hw5.symm
    refine ⟨_, rfl, hS, ?_⟩
    try simp only [List.setIfInBounds_toArray, List.set_cons_zero, List.set_cons_succ]
    refine h_callL (i := 3) (f := 40) (args := #[V8 hd, .int .i64 n]) (by kernel_rfl) rfl rfl (by kernel_rfl) (enter_go rfl (by kernel_rfl) (fun w => by go_simp)) (L' := #[true, true, true, true, false, false, false, true, false, false]) (by kernel_rfl) ?_
    refine (HS6.out wa).mono ?_
    rintro e w6 ⟨rfl, hB6⟩
    have hS6 : Below G w4 w6 := hS.trans (hB6.mono (by have := hS.size; have := HG.out; omega))
    have hSb6 := hSb.below hB6 (heap_lt hSb)
    refine ⟨_, rfl, hS6, ?_⟩
    try simp only [List.setIfInBounds_toArray, List.set_cons_zero, List.set_cons_succ]
    have HSS := hid hS6
    have HSB := hid hSb6
    clear hSb hSb6
    clear hS hB6 hS6
    have hS := HSS.out
    clear HSS
    have hSb := HSB.out
    clear HSB
    refine h_takeL (i := 4) (v := .tuple #[St l kl kr, .bool true]) hns rfl rfl (by kernel_rfl) (by kernel_rfl) hP (y_move rfl (by kernel_rfl) (by kernel_rfl)) hS rfl (L' := #[true, true, true, true, true, false, false, true, false, false]) (by kernel_rfl) ?_
    refine h_takeL (i := 5) (v := St l kl kr) hns rfl rfl (by kernel_rfl) (by kernel_rfl) hP (y_ext rfl (by kernel_rfl) (by kernel_rfl) (ext2_0 (St l kl kr) (.bool true))) hS rfl (L' := #[true, true, true, true, true, true, false, true, false, false]) (by kernel_rfl) ?_
    refine h_takeL (i := 6) (v := .bool true) hns rfl rfl (by kernel_rfl) (by kernel_rfl) hP (y_ext rfl (by kernel_rfl) (by kernel_rfl) (ext2_1 (St l kl kr) (.bool true))) hS rfl (L' := #[true, true, true, true, true, true, true, true, false, false]) (by kernel_rfl) ?_
    try simp only [List.setIfInBounds_toArray, List.set_cons_zero, List.set_cons_succ]
    have hst := pstore76 (l := []) (kl := 0) (kr := 0) (by simp) HLL.out (kl' := kl) (kr' := kr) hSb
    have hS8 := hSb.row l kl kr
    have hF8 := Fr.setRow w6 g6 (stC l kl kr).toArray
    generalize w6.setRow g6 (stC l kl kr).toArray = w8 at *
    have hB8 : Below G w4 w8 := hS.trans (hF8.below (by have := hS.size; have := HG.out; omega) (by have := HGG.out; simp; omega))
    have HE := hid (And.intro hS8 (And.intro hB8 HGG.out))
    have HST := hid hst
    have HB8 := hid hB8
    clear hst hS8 hF8 hB8 hSb
    refine h_skipL (i := 8) (by kernel_rfl) rfl rfl (by kernel_rfl) (run_storeOp rfl (by kernel_rfl) (by kernel_rfl) HST.out) HB8.out (L' := #[true, true, true, true, true, true, true, true, true, false]) (by kernel_rfl) ?_
    refine h_takeL (i := 9) (v := .bool true) hns rfl rfl (by kernel_rfl) (by kernel_rfl) hP (y_assign rfl (by kernel_rfl) (by kernel_rfl)) HB8.out rfl (L' := #[true, true, true, true, true, true, true, true, true, true]) (by kernel_rfl) ?_
    try simp only [List.setIfInBounds_toArray, List.set_cons_zero, List.set_cons_succ]
    refine wpAnyH_done (by kernel_rfl) ?_ _
    refine hN _ _ ?_
    clear hP hN hns
    clear hS HST HB8 HGG HS6 HPO HS
    go_upto_region 9 with fail
    refine h_openL (S := fun w' => Sb w' g6 l kl kr) (by kernel_rfl) (by kernel_rfl) (fun _ _ _ _ _ h => h) (L := #[false, false, false, false, false, false, false, false]) (by kernel_rfl) ?_
    intro Q' hns hP hN
    have hS := HE.out.1
    refine h_takeL (i := 0) (v := .pointer (some ⟨j, 0, none⟩)) hns rfl rfl (by kernel_rfl) (by kernel_rfl) hP (y_move rfl (by kernel_rfl) (by kernel_rfl)) hS rfl (L' := #[true, false, false, false, false, false, false, false]) (by kernel_rfl) ?_
    refine h_takeL (i := 1) (v := St l kl kr) hns rfl rfl (by kernel_rfl) (by kernel_rfl) hP (y_load rfl (by kernel_rfl) (by kernel_rfl) (fun w' h => pload76 HLL.out h)) hS rfl (L' := #[true, true, false, false, false, false, false, false]) (by kernel_rfl) ?_
    refine h_takeL (i := 2) (v := St l kl kr) hns rfl rfl (by kernel_rfl) (by kernel_rfl) hP (y_load rfl (by kernel_rfl) (by kernel_rfl) (fun w' h => pload76 HLL.out h)) hS rfl (L' := #[true, true, true, false, false, false, false, false]) (by kernel_rfl) ?_
    refine h_callL (i := 3) (f := 42) (args := #[St l kl kr]) (by kernel_rfl) rfl rfl (by kernel_rfl) (enter_go rfl (by kernel_rfl) (fun w => by go_simp)) (L' := #[true, true, true, true, false, false, false, false]) (by kernel_rfl) ?_
    refine (unchanged_any l kl kr _).mono ?_
    rintro e w9 ⟨rfl, hB9⟩
    have hS9 := Sb.below (B := w8.heap.size) hS (Below.undr hB9) (heap_lt hS)
    have hbx := pbox90 w9 j l kl kr false kl kr none none 0
    have hBx : Below w9.heap.size w9 (w9.alloc (.cells (pgC j l kl kr false kl kr none none 0).toArray 90)) := (Below.refl _ _).alloc (Nat.le_refl _) _
    have hPx : Pg (w9.alloc (.cells (pgC j l kl kr false kl kr none none 0).toArray 90)) w9.heap.size j l kl kr false kl kr none none 0 := ⟨HLL.out, heap_alloc_last w9 _⟩
    generalize w9.alloc (.cells (pgC j l kl kr false kl kr none none 0).toArray 90) = wx at *
    have hsz : B ≤ w9.heap.size := by have := hB9.size; have := HE.out.2.1.size; have := H4B.out.2; have := HG.out; have : w8.drew.heap.size = w8.heap.size := rfl; omega
    have hBB : Below B w wx := (((H4B.out.1.trans (HE.out.2.1.mono (by have := H4B.out.2; have := HG.out; omega))).trans ((Below.undr hB9).mono (by have := HE.out.2.1.size; have := H4B.out.2; have : w8.drew.heap.size = w8.heap.size := rfl; omega)))).trans (hBx.mono hsz)
    have hSx := hS9.below hBx (heap_lt hS9)
    obtain ⟨pp, hpp⟩ : ∃ g, w9.heap.size = g := ⟨_, rfl⟩
    rw [hpp] at hbx hPx hsz
    have HZ := hid (And.intro hsz (And.intro hPx hBB))
    have HBX := hid hbx
    have HSX := hid hSx
    refine ⟨_, rfl, hS9, ?_⟩
    have HS9 := hid hS9
    clear hS hB9 hS9 hbx hBx hPx hsz hBB hSx hpp
    have hS := HS9.out
    refine h_valL (i := 4) (v := .agg (pgC j l kl kr false kl kr none none 0).toArray) (by kernel_rfl) rfl rfl (by kernel_rfl) (run_buildOp rfl (by kernel_rfl) (pbuild90 j l kl kr kl kr HLL.out _)) hS rfl (L' := #[true, true, true, true, true, false, false, false]) (by kernel_rfl) ?_
    refine h_valL (i := 5) (v := .pointer (some ⟨pp, 0, none⟩)) (by kernel_rfl) rfl rfl (by kernel_rfl) (run_boxOp rfl (by kernel_rfl) HBX.out) HSX.out rfl (L' := #[true, true, true, true, true, true, false, false]) (by kernel_rfl) ?_
    clear hS HS9
    have hS := HSX.out
    refine h_takeL (i := 6) (v := .pointer (some ⟨pp, 0, none⟩)) hns rfl rfl (by kernel_rfl) (by kernel_rfl) hP (y_assign rfl (by kernel_rfl) (by kernel_rfl)) hS rfl (L' := #[true, true, true, true, true, true, true, false]) (by kernel_rfl) ?_
    try simp only [List.setIfInBounds_toArray, List.set_cons_zero, List.set_cons_succ]
    refine h_takeL (i := 7) (v := (.int .i64 0)) hns rfl rfl (by kernel_rfl) (by kernel_rfl) hP (y_assign rfl (by kernel_rfl) (by kernel_rfl)) hS rfl (L' := #[true, true, true, true, true, true, true, true]) (by kernel_rfl) ?_
    try simp only [List.setIfInBounds_toArray, List.set_cons_zero, List.set_cons_succ]
    refine wpAnyH_done (by kernel_rfl) ?_ _
    refine hN _ _ ?_
    clear hP hN hns
    clear hS HBX HSX
    go_wp2_with fail
    go_ret2
    exact ⟨pp, HZ.out.1, rfl, HZ.out.2⟩
set_option maxRecDepth 100000 in
set_option maxHeartbeats 1000000 in
theorem popen_bad {w : World} {j d : Nat} {X : List Nat} {s : DS} {sq cnt : Nat} {bl : List (List UInt8)} (h : Jr w j d X s sq cnt bl) {n : Nat} {hd : List UInt8} (hn : (nbOf s.n - 2) / 8 = n) (hc : cat bl 0 2 = hd) (h0 : hd.getD 18 0 = 0) (h1 : hd.getD 19 0 = 0) (hb : hdOf (lk hd n n) 0 ≠ hd) :
    Calls Tryz.prog 13 #[.pointer (some ⟨j, 0, none⟩)] w fun e w' => e = .returned (.tuple #[.pointer none, .int .i64 82]) ∧ Below w.heap.size w w' := by
  have hn1 := h.nb
  have hbl : bl.length = nbOf s.n := h.sett.con.len
  have hnb2 : 2 ≤ nbOf s.n := by have := h.sett.n32; unfold nbOf; omega
  have hrh := readHead_any h (by omega)
  have hdl : hd.length = 224 := by rw [← hc]; exact cat_len bl h.sett.con.lens 0 2 (by omega)
  rw [hc] at hrh
  have HRH := hid hrh
  have HDL := hid hdl
  have HLL0 : Hid (([] : List Bool).length ≤ 1023) := hid (by simp)
  have HS60 : Hid (∀ w', Calls Tryz.prog 40 #[V8 hd, .int .i64 n] w' fun e w'' => e = .returned (.tuple #[St [] 0 0, .bool false]) ∧ Below w'.heap.size w' w'') := hid (fun w' => by
    have h2 := state_any hd hdl n (by omega) 0 (by rw [h0, h1]; rfl) (.inl rfl) w'
    rw [if_neg hb, decide_eq_false hb] at h2
    exact h2)
  obtain ⟨l, hl⟩ : ∃ l : List Bool, ([] : List Bool) = l := ⟨_, rfl⟩
  obtain ⟨kl, hkl⟩ : ∃ k : Int, (0 : Int) = k := ⟨_, rfl⟩
  obtain ⟨kr, hkr⟩ : ∃ k : Int, (0 : Int) = k := ⟨_, rfl⟩
  have HLL : Hid (l.length ≤ 1023) := hid (by rw [← hl]; simp)
  have HS6 : Hid (∀ w', Calls Tryz.prog 40 #[V8 hd, .int .i64 n] w' fun e w'' => e = .returned (.tuple #[St l kl kr, .bool false]) ∧ Below w'.heap.size w' w'') := hid (by
    subst hl
    rw [← hkl, ← hkr]
    exact HS60.out)
  obtain ⟨B, hB⟩ : ∃ B, w.heap.size = B := ⟨_, rfl⟩
  have hHB := HRH.out
  have HPO : Hid (∀ w', Below B w w' → Calls Tryz.prog 41 #[.pointer (some ⟨j, 0, none⟩)] w' fun e w'' => e = .returned (.int .i64 n) ∧ w'' = w') := hid (fun w' hB' => by
    have h1 := pagesOf_any (h.below (by rw [hB]; exact hB')).jn hnb2 h.nb
    rw [hn] at h1
    exact h1)
  rw [hB] at hHB ⊢
  have HRH2 := hid hHB
  have HB := hid hB
  have HPO0 := HPO
  clear HRH hHB h hn hnb2 hB hn1 hbl hrh hdl hc h0 h1 hb hl hkl hkr HLL0 HS60
  go_enter Tryz.func13, Tryz.ntmps13
  go_upto_region 3 with fail
  refine wp_region_lit ?_
  refine wp_y (v := .pointer (some ⟨j, 0, none⟩)) rfl rfl (y_move rfl (by kernel_rfl) (by kernel_rfl)) rfl ?_
  refine wp_call (f := 39) (args := #[.pointer (some ⟨j, 0, none⟩)]) (by kernel_rfl) (fun w => by go_simp) ?_
  refine HRH2.out.mono ?_
  rintro e w2 ⟨rfl, hB2⟩
  refine ⟨_, rfl, ?_⟩
  have hal := palloc70 w2
  have hB3 : Below w2.heap.size w2 (w2.alloc (.cells (cells8 z224).toArray 70)) := (Below.refl _ _).alloc (Nat.le_refl _) _
  have hR3 : Rw (w2.alloc (.cells (cells8 z224).toArray 70)) w2.heap.size 70 z224 := heap_alloc_last w2 _
  generalize w2.alloc (.cells (cells8 z224).toArray 70) = w3 at *
  obtain ⟨g4, hg4⟩ : ∃ g, w2.heap.size = g := ⟨_, rfl⟩
  have hs2 : B ≤ g4 := by have := hB2.size; have := HB.out; omega
  rw [hg4] at hal hR3 hB3
  have hst := pstore70 z224_len HDL.out hR3
  have hR4 := hR3.row hd
  have hF4 := Fr.setRow w3 g4 (cells8 hd).toArray
  generalize w3.setRow g4 (cells8 hd).toArray = w4 at *
  have HZ4 : Hid (Rw w4 g4 70 hd ∧ Below B w w4 ∧ B ≤ w4.heap.size) := hid ⟨hR4, (hB2.trans (hB3.mono hs2)).trans (hF4.below (by have := hR3.lt; omega) (by simp; omega)), by have := hR4.lt; omega⟩
  have HAL := hid hal
  have HST := hid hst
  clear hB2 hB3 hR3 hal hst hR4 hF4 hg4 hs2
  dsimp only [Act.put]
  refine wp_y (v := .tuple #[V8 hd, .int .i64 0]) rfl rfl (y_move rfl (by kernel_rfl) (by kernel_rfl)) rfl ?_
  refine wp_y (v := V8 hd) rfl rfl (y_ext rfl (by kernel_rfl) (by kernel_rfl) (ext2_0 (V8 hd) (.int .i64 0))) rfl ?_
  refine wp_y (v := .int .i64 0) rfl rfl (y_ext rfl (by kernel_rfl) (by kernel_rfl) (ext2_1 (V8 hd) (.int .i64 0))) rfl ?_
  refine wp_run (v := .pointer (some ⟨g4, 0, none⟩)) rfl rfl (run_alOp rfl HAL.out) rfl ?_
  refine wp_do rfl rfl (run_storeOp rfl (by kernel_rfl) (by kernel_rfl) HST.out) ?_
  refine wp_y (v := .int .i64 0) rfl rfl (y_assign rfl (by kernel_rfl) (by kernel_rfl)) rfl ?_
  try simp only [List.setIfInBounds_toArray, List.set_cons_zero, List.set_cons_succ]
  refine wp_end ?_
  clear HAL HST
  obtain ⟨G, hG⟩ : ∃ G, w4.heap.size = G := ⟨_, rfl⟩
  obtain ⟨wd, hwd⟩ : ∃ wd, w4.drew = wd := ⟨_, rfl⟩
  have HS : Hid (Below G w4 wd) := hid (by rw [← hwd]; exact (Below.refl _ _).drew)
  have h4 := HZ4.out
  have HPO : Hid (∀ w', Below G w4 w' → Calls Tryz.prog 41 #[.pointer (some ⟨j, 0, none⟩)] w' fun e w'' => e = .returned (.int .i64 n) ∧ w'' = w') := hid (fun w' hB' => HPO0.out w' (h4.2.1.trans (hB'.mono (by omega))))
  have H4 : Hid (Rw w4 g4 70 hd ∧ g4 < G) := hid ⟨h4.1, by rw [← hG]; exact h4.1.lt⟩
  have H4B : Hid (Below B w w4 ∧ B ≤ w4.heap.size) := hid h4.2
  have HG := hid hG
  have HWD := hid hwd
  clear h4 HZ4 HPO0 hG hwd HRH2 HB
  go_upto_region 6 with fail
  refine h_openL (S := fun w' => Below G w4 w') (by kernel_rfl) (by kernel_rfl) (fun _ _ _ _ _ h => h) (L := #[false, false, false, false, false, false, false, false, false, false]) (by kernel_rfl) ?_
  intro Q' hns hP hN
  have hS := HS.out
  rw [HWD.out]
  refine h_takeL (i := 0) (v := V8 hd) hns rfl rfl (by kernel_rfl) (by kernel_rfl) hP (y_load rfl (by kernel_rfl) (by kernel_rfl) (fun w' h => pload70 HDL.out (H4.out.1.below h H4.out.2))) hS rfl (L' := #[true, false, false, false, false, false, false, false, false, false]) (by kernel_rfl) ?_
  refine h_takeL (i := 1) (v := .pointer (some ⟨j, 0, none⟩)) hns rfl rfl (by kernel_rfl) (by kernel_rfl) hP (y_move rfl (by kernel_rfl) (by kernel_rfl)) hS rfl (L' := #[true, true, false, false, false, false, false, false, false, false]) (by kernel_rfl) ?_
  try simp only [List.setIfInBounds_toArray, List.set_cons_zero, List.set_cons_succ]
  refine h_two (i := 2) (i2 := 7) (by kernel_rfl) rfl rfl (by kernel_rfl) (by kernel_rfl) ?_ ?_
  · refine o_call (i := 2) (f := 41) (args := #[.pointer (some ⟨j, 0, none⟩)]) rfl (enter_go rfl (by kernel_rfl) (fun w => by go_simp)) (L' := #[true, true, true, false, false, false, false, false, false, false]) (by kernel_rfl) ?_
    refine (HPO.out wd hS).mono ?_
    rintro e w5 ⟨rfl, hw5⟩
    obtain rfl := hw5.symm
    refine ⟨_, rfl, hS, ?_⟩
    try simp only [List.setIfInBounds_toArray, List.set_cons_zero, List.set_cons_succ]
    refine h_two (i := 3) (i2 := 7) (by kernel_rfl) rfl rfl (by kernel_rfl) (by kernel_rfl) ?_ ?_
    · refine o_call (i := 3) (f := 40) (args := #[V8 hd, .int .i64 n]) rfl (enter_go rfl (by kernel_rfl) (fun w => by go_simp)) (L' := #[true, true, true, true, false, false, false, false, false, false]) (by kernel_rfl) ?_
      refine (HS6.out wd).mono ?_
      rintro e w6 ⟨rfl, hB6⟩
      have hS6 : Below G w4 w6 := hS.trans (hB6.mono (by have := hS.size; have := HG.out; omega))
      refine ⟨_, rfl, hS6, ?_⟩
      try simp only [List.setIfInBounds_toArray, List.set_cons_zero, List.set_cons_succ]
      have HSS := hid hS6
      clear hS hB6 hS6
      have hS := HSS.out
      clear HSS
      refine h_takeL (i := 4) (v := .tuple #[St l kl kr, .bool false]) hns rfl rfl (by kernel_rfl) (by kernel_rfl) hP (y_move rfl (by kernel_rfl) (by kernel_rfl)) hS rfl (L' := #[true, true, true, true, true, false, false, false, false, false]) (by kernel_rfl) ?_
      refine h_takeL (i := 5) (v := St l kl kr) hns rfl rfl (by kernel_rfl) (by kernel_rfl) hP (y_ext rfl (by kernel_rfl) (by kernel_rfl) (ext2_0 (St l kl kr) (.bool false))) hS rfl (L' := #[true, true, true, true, true, true, false, false, false, false]) (by kernel_rfl) ?_
      refine h_takeL (i := 6) (v := .bool false) hns rfl rfl (by kernel_rfl) (by kernel_rfl) hP (y_ext rfl (by kernel_rfl) (by kernel_rfl) (ext2_1 (St l kl kr) (.bool false))) hS rfl (L' := #[true, true, true, true, true, true, true, false, false, false]) (by kernel_rfl) ?_
      try simp only [List.setIfInBounds_toArray, List.set_cons_zero, List.set_cons_succ]
      have hal := palloc76 w6
      have hBa : Below w6.heap.size w6 (w6.alloc (.cells (stC [] 0 0).toArray 76)) := (Below.refl _ _).alloc (Nat.le_refl _) _
      have hSb : Sb (w6.alloc (.cells (stC [] 0 0).toArray 76)) w6.heap.size [] 0 0 := heap_alloc_last w6 _
      generalize w6.alloc (.cells (stC [] 0 0).toArray 76) = wa at *
      obtain ⟨g6, hg6⟩ : ∃ g, w6.heap.size = g := ⟨_, rfl⟩
      rw [hg6] at hal hBa hSb
      have hGg : G ≤ g6 := by have := hS.size; have := HG.out; omega
      have hSa : Below G w4 wa := hS.trans (hBa.mono hGg)
      have HGG := hid hGg
      clear hGg hg6 hBa
      refine h_valL (i := 7) (v := .pointer (some ⟨g6, 0, none⟩)) (by kernel_rfl) rfl rfl (by kernel_rfl) (run_alOp rfl hal) hSa rfl (L' := #[true, true, true, true, true, true, true, true, false, false]) (by kernel_rfl) ?_
      try simp only [List.setIfInBounds_toArray, List.set_cons_zero, List.set_cons_succ]
      clear hS hal
      have hS := hSa
      clear hSa
      have hst := pstore76 (l := []) (kl := 0) (kr := 0) (by simp) HLL.out (kl' := kl) (kr' := kr) hSb
      have hS8 := hSb.row l kl kr
      have hF8 := Fr.setRow wa g6 (stC l kl kr).toArray
      generalize wa.setRow g6 (stC l kl kr).toArray = w8 at *
      have hB8 : Below G w4 w8 := hS.trans (hF8.below (by have := hS.size; have := HG.out; omega) (by have := HGG.out; simp; omega))
      have HE := hid (And.intro hS8 (And.intro hB8 HGG.out))
      have HST := hid hst
      have HB8 := hid hB8
      clear hst hS8 hF8 hB8 hSb
      refine h_skipL (i := 8) (by kernel_rfl) rfl rfl (by kernel_rfl) (run_storeOp rfl (by kernel_rfl) (by kernel_rfl) HST.out) HB8.out (L' := #[true, true, true, true, true, true, true, true, true, false]) (by kernel_rfl) ?_
      refine h_takeL (i := 9) (v := .bool false) hns rfl rfl (by kernel_rfl) (by kernel_rfl) hP (y_assign rfl (by kernel_rfl) (by kernel_rfl)) HB8.out rfl (L' := #[true, true, true, true, true, true, true, true, true, true]) (by kernel_rfl) ?_
      try simp only [List.setIfInBounds_toArray, List.set_cons_zero, List.set_cons_succ]
      refine wpAnyH_done (by kernel_rfl) ?_ _
      refine hN _ _ ?_
      clear hP hN hns
      clear hS HST HB8 HGG HS6 HPO HS
      have HZ : Hid (Below B w w8) := hid (H4B.out.1.trans (HE.out.2.1.mono (by have := H4B.out.2; have := HG.out; omega)))
      go_wp2_with fail
      go_ret2
      exact ⟨rfl, HZ.out⟩
    · have hal := palloc76 wd
      have hBa : Below wd.heap.size wd (wd.alloc (.cells (stC [] 0 0).toArray 76)) := (Below.refl _ _).alloc (Nat.le_refl _) _
      have hSb : Sb (wd.alloc (.cells (stC [] 0 0).toArray 76)) wd.heap.size [] 0 0 := heap_alloc_last wd _
      generalize wd.alloc (.cells (stC [] 0 0).toArray 76) = wa at *
      obtain ⟨g6, hg6⟩ : ∃ g, wd.heap.size = g := ⟨_, rfl⟩
      rw [hg6] at hal hBa hSb
      have hGg : G ≤ g6 := by have := hS.size; have := HG.out; omega
      have hSa : Below G w4 wa := hS.trans (hBa.mono hGg)
      have HGG := hid hGg
      clear hGg hg6 hBa
      refine o_val (i := 7) (v := .pointer (some ⟨g6, 0, none⟩)) rfl (run_alOp rfl hal) hSa rfl (L' := #[true, true, true, false, false, false, false, true, false, false]) (by kernel_rfl) ?_
      try simp only [List.setIfInBounds_toArray, List.set_cons_zero, List.set_cons_succ]
      clear hS hal
      have hS := hSa
      clear hSa
      refine h_callL (i := 3) (f := 40) (args := #[V8 hd, .int .i64 n]) (by kernel_rfl) rfl rfl (by kernel_rfl) (enter_go rfl (by kernel_rfl) (fun w => by go_simp)) (L' := #[true, true, true, true, false, false, false, true, false, false]) (by kernel_rfl) ?_
      refine (HS6.out wa).mono ?_
      rintro e w6 ⟨rfl, hB6⟩
      have hS6 : Below G w4 w6 := hS.trans (hB6.mono (by have := hS.size; have := HG.out; omega))
      have hSb6 := hSb.below hB6 (heap_lt hSb)
      refine ⟨_, rfl, hS6, ?_⟩
      try simp only [List.setIfInBounds_toArray, List.set_cons_zero, List.set_cons_succ]
      have HSS := hid hS6
      have HSB := hid hSb6
      clear hSb hSb6
      clear hS hB6 hS6
      have hS := HSS.out
      clear HSS
      have hSb := HSB.out
      clear HSB
      refine h_takeL (i := 4) (v := .tuple #[St l kl kr, .bool false]) hns rfl rfl (by kernel_rfl) (by kernel_rfl) hP (y_move rfl (by kernel_rfl) (by kernel_rfl)) hS rfl (L' := #[true, true, true, true, true, false, false, true, false, false]) (by kernel_rfl) ?_
      refine h_takeL (i := 5) (v := St l kl kr) hns rfl rfl (by kernel_rfl) (by kernel_rfl) hP (y_ext rfl (by kernel_rfl) (by kernel_rfl) (ext2_0 (St l kl kr) (.bool false))) hS rfl (L' := #[true, true, true, true, true, true, false, true, false, false]) (by kernel_rfl) ?_
      refine h_takeL (i := 6) (v := .bool false) hns rfl rfl (by kernel_rfl) (by kernel_rfl) hP (y_ext rfl (by kernel_rfl) (by kernel_rfl) (ext2_1 (St l kl kr) (.bool false))) hS rfl (L' := #[true, true, true, true, true, true, true, true, false, false]) (by kernel_rfl) ?_
      try simp only [List.setIfInBounds_toArray, List.set_cons_zero, List.set_cons_succ]
      have hst := pstore76 (l := []) (kl := 0) (kr := 0) (by simp) HLL.out (kl' := kl) (kr' := kr) hSb
      have hS8 := hSb.row l kl kr
      have hF8 := Fr.setRow w6 g6 (stC l kl kr).toArray
      generalize w6.setRow g6 (stC l kl kr).toArray = w8 at *
      have hB8 : Below G w4 w8 := hS.trans (hF8.below (by have := hS.size; have := HG.out; omega) (by have := HGG.out; simp; omega))
      have HE := hid (And.intro hS8 (And.intro hB8 HGG.out))
      have HST := hid hst
      have HB8 := hid hB8
      clear hst hS8 hF8 hB8 hSb
      refine h_skipL (i := 8) (by kernel_rfl) rfl rfl (by kernel_rfl) (run_storeOp rfl (by kernel_rfl) (by kernel_rfl) HST.out) HB8.out (L' := #[true, true, true, true, true, true, true, true, true, false]) (by kernel_rfl) ?_
      refine h_takeL (i := 9) (v := .bool false) hns rfl rfl (by kernel_rfl) (by kernel_rfl) hP (y_assign rfl (by kernel_rfl) (by kernel_rfl)) HB8.out rfl (L' := #[true, true, true, true, true, true, true, true, true, true]) (by kernel_rfl) ?_
      try simp only [List.setIfInBounds_toArray, List.set_cons_zero, List.set_cons_succ]
      refine wpAnyH_done (by kernel_rfl) ?_ _
      refine hN _ _ ?_
      clear hP hN hns
      clear hS HST HB8 HGG HS6 HPO HS
      have HZ : Hid (Below B w w8) := hid (H4B.out.1.trans (HE.out.2.1.mono (by have := H4B.out.2; have := HG.out; omega)))
      go_wp2_with fail
      go_ret2
      exact ⟨rfl, HZ.out⟩
  · have hal := palloc76 wd
    have hBa : Below wd.heap.size wd (wd.alloc (.cells (stC [] 0 0).toArray 76)) := (Below.refl _ _).alloc (Nat.le_refl _) _
    have hSb : Sb (wd.alloc (.cells (stC [] 0 0).toArray 76)) wd.heap.size [] 0 0 := heap_alloc_last wd _
    generalize wd.alloc (.cells (stC [] 0 0).toArray 76) = wa at *
    obtain ⟨g6, hg6⟩ : ∃ g, wd.heap.size = g := ⟨_, rfl⟩
    rw [hg6] at hal hBa hSb
    have hGg : G ≤ g6 := by have := hS.size; have := HG.out; omega
    have hSa : Below G w4 wa := hS.trans (hBa.mono hGg)
    have HGG := hid hGg
    clear hGg hg6 hBa
    refine o_val (i := 7) (v := .pointer (some ⟨g6, 0, none⟩)) rfl (run_alOp rfl hal) hSa rfl (L' := #[true, true, false, false, false, false, false, true, false, false]) (by kernel_rfl) ?_
    try simp only [List.setIfInBounds_toArray, List.set_cons_zero, List.set_cons_succ]
    clear hS hal
    have hS := hSa
    clear hSa
    refine h_callL (i := 2) (f := 41) (args := #[.pointer (some ⟨j, 0, none⟩)]) (by kernel_rfl) rfl rfl (by kernel_rfl) (enter_go rfl (by kernel_rfl) (fun w => by go_simp)) (L' := #[true, true, true, false, false, false, false, true, false, false]) (by kernel_rfl) ?_
    refine (HPO.out wa hS).mono ?_
    rintro e w5 ⟨rfl, hw5⟩
    obtain rfl := hw5.symm
    refine ⟨_, rfl, hS, ?_⟩
    try simp only [List.setIfInBounds_toArray, List.set_cons_zero, List.set_cons_succ]
    refine h_callL (i := 3) (f := 40) (args := #[V8 hd, .int .i64 n]) (by kernel_rfl) rfl rfl (by kernel_rfl) (enter_go rfl (by kernel_rfl) (fun w => by go_simp)) (L' := #[true, true, true, true, false, false, false, true, false, false]) (by kernel_rfl) ?_
    refine (HS6.out wa).mono ?_
    rintro e w6 ⟨rfl, hB6⟩
    have hS6 : Below G w4 w6 := hS.trans (hB6.mono (by have := hS.size; have := HG.out; omega))
    have hSb6 := hSb.below hB6 (heap_lt hSb)
    refine ⟨_, rfl, hS6, ?_⟩
    try simp only [List.setIfInBounds_toArray, List.set_cons_zero, List.set_cons_succ]
    have HSS := hid hS6
    have HSB := hid hSb6
    clear hSb hSb6
    clear hS hB6 hS6
    have hS := HSS.out
    clear HSS
    have hSb := HSB.out
    clear HSB
    refine h_takeL (i := 4) (v := .tuple #[St l kl kr, .bool false]) hns rfl rfl (by kernel_rfl) (by kernel_rfl) hP (y_move rfl (by kernel_rfl) (by kernel_rfl)) hS rfl (L' := #[true, true, true, true, true, false, false, true, false, false]) (by kernel_rfl) ?_
    refine h_takeL (i := 5) (v := St l kl kr) hns rfl rfl (by kernel_rfl) (by kernel_rfl) hP (y_ext rfl (by kernel_rfl) (by kernel_rfl) (ext2_0 (St l kl kr) (.bool false))) hS rfl (L' := #[true, true, true, true, true, true, false, true, false, false]) (by kernel_rfl) ?_
    refine h_takeL (i := 6) (v := .bool false) hns rfl rfl (by kernel_rfl) (by kernel_rfl) hP (y_ext rfl (by kernel_rfl) (by kernel_rfl) (ext2_1 (St l kl kr) (.bool false))) hS rfl (L' := #[true, true, true, true, true, true, true, true, false, false]) (by kernel_rfl) ?_
    try simp only [List.setIfInBounds_toArray, List.set_cons_zero, List.set_cons_succ]
    have hst := pstore76 (l := []) (kl := 0) (kr := 0) (by simp) HLL.out (kl' := kl) (kr' := kr) hSb
    have hS8 := hSb.row l kl kr
    have hF8 := Fr.setRow w6 g6 (stC l kl kr).toArray
    generalize w6.setRow g6 (stC l kl kr).toArray = w8 at *
    have hB8 : Below G w4 w8 := hS.trans (hF8.below (by have := hS.size; have := HG.out; omega) (by have := HGG.out; simp; omega))
    have HE := hid (And.intro hS8 (And.intro hB8 HGG.out))
    have HST := hid hst
    have HB8 := hid hB8
    clear hst hS8 hF8 hB8 hSb
    refine h_skipL (i := 8) (by kernel_rfl) rfl rfl (by kernel_rfl) (run_storeOp rfl (by kernel_rfl) (by kernel_rfl) HST.out) HB8.out (L' := #[true, true, true, true, true, true, true, true, true, false]) (by kernel_rfl) ?_
    refine h_takeL (i := 9) (v := .bool false) hns rfl rfl (by kernel_rfl) (by kernel_rfl) hP (y_assign rfl (by kernel_rfl) (by kernel_rfl)) HB8.out rfl (L' := #[true, true, true, true, true, true, true, true, true, true]) (by kernel_rfl) ?_
    try simp only [List.setIfInBounds_toArray, List.set_cons_zero, List.set_cons_succ]
    refine wpAnyH_done (by kernel_rfl) ?_ _
    refine hN _ _ ?_
    clear hP hN hns
    clear hS HST HB8 HGG HS6 HPO HS
    have HZ : Hid (Below B w w8) := hid (H4B.out.1.trans (HE.out.2.1.mono (by have := H4B.out.2; have := HG.out; omega)))
    go_wp2_with fail
    go_ret2
    exact ⟨rfl, HZ.out⟩

end Go.Proofs.YtdbgccgjdgomkaaGreatDoor
