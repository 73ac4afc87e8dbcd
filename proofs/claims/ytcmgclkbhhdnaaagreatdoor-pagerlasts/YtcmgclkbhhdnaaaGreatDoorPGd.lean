/- texts put together: PCom PView PView2 PRefA PRefB PBegun PShown -/
import Derived.Test.YtcmgclkbhhdnaaaGreatDoorPGc
namespace Go.Proofs.YtcmgclkbhhdnaaaGreatDoor
open Go Go.RowKit

/-- The blocks of pages, and their bytes, as they are written. -/
def pz (ks : List Int) : List Int := ks.flatMap fun k => seqZ (2 + k * 8) 8
def pp (g : Int → Option (List UInt8)) (ks : List Int) : List (List UInt8) := ks.flatMap fun k => (List.range 8).map (hp (cget g k))
theorem pz_snoc (ks : List Int) (k : Int) : pz (ks ++ [k]) = pz ks ++ seqZ (2 + k * 8) 8 := by simp [pz]
theorem pp_snoc (g : Int → Option (List UInt8)) (ks : List Int) (k : Int) : pp g (ks ++ [k]) = pp g ks ++ (List.range 8).map (hp (cget g k)) := by simp [pp]
theorem pz_len (ks : List Int) : (pz ks).length = 8 * ks.length := by
  induction ks with
  | nil => rfl
  | cons k r ih =>
    have : pz (k :: r) = seqZ (2 + k * 8) 8 ++ pz r := by simp [pz]
    rw [this, List.length_append, seqZ_len, ih, List.length_cons]; omega
theorem pp_len (g : Int → Option (List UInt8)) (ks : List Int) : (pp g ks).length = 8 * ks.length := by
  induction ks with
  | nil => rfl
  | cons k r ih =>
    have : pp g (k :: r) = (List.range 8).map (hp (cget g k)) ++ pp g r := by simp [pp]
    rw [this, List.length_append, List.length_map, List.length_range, ih, List.length_cons]; omega
theorem owns_keep {w w' : World} {B : Nat} {t : TypeId} {g n c : Nat} {xs : List Value} (h : w.ownsRow B t 1 (.slice (some ⟨g, 0, none⟩) n c) n xs) (hk : w'.heap[g]? = w.heap[g]?) : w'.ownsRow B t 1 (.slice (some ⟨g, 0, none⟩) n c) n xs := by
  refine ⟨h.1, ?_⟩
  rcases h.2 with h2 | ⟨g', cap, cur, e, hb, hg, r2⟩
  · exact .inl h2
  · injection e with e1 e2 e3
    injection e1 with e1
    injection e1 with e1
    subst e1
    exact .inr ⟨g, cap, cur, by rw [e3], hb, hk.trans hg, r2⟩
theorem Sb.ot {w w' : World} {g : Nat} {l : List Bool} {kl kr : Int} (h : Sb w g l kl kr) (hO : Ot2 w w') : Sb w' g l kl kr := hO.block _ _ h (fun c e => by injection e with _ e2; exact absurd e2 (by decide)) (fun c e => by injection e with _ e2; exact absurd e2 (by decide))
theorem Kp.pg {w w' : World} (hK : Kp w w') {p j : Nat} {l : List Bool} {kl kr : Int} {bg : Bool} {lf rt : Int} {um bm : Option Nat} {off : Int} (h : Pg w p j l kl kr bg lf rt um bm off) : Pg w' p j l kl kr bg lf rt um bm off := ⟨h.1, hK.block _ _ _ _ h.2 (by decide) (by decide) (by decide)⟩
theorem Kp.sb {w w' : World} (hK : Kp w w') {g : Nat} {l : List Bool} {kl kr : Int} (h : Sb w g l kl kr) : Sb w' g l kl kr := hK.block _ _ _ _ h (by decide) (by decide) (by decide)
theorem pcommit_idle {w : World} {p j : Nat} {l : List Bool} {kl kr : Int} {lf rt : Int} {um bm : Option Nat} (h : Pg w p j l kl kr false lf rt um bm 0) : Calls Tryz.prog 20 #[.pointer (some ⟨p, 0, none⟩)] w fun e w' => e = .returned (.int .i64 0) ∧ w' = w := by
  have HR := hid (ready_any h)
  have c0 := h.cbg
  clear h
  go_enter Tryz.func20, Tryz.ntmps20
  go_wp2_with fail
  refine HR.out.mono ?_
  rintro e w1 ⟨rfl, hw1⟩
  obtain rfl := hw1.symm
  clear HR
  go_wp2
  go_ret
  exact ⟨rfl, rfl⟩
set_option maxRecDepth 100000 in
set_option maxHeartbeats 4000000 in
theorem pcommit_any {w : World} {p j : Nat} {l : List Bool} {kl kr : Int} {lf rt : Int} {um bm : Option Nat} {u : Int → Option Bool} {g : Int → Option (List UInt8)} (h : PM w p j l kl kr true lf rt um bm 0 u g) {kb : List Int} (hb : Mo w bm kb (gV g)) {r : Nat} (hr : rt + 1 = (r : Int)) (hr2 : r < 65536) (R1 R2 : World → Prop)
    (hwr : ∀ w5 va vb, Below w.heap.size w w5 → Iz w5 va ([0, 1] ++ pz (sorted kb)) → Bz w5 vb ([hp (hdOf (ovl l u) r) 0, hp (hdOf (ovl l u) r) 1] ++ pp g (sorted kb)) → Calls Tryz.prog 58 #[.pointer (some ⟨j, 0, none⟩), va, vb] w5 fun e w' => Kp w5 w' ∧ ((e = .returned (.int .i64 0) ∧ R1 w') ∨ (e = .returned (.int .i64 43) ∧ R2 w'))) :
    Calls Tryz.prog 20 #[.pointer (some ⟨p, 0, none⟩)] w fun e w' => ∃ w6, Fr [p] w6 w' ∧ ((e = .returned (.int .i64 0) ∧ R1 w6 ∧ Pg w' p j (ovl l u) lf rt false lf rt none none 0) ∨ (e = .returned (.int .i64 43) ∧ R2 w6 ∧ Pg w' p j l kl kr true lf rt um bm 43)) := by
  obtain ⟨B, hB⟩ : ∃ B, w.heap.size = B := ⟨_, rfl⟩
  obtain ⟨zs, hzs⟩ : ∃ zs, sorted kb = zs := ⟨_, rfl⟩
  have hl := h.pg.1
  have hkb : ∀ k ∈ kb, 0 ≤ k ∧ k < 1023 := fun k hk => by
    have h1 := h.kb k ((gV_none g k).1 ((hb.mem k).1 hk))
    omega
  have hkl : kb.length ≤ 1023 := nd_len 1023 kb hb.nd (fun k hk => hkb k hk)
  obtain ⟨lo, hlo⟩ : ∃ lo, ovl l u = lo := ⟨_, rfl⟩
  have hll : lo.length ≤ 1023 := by rw [← hlo, ovl_len]; exact hl
  have HWI : Hid (∀ W, Below B w W → Calls Tryz.prog 51 #[St l kl kr, Ch true lf rt um bm] W fun e w' => e = .returned (St lo lf rt) ∧ Below W.heap.size W w') := hid (fun W hW => by
    obtain ⟨ku, hu⟩ := h.mu
    have hku : ∀ k, k ∈ ku ↔ u k ≠ none := fun k => (hu.mem k).trans (uV_none u k)
    have hkk : ∀ k ∈ ku, 0 ≤ k ∧ k < l.length := fun k hk => h.kd k ((hku k).1 hk)
    rw [← hlo]
    exact with_any l kl kr true lf rt um bm ku u hl W (hu.below (by rw [hB]; exact hW)) hkk hku (by have := nd_len l.length ku hu.nd hkk; omega))
  rw [hzs, hlo, hB] at hwr
  rw [hlo]
  have HHW : Hid (∀ W, Calls Tryz.prog 52 #[St lo lf rt] W fun e w' => ∃ va vb g, e = .returned (.tuple #[va, vb]) ∧ Ats w' W.heap.size va [0, 1] ∧ Bq w' W.heap.size vb [⟨g, 70, 0, hdOf lo r⟩, ⟨g, 70, 1, hdOf lo r⟩] ∧ Below W.heap.size W w') := hid (fun W => htw_any lo lf rt hll r hr hr2 W)
  have HPK : Hid (∀ W, Below B w W → Calls Tryz.prog 53 #[.pointer (some ⟨p, 1031, none⟩)] W fun e w' => ∃ v, e = .returned v ∧ Ats w' W.heap.size v zs ∧ Below W.heap.size W w') := hid (fun W hW => by
    have hW' : Below w.heap.size w W := by rw [hB]; exact hW
    rw [← hzs]
    exact pages_keysC (h.below hW').pg.cbm (hb.below hW') hkb (by omega))
  have HGC : Hid (∀ W (k : Int), Below B w W → Calls Tryz.prog 54 #[.pointer (some ⟨p, 1031, none⟩), .int .i64 k] W fun e w' => e = .returned (.tuple #[V8 (cget g k), .bool (g k).isSome]) ∧ Below W.heap.size W w') := hid (fun W k hW => by
    have hW' : Below w.heap.size w W := by rw [hB]; exact hW
    exact get_con (h.below hW').pg.cbm (hb.below hW') h.gl k)
  have HPG : Hid (∀ W, Below B w W → Pg W p j l kl kr true lf rt um bm 0) := hid (fun W hW => h.pg.below (by rw [hB]; exact hW) h.pg.lt)
  have HCL : Hid (∀ k, (cget g k).length = 896) := hid (fun k => cget_len h.gl k)
  have HZB : Hid (∀ z ∈ zs, 0 ≤ z ∧ z < 1023) := hid (fun z hz => hkb z (by rw [← hzs, mem_sorted] at hz; exact hz))
  have hzl : zs.length ≤ 1023 := by rw [← hzs, sorted_len]; exact hkl
  have HZL := hid hzl
  have HR := hid (ready_any h.pg)
  have HWR := hid hwr
  have HLL := hid hll
  have HB := hid hB
  have c0 := h.pg.cbg
  clear h hb hr hr2 hwr hl hkb hkl hzs hlo hll hzl hB
  generalize hdOf lo r = hd at *
  go_enter Tryz.func20, Tryz.ntmps20
  go_wp2_with fail
  refine HR.out.mono ?_
  rintro e w1 ⟨rfl, hw1⟩
  obtain rfl := hw1.symm
  clear HR
  obtain ⟨wd, hwd⟩ : ∃ wd, w.drew = wd := ⟨_, rfl⟩
  have HWD := hid hwd
  have HS : Hid (Below B w wd) := hid (by rw [← hwd]; exact (Below.refl _ _).drew)
  clear hwd
  go_upto_region 6 with fail
  refine h_openL (S := fun w' => Below B w w') (by kernel_rfl) (by kernel_rfl) (fun _ _ _ _ _ h => h) (L := #[false, false, false, false, false, false, false, false, false, false, false]) (by kernel_rfl) ?_
  intro Q' hns hP hN
  have hS := HS.out
  rw [HWD.out]
  refine h_takeL (i := 0) (v := .pointer (some ⟨p, 0, none⟩)) hns rfl rfl (by kernel_rfl) (by kernel_rfl) hP (y_move rfl) hS rfl (L' := #[true, false, false, false, false, false, false, false, false, false, false]) (by kernel_rfl) ?_
  refine h_takeL (i := 1) (v := .pointer (some ⟨p, 0, none⟩)) hns rfl rfl (by kernel_rfl) (by kernel_rfl) hP (y_nil rfl) hS rfl (L' := #[true, true, false, false, false, false, false, false, false, false, false]) (by kernel_rfl) ?_
  refine h_takeL (i := 2) (v := .pointer (some ⟨p, 1, none⟩)) hns rfl rfl (by kernel_rfl) (by kernel_rfl) hP (y_faddr rfl (hf := fa90_1 (p))) hS rfl (L' := #[true, true, true, false, false, false, false, false, false, false, false]) (by kernel_rfl) ?_
  refine h_takeL (i := 3) (v := St l kl kr) hns rfl rfl (by kernel_rfl) (by kernel_rfl) hP (y_load rfl (hl := fun w' h => (HPG.out w' h).loadS)) hS rfl (L' := #[true, true, true, true, false, false, false, false, false, false, false]) (by kernel_rfl) ?_
  refine h_takeL (i := 4) (v := .pointer (some ⟨p, 0, none⟩)) hns rfl rfl (by kernel_rfl) (by kernel_rfl) hP (y_move rfl) hS rfl (L' := #[true, true, true, true, true, false, false, false, false, false, false]) (by kernel_rfl) ?_
  refine h_takeL (i := 5) (v := .pointer (some ⟨p, 0, none⟩)) hns rfl rfl (by kernel_rfl) (by kernel_rfl) hP (y_nil rfl) hS rfl (L' := #[true, true, true, true, true, true, false, false, false, false, false]) (by kernel_rfl) ?_
  refine h_takeL (i := 6) (v := .pointer (some ⟨p, 1027, none⟩)) hns rfl rfl (by kernel_rfl) (by kernel_rfl) hP (y_faddr rfl (hf := fa90_2 (p))) hS rfl (L' := #[true, true, true, true, true, true, true, false, false, false, false]) (by kernel_rfl) ?_
  try simp only [List.setIfInBounds_toArray, List.set_cons_zero, List.set_cons_succ]
  refine h_takeL (i := 7) (v := Ch true lf rt um bm) hns rfl rfl (by kernel_rfl) (by kernel_rfl) hP (y_load rfl (hl := fun w' h => (HPG.out w' h).loadC)) hS rfl (L' := #[true, true, true, true, true, true, true, true, false, false, false]) (by kernel_rfl) ?_
  try simp only [List.setIfInBounds_toArray, List.set_cons_zero, List.set_cons_succ]
  refine h_two (i := 8) (i2 := 9) (by kernel_rfl) rfl rfl (by kernel_rfl) (by kernel_rfl) ?_ ?_
  · refine o_call (i := 8) (f := 51) (args := #[St l kl kr, Ch true lf rt um bm]) rfl (enter_go rfl (by kernel_rfl) (fun w => by go_simp)) (L' := #[true, true, true, true, true, true, true, true, true, false, false]) (by kernel_rfl) ?_
    refine (HWI.out wd hS).mono ?_
    rintro e w6 ⟨rfl, hB6⟩
    have hS6 : Below B w w6 := hS.trans (hB6.mono (by have := hS.size; have := HB.out; omega))
    refine ⟨_, rfl, hS6, ?_⟩
    try simp only [List.setIfInBounds_toArray, List.set_cons_zero, List.set_cons_succ]
    have HSS := hid hS6
    clear hS hB6 hS6
    have hS := HSS.out
    clear HSS
    have hal := palloc76 w6
    have hBa : Below w6.heap.size w6 (w6.alloc (.cells (stC [] 0 0).toArray 76)) := (Below.refl _ _).alloc (Nat.le_refl _) _
    have hSb : Sb (w6.alloc (.cells (stC [] 0 0).toArray 76)) w6.heap.size [] 0 0 := heap_alloc_last w6 _
    generalize w6.alloc (.cells (stC [] 0 0).toArray 76) = wa at *
    obtain ⟨g4, hg4⟩ : ∃ g, w6.heap.size = g := ⟨_, rfl⟩
    rw [hg4] at hal hBa hSb
    have hGg : B ≤ g4 := by have := hS.size; have := HB.out; omega
    have hSa : Below B w wa := hS.trans (hBa.mono hGg)
    have HGG := hid hGg
    clear hGg hg4 hBa
    refine h_valL (i := 9) (v := .pointer (some ⟨g4, 0, none⟩)) (by kernel_rfl) rfl rfl (by kernel_rfl) (run_alOp rfl hal) hSa rfl (L' := #[true, true, true, true, true, true, true, true, true, true, false]) (by kernel_rfl) ?_
    try simp only [List.setIfInBounds_toArray, List.set_cons_zero, List.set_cons_succ]
    clear hS hal
    have hS := hSa
    clear hSa
    have hst := pstore76 (l := []) (kl := 0) (kr := 0) (by simp) HLL.out (kl' := lf) (kr' := rt) hSb
    have hS8 := hSb.row lo lf rt
    have hF8 := Fr.setRow wa g4 (stC lo lf rt).toArray
    generalize wa.setRow g4 (stC lo lf rt).toArray = w2 at *
    have hB8 : Below B w w2 := hS.trans (hF8.below (by have := hS.size; have := HB.out; omega) (by have := HGG.out; simp; omega))
    have H2 := hid (And.intro hS8 hB8)
    have HST := hid hst
    have HB8 := hid hB8
    clear hst hS8 hF8 hB8 hSb
    refine h_skipL (i := 10) (by kernel_rfl) rfl rfl (by kernel_rfl) (run_storeOp rfl (by kernel_rfl) (by kernel_rfl) HST.out) HB8.out (L' := #[true, true, true, true, true, true, true, true, true, true, true]) (by kernel_rfl) ?_
    try simp only [List.setIfInBounds_toArray, List.set_cons_zero, List.set_cons_succ]
    refine wpAnyH_done (by kernel_rfl) ?_ _
    refine hN _ _ ?_
    clear hP hN hns
    clear hS HST HB8 HGG HWI HS
    go_upto_region 7 with fail
    refine wp_region_lit ?_
    refine wp_y (v := St lo lf rt) rfl rfl (y_load rfl (hl := fun w' h => by rw [h]; exact pload76 HLL.out H2.out.1)) rfl ?_
    refine wp_call (f := 52) (args := #[St lo lf rt]) (by kernel_rfl) (fun w => by go_simp) ?_
    refine (HHW.out w2).mono ?_
    rintro e w3 ⟨va, vb, gh, rfl, hA3, hQ3, hB3⟩
    refine ⟨_, rfl, ?_⟩
    have h2 := H2.out
    have hs2 : B ≤ w2.heap.size := by have := h2.2.size; have := HB.out; omega
    have hA3' : Ats w3 B va [0, 1] := owns_mono hA3 hs2
    have hQ3' : Bq w3 B vb [⟨gh, 70, 0, hd⟩, ⟨gh, 70, 1, hd⟩] := ⟨owns_mono hQ3.1 hs2, hQ3.2⟩
    have H3 : Hid (Ats w3 B va [0, 1] ∧ Bq w3 B vb [⟨gh, 70, 0, hd⟩, ⟨gh, 70, 1, hd⟩] ∧ Sb w3 g4 lo lf rt ∧ Below B w w3) := hid ⟨hA3', hQ3', h2.1.below hB3 (heap_lt h2.1), h2.2.trans (hB3.mono hs2)⟩
    clear h2 hs2 hA3 hQ3 hA3' hQ3' hB3
    dsimp only [Act.put]
    refine wp_y (v := .tuple #[va, vb]) rfl rfl (y_move rfl) rfl ?_
    refine wp_y (v := va) rfl rfl (y_ext rfl (hr := ext2_0 (va) (vb))) rfl ?_
    refine wp_y (v := vb) rfl rfl (y_ext rfl (hr := ext2_1 (va) (vb))) rfl ?_
    refine wp_y (v := va) rfl rfl (y_assign rfl) rfl ?_
    refine wp_y (v := vb) rfl rfl (y_assign rfl) rfl ?_
    try simp only [List.setIfInBounds_toArray, List.set_cons_zero, List.set_cons_succ]
    refine wp_end ?_
    go_upto_region 8 with fail
    refine wp_region_lit ?_
    refine wp_y (v := .pointer (some ⟨p, 0, none⟩)) rfl rfl (y_move rfl) rfl ?_
    refine wp_y (v := .pointer (some ⟨p, 0, none⟩)) rfl rfl (y_nil rfl) rfl ?_
    refine wp_y (v := .pointer (some ⟨p, 1027, none⟩)) rfl rfl (y_faddr rfl (hf := fa90_2 (p))) rfl ?_
    refine wp_y (v := .pointer (some ⟨p, 1031, none⟩)) rfl rfl (y_faddr rfl (hf := fg87_4 (p) (1027))) rfl ?_
    refine wp_call (f := 53) (args := #[.pointer (some ⟨p, 1031, none⟩)]) (by kernel_rfl) (fun w => by go_simp) ?_
    have h3 := H3.out
    refine (HPK.out w3 h3.2.2.2).mono ?_
    rintro e w4 ⟨v, rfl, hA4, hB4⟩
    obtain ⟨sa, sc, rfl⟩ := hA4.shape
    obtain ⟨m, hm⟩ : ∃ m, zs.length = m := ⟨_, rfl⟩
    obtain ⟨gK, hgK⟩ : ∃ g, w3.heap.size = g := ⟨_, rfl⟩
    have hs3 : B ≤ w3.heap.size := by have := h3.2.2.2.size; have := HB.out; omega
    rw [hm] at hA4
    have hne : ∀ ga, sa = some ⟨ga, 0, none⟩ → va.ownBlock ≠ some ga ∧ vb.ownBlock ≠ some ga := fun ga hga => by
      have hgl : w3.heap.size ≤ ga := by
        subst hga
        exact (hA4.lt ga rfl).1
      exact ⟨fun e => by have := (h3.1.lt ga e).2; omega, fun e => by have := (h3.2.1.1.lt ga e).2; omega⟩
    have H4 : Hid (Ats w4 B va ([0, 1] ++ pz (zs.take 0)) ∧ Bq w4 B vb [⟨gh, 70, 0, hd⟩, ⟨gh, 70, 1, hd⟩] ∧ Sb w4 g4 lo lf rt ∧ Ats w4 gK (.slice sa m sc) zs ∧ (∀ ga, sa = some ⟨ga, 0, none⟩ → va.ownBlock ≠ some ga ∧ vb.ownBlock ≠ some ga) ∧ Below B w w4) := hid ⟨h3.1.below hB4, h3.2.1.below hB4, h3.2.2.1.below hB4 (heap_lt h3.2.2.1), by rw [← hgK]; exact hA4, hne, h3.2.2.2.trans (hB4.mono hs3)⟩
    have HML : Hid (m ≤ 1023 ∧ zs.length = m) := hid ⟨by rw [← hm]; exact HZL.out, hm⟩
    refine ⟨_, rfl, ?_⟩
    rw [hm]
    clear h3 hA4 hB4 hgK hs3 hm hne H3
    dsimp only [Act.put]
    refine wp_y (v := .int .i64 m) rfl rfl (y_len43 (p := sa) (c := sc) rfl (by kernel_rfl) (by kernel_rfl)) rfl ?_
    refine wp_y (v := (.int .i64 0)) rfl rfl (y_move rfl) rfl ?_
    try simp only [List.setIfInBounds_toArray, List.set_cons_zero, List.set_cons_succ]
    refine wp_end ?_
    go_wp2_with fail
    go_loopw [43, 5, 6, 8, 9, 10] (fun y va vb _ _ _ wr => ∃ k : Nat, ∃ qs, k ≤ m ∧ y = .int .i64 k ∧ Ats wr B va ([0, 1] ++ pz (zs.take k)) ∧ Bq wr B vb qs ∧ qs.map Pq.by = [hp hd 0, hp hd 1] ++ pp g (zs.take k) ∧ Sb wr g4 lo lf rt ∧ Ats wr gK (.slice sa m sc) zs ∧ (∀ ga, sa = some ⟨ga, 0, none⟩ → va.ownBlock ≠ some ga ∧ vb.ownBlock ≠ some ga) ∧ Below B w wr) (fun y _ _ _ _ _ _ => m - (intOf y).toNat)
    case atStart => exact ⟨0, _, Nat.zero_le _, rfl, H4.out.1, H4.out.2.1, rfl, H4.out.2.2⟩
    case round =>
      clear H4 H2
      obtain ⟨k, qs, hk, rfl, hA, hQ, hby, hSb, hKy, hne, hBw⟩ := hrel
      have hml := HML.out
      by_cases hlt : k < m
      · have hlt' : (k : Int) < (m : Int) := by omega
        have hwk : IntKind.i64.wrap ((k : Int) + 1) = ((k + 1 : Nat) : Int) := by rw [IntWalk.i64_in _ ⟨by omega, by omega⟩]; omega
        obtain ⟨z, hz⟩ : ∃ z, zs[k]? = some z := ⟨_, List.getElem?_eq_getElem (by omega)⟩
        obtain ⟨ga, rfl, hga, hca⟩ := hKy.cell hz
        have hzb := HZB.out z (List.mem_of_getElem? hz)
        obtain ⟨q, hq⟩ : ∃ q : Nat, z = q := ⟨z.toNat, by omega⟩
        subst hq
        have HLD := hid (load1 Tryz.isAgg3 hca)
        have hgq := HGC.out wr (q : Int) hBw
        have hcq := HCL.out (q : Int)
        have htk : zs.take (k + 1) = zs.take k ++ [(q : Int)] := by rw [List.take_add_one, hz]; rfl
        obtain ⟨c, hcc⟩ : ∃ c, cget g (q : Int) = c := ⟨_, rfl⟩
        obtain ⟨gq, hgqq⟩ : ∃ b, (g (q : Int)).isSome = b := ⟨_, rfl⟩
        rw [hcc, hgqq] at hgq
        rw [hcc] at hcq
        have HGQ := hid hgq
        have HCQ := hid hcq
        have HCC := hid hcc
        have HTK := hid htk
        have HBY := hid hby
        have HIX := hid hlt
        have HLT := hid hlt
        have HQB := hid (show q ≤ 1023 by omega)
        have HNN := hid (hne ga rfl)
        have HI := hid (And.intro hA (And.intro hQ (And.intro hSb (And.intro hKy hBw))))
        have hgl : ga < wr.heap.size := by
          have := hKy.lt ga rfl
          exact this.2
        have HGL := hid hgl
        clear hgq hcq hcc hgqq htk hby hlt hne hA hQ hSb hKy hBw hgl hzb hca hga hz hk hml
        go_upto_region 10 with fail
        refine wp_region_lit ?_
        refine wp_y (v := .pointer (some ⟨ga, k, none⟩)) rfl rfl (y_index rfl (hr := idx42 ga m sc k HIX.out)) rfl ?_
        refine wp_y (v := .int .i64 (q : Nat)) rfl rfl (y_load rfl (hl := fun w' h => by rw [h]; exact HLD.out)) rfl ?_
        refine wp_y (v := .int .i64 (q : Nat)) rfl rfl (y_assign rfl) rfl ?_
        try simp only [List.setIfInBounds_toArray, List.set_cons_zero, List.set_cons_succ]
        refine wp_end ?_
        go_upto_region 11 with fail
        refine wp_region_lit ?_
        refine wp_y (v := .pointer (some ⟨p, 0, none⟩)) rfl rfl (y_move rfl) rfl ?_
        refine wp_y (v := .pointer (some ⟨p, 0, none⟩)) rfl rfl (y_nil rfl) rfl ?_
        refine wp_y (v := .pointer (some ⟨p, 1027, none⟩)) rfl rfl (y_faddr rfl (hf := fa90_2 (p))) rfl ?_
        refine wp_y (v := .pointer (some ⟨p, 1031, none⟩)) rfl rfl (y_faddr rfl (hf := fg87_4 (p) (1027))) rfl ?_
        refine wp_y (v := .int .i64 (q : Nat)) rfl rfl (y_move rfl) rfl ?_
        refine wp_call (f := 54) (args := #[.pointer (some ⟨p, 1031, none⟩), .int .i64 (q : Nat)]) (by kernel_rfl) (fun w => by go_simp) ?_
        refine HGQ.out.mono ?_
        rintro e w5 ⟨rfl, hB5⟩
        refine ⟨_, rfl, ?_⟩
        have hal := alloc109 w5
        have hB6 : Below w5.heap.size w5 (w5.alloc (.cells (cells8 z896).toArray 109)) := (Below.refl _ _).alloc (Nat.le_refl _) _
        have hR6 : Rw (w5.alloc (.cells (cells8 z896).toArray 109)) w5.heap.size 109 z896 := heap_alloc_last w5 _
        generalize w5.alloc (.cells (cells8 z896).toArray 109) = w6 at *
        obtain ⟨g9, hg9⟩ : ∃ g, w5.heap.size = g := ⟨_, rfl⟩
        have hs5 := hB5.size
        rw [hg9] at hal hR6 hB6 hs5
        have hst := store109 z896_len HCQ.out hR6
        have hR7 := hR6.row c
        have hF7 := Fr.setRow w6 g9 (cells8 c).toArray
        generalize w6.setRow g9 (cells8 c).toArray = w7 at *
        have hB7 : Below wr.heap.size wr w7 := (hB5.trans (hB6.mono hs5)).trans (hF7.below (by have := hR6.lt; omega) (by simp; omega))
        have H7 := hid (And.intro hR7 hB7)
        have HAL := hid hal
        have HST := hid hst
        clear hB5 hB6 hR6 hal hst hR7 hF7 hg9 hs5 hB7 HGQ
        dsimp only [Act.put]
        refine wp_y (v := .tuple #[V8 c, .bool gq]) rfl rfl (y_move rfl) rfl ?_
        refine wp_y (v := V8 c) rfl rfl (y_ext rfl (hr := ext2_0 (V8 c) (.bool gq))) rfl ?_
        try simp only [List.setIfInBounds_toArray, List.set_cons_zero, List.set_cons_succ]
        refine wp_y (v := .bool gq) rfl rfl (y_ext rfl (hr := ext2_1 (V8 c) (.bool gq))) rfl ?_
        refine wp_run (v := .pointer (some ⟨g9, 0, none⟩)) rfl rfl (run_alOp rfl HAL.out) rfl ?_
        refine wp_do rfl rfl (run_storeOp rfl (by kernel_rfl) (by kernel_rfl) HST.out) ?_
        refine wp_y (v := .bool gq) rfl rfl (y_assign rfl) rfl ?_
        try simp only [List.setIfInBounds_toArray, List.set_cons_zero, List.set_cons_succ]
        refine wp_end ?_
        have hi := HI.out
        have h7 := H7.out
        have hB7d : Below wr.heap.size wr w7.drew := h7.2.trans ((Below.refl _ _).drew)
        have hA7 := hi.1.below hB7d
        have hQ7 := hi.2.1.below hB7d
        have hK7 := hi.2.2.2.1.below hB7d
        have hS7 := hi.2.2.1.below hB7d (heap_lt hi.2.2.1)
        have hBw7 : Below B w w7.drew := hi.2.2.2.2.trans (hB7d.mono (by have := hi.2.2.2.2.size; have := HB.out; omega))
        have H8 : Hid (Rw w7.drew g9 109 c ∧ Bq w7.drew B u6 qs ∧ Sb w7.drew g4 lo lf rt ∧ Ats w7.drew gK (.slice (some ⟨ga, 0, none⟩) m sc) zs ∧ Below B w w7.drew) := hid ⟨h7.1, hQ7, hS7, hK7, hBw7⟩
        have hql : qs.length = (([hp hd 0, hp hd 1] ++ pp g (zs.take k)).length) := by rw [← HBY.out, List.length_map]
        have htl : (zs.take k).length ≤ 1023 := by rw [List.length_take]; have := HML.out; omega
        have HAW := hid (also_keep (N := ga) hA7 (ps := qs.map Pq.val) (by rw [List.length_map]; exact hQ7.1) (by have := hBw7.size; have := HB.out; omega) ((2 + q * 8 : Nat) : Int) (by omega) (by have := HQB.out; omega) g9 0 896 896 8 rfl (Nat.le_refl _) (by decide) (by rw [List.length_append, pz_len]; show 2 + _ ≤ _; omega) (by rw [List.length_map, hql, List.length_append, pp_len]; show 2 + _ ≤ _; omega) HNN.out.1 HNN.out.2 (by have := HGL.out; have := hB7d.size; omega))
        clear hi h7 hB7d hA7 hQ7 hK7 hS7 hBw7 hql htl H7 HI HAL HST HLD HNN HGL
        go_upto_region 12 with fail
        refine h_openL (S := fun _ => True) (by kernel_rfl) (by kernel_rfl) (fun _ _ _ _ _ h => h) (L := #[false, false, false, false, false, false, false, false, false, false, false]) (by kernel_rfl) ?_
        intro Q' hns hP hN
        have hS := trivial
        refine h_takeL (i := 0) (v := u5) hns rfl rfl (by kernel_rfl) (by kernel_rfl) hP (y_move rfl) hS rfl (L' := #[true, false, false, false, false, false, false, false, false, false, false]) (by kernel_rfl) ?_
        refine h_takeL (i := 1) (v := u6) hns rfl rfl (by kernel_rfl) (by kernel_rfl) hP (y_move rfl) hS rfl (L' := #[true, true, false, false, false, false, false, false, false, false, false]) (by kernel_rfl) ?_
        refine h_takeL (i := 2) (v := .int .i64 (q : Nat)) hns rfl rfl (by kernel_rfl) (by kernel_rfl) hP (y_move rfl) hS rfl (L' := #[true, true, true, false, false, false, false, false, false, false, false]) (by kernel_rfl) ?_
        refine h_takeL (i := 4) (v := .slice (some ⟨g9, 0, none⟩) 896 896) hns rfl rfl (by kernel_rfl) (by kernel_rfl) hP (y_slice rfl (by kernel_rfl) (by kernel_rfl) (by kernel_rfl) (by kernel_rfl) (by kernel_rfl) (sl109 g9)) hS rfl (L' := #[true, true, true, false, true, false, false, false, false, false, false]) (by kernel_rfl) ?_
        refine h_callL (i := 3) (f := 56) (args := #[.int .i64 (q : Nat)]) (by kernel_rfl) rfl rfl (by kernel_rfl) (enter_go rfl (by kernel_rfl) (fun w => by go_simp)) (L' := #[true, true, true, true, true, false, false, false, false, false, false]) (by kernel_rfl) ?_
        refine (firstBlock_any q HQB.out _).mono ?_
        rintro e w8 ⟨rfl, rfl⟩
        refine ⟨_, rfl, trivial, ?_⟩
        refine h_callL (i := 5) (f := 55) (args := #[u5, u6, .int .i64 ((2 + q * 8 : Nat) : Int), .slice (some ⟨g9, 0, none⟩) 896 896]) (by kernel_rfl) rfl rfl (by kernel_rfl) (enter_go rfl (by kernel_rfl) (fun w => by go_simp)) (L' := #[true, true, true, true, true, true, false, false, false, false, false]) (by kernel_rfl) ?_
        refine HAW.out.mono ?_
        rintro e w9 ⟨va', vb', rfl, hA9, hO9, hB9, hT9, hN9, hna, hnb⟩
        refine ⟨_, rfl, trivial, ?_⟩
        have h8 := H8.out
        have hq9 : Bq w9 B vb' (qs ++ (List.range 8).map fun x => ⟨g9, 109, x, c⟩) := by
          refine ⟨?_, fun q' hm => ?_⟩
          · rw [List.map_append, List.map_map, List.length_append, List.length_map, List.length_range]
            rw [List.length_map] at hO9
            exact hO9
          · rcases List.mem_append.1 hm with hm | hm
            · exact Pq.ot (h8.2.1.2 q' hm) hT9
            · obtain ⟨x, hx, rfl⟩ := List.mem_map.1 hm
              exact Pq.ot (w := w7.drew) ⟨h8.1, .inr rfl, by show x * 112 + 112 ≤ c.length; rw [HCQ.out]; have := List.mem_range.1 hx; omega⟩ hT9
        have hby : (qs ++ (List.range 8).map fun x => (⟨g9, 109, x, c⟩ : Pq)).map Pq.by = [hp hd 0, hp hd 1] ++ pp g (zs.take (k + 1)) := by
          rw [List.map_append, HBY.out, HTK.out, pp_snoc, ← List.append_assoc, List.map_map, HCC.out]
          rfl
        have hz9 : Ats w9 B va' ([0, 1] ++ pz (zs.take (k + 1))) := by
          rw [HTK.out, pz_snoc, ← List.append_assoc]
          have e : (2 + (q : Int) * 8) = ((2 + q * 8 : Nat) : Int) := by omega
          rw [e]
          exact hA9
        have HZ : Hid (∃ k' : Nat, ∃ qs', k' ≤ m ∧ Value.int .i64 ((k + 1 : Nat) : Int) = .int .i64 k' ∧ Ats w9 B va' ([0, 1] ++ pz (zs.take k')) ∧ Bq w9 B vb' qs' ∧ qs'.map Pq.by = [hp hd 0, hp hd 1] ++ pp g (zs.take k') ∧ Sb w9 g4 lo lf rt ∧ Ats w9 gK (.slice (some ⟨ga, 0, none⟩) m sc) zs ∧ (∀ ga', (some ⟨ga, 0, none⟩ : Option Addr) = some ⟨ga', 0, none⟩ → va'.ownBlock ≠ some ga' ∧ vb'.ownBlock ≠ some ga') ∧ Below B w w9) := hid ⟨k + 1, _, HLT.out, rfl, hz9, hq9, hby, h8.2.2.1.ot hT9, by
            have hk := h8.2.2.2.1
            unfold Ats at hk ⊢
            rw [HML.out.2] at hk ⊢
            exact owns_keep hk hN9, fun ga' e => by cases e; exact ⟨hna, hnb⟩, h8.2.2.2.2.trans hB9⟩
        clear h8 hq9 hby hz9 hA9 hO9 hB9 hT9 hN9 hna hnb
        refine h_takeL (i := 6) (v := .tuple #[va', vb']) hns rfl rfl (by kernel_rfl) (by kernel_rfl) hP (y_move rfl) hS rfl (L' := #[true, true, true, true, true, true, true, false, false, false, false]) (by kernel_rfl) ?_
        try simp only [List.setIfInBounds_toArray, List.set_cons_zero, List.set_cons_succ]
        refine h_takeL (i := 7) (v := va') hns rfl rfl (by kernel_rfl) (by kernel_rfl) hP (y_ext rfl (hr := ext2_0 (va') (vb'))) hS rfl (L' := #[true, true, true, true, true, true, true, true, false, false, false]) (by kernel_rfl) ?_
        refine h_takeL (i := 8) (v := vb') hns rfl rfl (by kernel_rfl) (by kernel_rfl) hP (y_ext rfl (hr := ext2_1 (va') (vb'))) hS rfl (L' := #[true, true, true, true, true, true, true, true, true, false, false]) (by kernel_rfl) ?_
        refine h_takeL (i := 9) (v := va') hns rfl rfl (by kernel_rfl) (by kernel_rfl) hP (y_assign rfl) hS rfl (L' := #[true, true, true, true, true, true, true, true, true, true, false]) (by kernel_rfl) ?_
        refine h_takeL (i := 10) (v := vb') hns rfl rfl (by kernel_rfl) (by kernel_rfl) hP (y_assign rfl) hS rfl (L' := #[true, true, true, true, true, true, true, true, true, true, true]) (by kernel_rfl) ?_
        try simp only [List.setIfInBounds_toArray, List.set_cons_zero, List.set_cons_succ]
        refine wpAnyH_done (by kernel_rfl) ?_ _
        refine hN _ _ ?_
        clear hP hN hns
        clear hS H8 HAW
        go_wp2_with fail
        exact ⟨HZ.out, by have := HLT.out; simp [intOf]; omega⟩
      · obtain rfl : k = m := by omega
        have hlt' : ¬ (k : Int) < (k : Int) := by omega
        have hft : zs.take k = zs := List.take_of_length_le (by omega)
        rw [hft] at hA hby
        have hPw := HPG.out wr hBw
        have hbz := hQ.bz
        rw [hby] at hbz
        have HW5 := hid (HWR.out wr u5 u6 hBw hA.iz hbz)
        have HP := hid (And.intro hPw hSb)
        have cp := hPw.c0
        clear hA hQ hby hSb hKy hne hBw hPw hbz hft hk hlt hml
        go_wp2_with fail
        refine HW5.out.mono ?_
        rintro e w6 ⟨hK6, h6⟩
        have hP6 := hK6.pg HP.out.1
        have hS6 := hK6.sb HP.out.2
        rcases h6 with ⟨rfl, hR⟩ | ⟨rfl, hR⟩
        · have HT := hid (ptold_ok (w := w6) p)
          have H6 := hid (And.intro hS6 (And.intro hP6 hR))
          have HS6 : Hid (Sb w6.drew g4 lo lf rt) := hid hS6
          clear hP6 hS6 hR hK6 HP HW5 cp
          go_wp2_with fail
          refine HT.out.mono ?_
          rintro e w7 ⟨rfl, hw7⟩
          obtain rfl := hw7.symm
          clear HT
          go_upto_region 17 with fail
          refine h_openL (S := fun w' => Sb w' g4 lo lf rt) (by kernel_rfl) (by kernel_rfl) (fun _ _ _ _ _ h => h) (L := #[false, false, false, false, false, false, false, false, false, false, false]) (by kernel_rfl) ?_
          intro Q' hns hP hN
          have hS := HS6.out
          refine h_takeL (i := 0) (v := .pointer (some ⟨p, 0, none⟩)) hns rfl rfl (by kernel_rfl) (by kernel_rfl) hP (y_move rfl) hS rfl (L' := #[true, false, false, false, false, false, false, false, false, false, false]) (by kernel_rfl) ?_
          refine h_takeL (i := 1) (v := .pointer (some ⟨p, 0, none⟩)) hns rfl rfl (by kernel_rfl) (by kernel_rfl) hP (y_move rfl) hS rfl (L' := #[true, true, false, false, false, false, false, false, false, false, false]) (by kernel_rfl) ?_
          refine h_takeL (i := 2) (v := St lo lf rt) hns rfl rfl (by kernel_rfl) (by kernel_rfl) hP (y_load rfl (hl := fun w' h => pload76 HLL.out h)) hS rfl (L' := #[true, true, true, false, false, false, false, false, false, false, false]) (by kernel_rfl) ?_
          refine h_takeL (i := 3) (v := St lo lf rt) hns rfl rfl (by kernel_rfl) (by kernel_rfl) hP (y_load rfl (hl := fun w' h => pload76 HLL.out h)) hS rfl (L' := #[true, true, true, true, false, false, false, false, false, false, false]) (by kernel_rfl) ?_
          refine h_callL (i := 4) (f := 42) (args := #[St lo lf rt]) (by kernel_rfl) rfl rfl (by kernel_rfl) (enter_go rfl (by kernel_rfl) (fun w => by go_simp)) (L' := #[true, true, true, true, true, false, false, false, false, false, false]) (by kernel_rfl) ?_
          refine (unchanged_any lo lf rt _).mono ?_
          rintro e w7 ⟨rfl, hB7⟩
          have h6 := H6.out
          have hB7' : Below w6.heap.size w6 w7 := Below.undr hB7
          have hP7 := h6.2.1.below hB7' h6.2.1.lt
          have hS7 := h6.1.below hB7' (heap_lt h6.1)
          obtain ⟨w8, hst8, hP8, hF8⟩ := hP7.storeS HLL.out lf rt
          obtain ⟨w9, hst9, hP9, hF9⟩ := hP8.storeC false lf rt none none
          have hgp : g4 ≠ p := fun e => by
            have h1 := h6.1
            have h2 := h6.2.1.2
            unfold Sb at h1
            rw [e, h2] at h1
            injection h1 with h1
            injection h1 with _ e2
            exact absurd e2 (by decide)
          have hS8 := hS7.fr hF8 (by simpa using hgp)
          have hS9 := hS8.fr hF9 (by simpa using hgp)
          have HST8 := hid hst8
          have HST9 := hid hst9
          have HS7 := hid hS7
          have HS8 := hid hS8
          have HS9 := hid hS9
          have HZ := hid (And.intro (((Fr.of_below (X := [p]) hB7').trans hF8 (fun x hx => .inl hx)).trans hF9 (fun x hx => .inl hx)) (And.intro h6.2.2 hP9))
          refine ⟨_, rfl, HS7.out, ?_⟩
          clear hS hB7 hB7' h6 hP7 hS7 hst8 hP8 hF8 hst9 hP9 hF9 hgp hS8 hS9
          have hS := HS7.out
          refine h_takeL (i := 5) (v := .pointer (some ⟨p, 0, none⟩)) hns rfl rfl (by kernel_rfl) (by kernel_rfl) hP (y_nil rfl) hS rfl (L' := #[true, true, true, true, true, true, false, false, false, false, false]) (by kernel_rfl) ?_
          refine h_takeL (i := 6) (v := .pointer (some ⟨p, 1, none⟩)) hns rfl rfl (by kernel_rfl) (by kernel_rfl) hP (y_faddr rfl (hf := fa90_1 (p))) hS rfl (L' := #[true, true, true, true, true, true, true, false, false, false, false]) (by kernel_rfl) ?_
          try simp only [List.setIfInBounds_toArray, List.set_cons_zero, List.set_cons_succ]
          refine h_skipL (i := 7) (by kernel_rfl) rfl rfl (by kernel_rfl) (run_storeOp rfl (by kernel_rfl) (by kernel_rfl) HST8.out) HS8.out (L' := #[true, true, true, true, true, true, true, true, false, false, false]) (by kernel_rfl) ?_
          refine h_takeL (i := 8) (v := .pointer (some ⟨p, 0, none⟩)) hns rfl rfl (by kernel_rfl) (by kernel_rfl) hP (y_nil rfl) HS8.out rfl (L' := #[true, true, true, true, true, true, true, true, true, false, false]) (by kernel_rfl) ?_
          refine h_takeL (i := 9) (v := .pointer (some ⟨p, 1027, none⟩)) hns rfl rfl (by kernel_rfl) (by kernel_rfl) hP (y_faddr rfl (hf := fa90_2 (p))) HS8.out rfl (L' := #[true, true, true, true, true, true, true, true, true, true, false]) (by kernel_rfl) ?_
          refine h_skipL (i := 10) (by kernel_rfl) rfl rfl (by kernel_rfl) (run_storeOp rfl (by kernel_rfl) (by kernel_rfl) HST9.out) HS9.out (L' := #[true, true, true, true, true, true, true, true, true, true, true]) (by kernel_rfl) ?_
          try simp only [List.setIfInBounds_toArray, List.set_cons_zero, List.set_cons_succ]
          refine wpAnyH_done (by kernel_rfl) ?_ _
          refine hN _ _ ?_
          clear hP hN hns
          clear hS
          go_wp2_with fail
          go_ret
          exact ⟨w6, HZ.out.1, .inl ⟨rfl, HZ.out.2⟩⟩
        · have HT := hid (ptold_off hP6)
          have HRR := hid hR
          clear hP6 hS6 hR hK6 HP HW5 cp
          go_wp2_with fail
          refine HT.out.mono ?_
          rintro e w7 ⟨rfl, hP7, hF7⟩
          have HZ := hid (And.intro hF7 hP7)
          clear HT hP7 hF7
          go_wp2_with fail
          go_ret
          exact ⟨w6, HZ.out.1, .inr ⟨rfl, HRR.out, HZ.out.2⟩⟩
  · have hal := palloc76 wd
    have hBa : Below wd.heap.size wd (wd.alloc (.cells (stC [] 0 0).toArray 76)) := (Below.refl _ _).alloc (Nat.le_refl _) _
    have hSb : Sb (wd.alloc (.cells (stC [] 0 0).toArray 76)) wd.heap.size [] 0 0 := heap_alloc_last wd _
    generalize wd.alloc (.cells (stC [] 0 0).toArray 76) = wa at *
    obtain ⟨g4, hg4⟩ : ∃ g, wd.heap.size = g := ⟨_, rfl⟩
    rw [hg4] at hal hBa hSb
    have hGg : B ≤ g4 := by have := hS.size; have := HB.out; omega
    have hSa : Below B w wa := hS.trans (hBa.mono hGg)
    have HGG := hid hGg
    clear hGg hg4 hBa
    refine o_val (i := 9) (v := .pointer (some ⟨g4, 0, none⟩)) rfl (run_alOp rfl hal) hSa rfl (L' := #[true, true, true, true, true, true, true, true, false, true, false]) (by kernel_rfl) ?_
    try simp only [List.setIfInBounds_toArray, List.set_cons_zero, List.set_cons_succ]
    clear hS hal
    have hS := hSa
    clear hSa
    refine h_callL (i := 8) (f := 51) (args := #[St l kl kr, Ch true lf rt um bm]) (by kernel_rfl) rfl rfl (by kernel_rfl) (enter_go rfl (by kernel_rfl) (fun w => by go_simp)) (L' := #[true, true, true, true, true, true, true, true, true, true, false]) (by kernel_rfl) ?_
    refine (HWI.out wa hS).mono ?_
    rintro e w6 ⟨rfl, hB6⟩
    have hS6 : Below B w w6 := hS.trans (hB6.mono (by have := hS.size; have := HB.out; omega))
    have hSb6 := hSb.below hB6 (heap_lt hSb)
    refine ⟨_, rfl, hS6, ?_⟩
    try simp only [List.setIfInBounds_toArray, List.set_cons_zero, List.set_cons_succ]
    have HSS := hid hS6
    have HSB := hid hSb6
    clear hSb hSb6
    clear hS hB6 hS6
    have hS := HSS.out
    clear HSS
    have hSb := HSB.out
    clear HSB
    have hst := pstore76 (l := []) (kl := 0) (kr := 0) (by simp) HLL.out (kl' := lf) (kr' := rt) hSb
    have hS8 := hSb.row lo lf rt
    have hF8 := Fr.setRow w6 g4 (stC lo lf rt).toArray
    generalize w6.setRow g4 (stC lo lf rt).toArray = w2 at *
    have hB8 : Below B w w2 := hS.trans (hF8.below (by have := hS.size; have := HB.out; omega) (by have := HGG.out; simp; omega))
    have H2 := hid (And.intro hS8 hB8)
    have HST := hid hst
    have HB8 := hid hB8
    clear hst hS8 hF8 hB8 hSb
    refine h_skipL (i := 10) (by kernel_rfl) rfl rfl (by kernel_rfl) (run_storeOp rfl (by kernel_rfl) (by kernel_rfl) HST.out) HB8.out (L' := #[true, true, true, true, true, true, true, true, true, true, true]) (by kernel_rfl) ?_
    try simp only [List.setIfInBounds_toArray, List.set_cons_zero, List.set_cons_succ]
    refine wpAnyH_done (by kernel_rfl) ?_ _
    refine hN _ _ ?_
    clear hP hN hns
    clear hS HST HB8 HGG HWI HS
    go_upto_region 7 with fail
    refine wp_region_lit ?_
    refine wp_y (v := St lo lf rt) rfl rfl (y_load rfl (hl := fun w' h => by rw [h]; exact pload76 HLL.out H2.out.1)) rfl ?_
    refine wp_call (f := 52) (args := #[St lo lf rt]) (by kernel_rfl) (fun w => by go_simp) ?_
    refine (HHW.out w2).mono ?_
    rintro e w3 ⟨va, vb, gh, rfl, hA3, hQ3, hB3⟩
    refine ⟨_, rfl, ?_⟩
    have h2 := H2.out
    have hs2 : B ≤ w2.heap.size := by have := h2.2.size; have := HB.out; omega
    have hA3' : Ats w3 B va [0, 1] := owns_mono hA3 hs2
    have hQ3' : Bq w3 B vb [⟨gh, 70, 0, hd⟩, ⟨gh, 70, 1, hd⟩] := ⟨owns_mono hQ3.1 hs2, hQ3.2⟩
    have H3 : Hid (Ats w3 B va [0, 1] ∧ Bq w3 B vb [⟨gh, 70, 0, hd⟩, ⟨gh, 70, 1, hd⟩] ∧ Sb w3 g4 lo lf rt ∧ Below B w w3) := hid ⟨hA3', hQ3', h2.1.below hB3 (heap_lt h2.1), h2.2.trans (hB3.mono hs2)⟩
    clear h2 hs2 hA3 hQ3 hA3' hQ3' hB3
    dsimp only [Act.put]
    refine wp_y (v := .tuple #[va, vb]) rfl rfl (y_move rfl) rfl ?_
    refine wp_y (v := va) rfl rfl (y_ext rfl (hr := ext2_0 (va) (vb))) rfl ?_
    refine wp_y (v := vb) rfl rfl (y_ext rfl (hr := ext2_1 (va) (vb))) rfl ?_
    refine wp_y (v := va) rfl rfl (y_assign rfl) rfl ?_
    refine wp_y (v := vb) rfl rfl (y_assign rfl) rfl ?_
    try simp only [List.setIfInBounds_toArray, List.set_cons_zero, List.set_cons_succ]
    refine wp_end ?_
    go_upto_region 8 with fail
    refine wp_region_lit ?_
    refine wp_y (v := .pointer (some ⟨p, 0, none⟩)) rfl rfl (y_move rfl) rfl ?_
    refine wp_y (v := .pointer (some ⟨p, 0, none⟩)) rfl rfl (y_nil rfl) rfl ?_
    refine wp_y (v := .pointer (some ⟨p, 1027, none⟩)) rfl rfl (y_faddr rfl (hf := fa90_2 (p))) rfl ?_
    refine wp_y (v := .pointer (some ⟨p, 1031, none⟩)) rfl rfl (y_faddr rfl (hf := fg87_4 (p) (1027))) rfl ?_
    refine wp_call (f := 53) (args := #[.pointer (some ⟨p, 1031, none⟩)]) (by kernel_rfl) (fun w => by go_simp) ?_
    have h3 := H3.out
    refine (HPK.out w3 h3.2.2.2).mono ?_
    rintro e w4 ⟨v, rfl, hA4, hB4⟩
    obtain ⟨sa, sc, rfl⟩ := hA4.shape
    obtain ⟨m, hm⟩ : ∃ m, zs.length = m := ⟨_, rfl⟩
    obtain ⟨gK, hgK⟩ : ∃ g, w3.heap.size = g := ⟨_, rfl⟩
    have hs3 : B ≤ w3.heap.size := by have := h3.2.2.2.size; have := HB.out; omega
    rw [hm] at hA4
    have hne : ∀ ga, sa = some ⟨ga, 0, none⟩ → va.ownBlock ≠ some ga ∧ vb.ownBlock ≠ some ga := fun ga hga => by
      have hgl : w3.heap.size ≤ ga := by
        subst hga
        exact (hA4.lt ga rfl).1
      exact ⟨fun e => by have := (h3.1.lt ga e).2; omega, fun e => by have := (h3.2.1.1.lt ga e).2; omega⟩
    have H4 : Hid (Ats w4 B va ([0, 1] ++ pz (zs.take 0)) ∧ Bq w4 B vb [⟨gh, 70, 0, hd⟩, ⟨gh, 70, 1, hd⟩] ∧ Sb w4 g4 lo lf rt ∧ Ats w4 gK (.slice sa m sc) zs ∧ (∀ ga, sa = some ⟨ga, 0, none⟩ → va.ownBlock ≠ some ga ∧ vb.ownBlock ≠ some ga) ∧ Below B w w4) := hid ⟨h3.1.below hB4, h3.2.1.below hB4, h3.2.2.1.below hB4 (heap_lt h3.2.2.1), by rw [← hgK]; exact hA4, hne, h3.2.2.2.trans (hB4.mono hs3)⟩
    have HML : Hid (m ≤ 1023 ∧ zs.length = m) := hid ⟨by rw [← hm]; exact HZL.out, hm⟩
    refine ⟨_, rfl, ?_⟩
    rw [hm]
    clear h3 hA4 hB4 hgK hs3 hm hne H3
    dsimp only [Act.put]
    refine wp_y (v := .int .i64 m) rfl rfl (y_len43 (p := sa) (c := sc) rfl (by kernel_rfl) (by kernel_rfl)) rfl ?_
    refine wp_y (v := (.int .i64 0)) rfl rfl (y_move rfl) rfl ?_
    try simp only [List.setIfInBounds_toArray, List.set_cons_zero, List.set_cons_succ]
    refine wp_end ?_
    go_wp2_with fail
    go_loopw [43, 5, 6, 8, 9, 10] (fun y va vb _ _ _ wr => ∃ k : Nat, ∃ qs, k ≤ m ∧ y = .int .i64 k ∧ Ats wr B va ([0, 1] ++ pz (zs.take k)) ∧ Bq wr B vb qs ∧ qs.map Pq.by = [hp hd 0, hp hd 1] ++ pp g (zs.take k) ∧ Sb wr g4 lo lf rt ∧ Ats wr gK (.slice sa m sc) zs ∧ (∀ ga, sa = some ⟨ga, 0, none⟩ → va.ownBlock ≠ some ga ∧ vb.ownBlock ≠ some ga) ∧ Below B w wr) (fun y _ _ _ _ _ _ => m - (intOf y).toNat)
    case atStart => exact ⟨0, _, Nat.zero_le _, rfl, H4.out.1, H4.out.2.1, rfl, H4.out.2.2⟩
    case round =>
      clear H4 H2
      obtain ⟨k, qs, hk, rfl, hA, hQ, hby, hSb, hKy, hne, hBw⟩ := hrel
      have hml := HML.out
      by_cases hlt : k < m
      · have hlt' : (k : Int) < (m : Int) := by omega
        have hwk : IntKind.i64.wrap ((k : Int) + 1) = ((k + 1 : Nat) : Int) := by rw [IntWalk.i64_in _ ⟨by omega, by omega⟩]; omega
        obtain ⟨z, hz⟩ : ∃ z, zs[k]? = some z := ⟨_, List.getElem?_eq_getElem (by omega)⟩
        obtain ⟨ga, rfl, hga, hca⟩ := hKy.cell hz
        have hzb := HZB.out z (List.mem_of_getElem? hz)
        obtain ⟨q, hq⟩ : ∃ q : Nat, z = q := ⟨z.toNat, by omega⟩
        subst hq
        have HLD := hid (load1 Tryz.isAgg3 hca)
        have hgq := HGC.out wr (q : Int) hBw
        have hcq := HCL.out (q : Int)
        have htk : zs.take (k + 1) = zs.take k ++ [(q : Int)] := by rw [List.take_add_one, hz]; rfl
        obtain ⟨c, hcc⟩ : ∃ c, cget g (q : Int) = c := ⟨_, rfl⟩
        obtain ⟨gq, hgqq⟩ : ∃ b, (g (q : Int)).isSome = b := ⟨_, rfl⟩
        rw [hcc, hgqq] at hgq
        rw [hcc] at hcq
        have HGQ := hid hgq
        have HCQ := hid hcq
        have HCC := hid hcc
        have HTK := hid htk
        have HBY := hid hby
        have HIX := hid hlt
        have HLT := hid hlt
        have HQB := hid (show q ≤ 1023 by omega)
        have HNN := hid (hne ga rfl)
        have HI := hid (And.intro hA (And.intro hQ (And.intro hSb (And.intro hKy hBw))))
        have hgl : ga < wr.heap.size := by
          have := hKy.lt ga rfl
          exact this.2
        have HGL := hid hgl
        clear hgq hcq hcc hgqq htk hby hlt hne hA hQ hSb hKy hBw hgl hzb hca hga hz hk hml
        go_upto_region 10 with fail
        refine wp_region_lit ?_
        refine wp_y (v := .pointer (some ⟨ga, k, none⟩)) rfl rfl (y_index rfl (hr := idx42 ga m sc k HIX.out)) rfl ?_
        refine wp_y (v := .int .i64 (q : Nat)) rfl rfl (y_load rfl (hl := fun w' h => by rw [h]; exact HLD.out)) rfl ?_
        refine wp_y (v := .int .i64 (q : Nat)) rfl rfl (y_assign rfl) rfl ?_
        try simp only [List.setIfInBounds_toArray, List.set_cons_zero, List.set_cons_succ]
        refine wp_end ?_
        go_upto_region 11 with fail
        refine wp_region_lit ?_
        refine wp_y (v := .pointer (some ⟨p, 0, none⟩)) rfl rfl (y_move rfl) rfl ?_
        refine wp_y (v := .pointer (some ⟨p, 0, none⟩)) rfl rfl (y_nil rfl) rfl ?_
        refine wp_y (v := .pointer (some ⟨p, 1027, none⟩)) rfl rfl (y_faddr rfl (hf := fa90_2 (p))) rfl ?_
        refine wp_y (v := .pointer (some ⟨p, 1031, none⟩)) rfl rfl (y_faddr rfl (hf := fg87_4 (p) (1027))) rfl ?_
        refine wp_y (v := .int .i64 (q : Nat)) rfl rfl (y_move rfl) rfl ?_
        refine wp_call (f := 54) (args := #[.pointer (some ⟨p, 1031, none⟩), .int .i64 (q : Nat)]) (by kernel_rfl) (fun w => by go_simp) ?_
        refine HGQ.out.mono ?_
        rintro e w5 ⟨rfl, hB5⟩
        refine ⟨_, rfl, ?_⟩
        have hal := alloc109 w5
        have hB6 : Below w5.heap.size w5 (w5.alloc (.cells (cells8 z896).toArray 109)) := (Below.refl _ _).alloc (Nat.le_refl _) _
        have hR6 : Rw (w5.alloc (.cells (cells8 z896).toArray 109)) w5.heap.size 109 z896 := heap_alloc_last w5 _
        generalize w5.alloc (.cells (cells8 z896).toArray 109) = w6 at *
        obtain ⟨g9, hg9⟩ : ∃ g, w5.heap.size = g := ⟨_, rfl⟩
        have hs5 := hB5.size
        rw [hg9] at hal hR6 hB6 hs5
        have hst := store109 z896_len HCQ.out hR6
        have hR7 := hR6.row c
        have hF7 := Fr.setRow w6 g9 (cells8 c).toArray
        generalize w6.setRow g9 (cells8 c).toArray = w7 at *
        have hB7 : Below wr.heap.size wr w7 := (hB5.trans (hB6.mono hs5)).trans (hF7.below (by have := hR6.lt; omega) (by simp; omega))
        have H7 := hid (And.intro hR7 hB7)
        have HAL := hid hal
        have HST := hid hst
        clear hB5 hB6 hR6 hal hst hR7 hF7 hg9 hs5 hB7 HGQ
        dsimp only [Act.put]
        refine wp_y (v := .tuple #[V8 c, .bool gq]) rfl rfl (y_move rfl) rfl ?_
        refine wp_y (v := V8 c) rfl rfl (y_ext rfl (hr := ext2_0 (V8 c) (.bool gq))) rfl ?_
        try simp only [List.setIfInBounds_toArray, List.set_cons_zero, List.set_cons_succ]
        refine wp_y (v := .bool gq) rfl rfl (y_ext rfl (hr := ext2_1 (V8 c) (.bool gq))) rfl ?_
        refine wp_run (v := .pointer (some ⟨g9, 0, none⟩)) rfl rfl (run_alOp rfl HAL.out) rfl ?_
        refine wp_do rfl rfl (run_storeOp rfl (by kernel_rfl) (by kernel_rfl) HST.out) ?_
        refine wp_y (v := .bool gq) rfl rfl (y_assign rfl) rfl ?_
        try simp only [List.setIfInBounds_toArray, List.set_cons_zero, List.set_cons_succ]
        refine wp_end ?_
        have hi := HI.out
        have h7 := H7.out
        have hB7d : Below wr.heap.size wr w7.drew := h7.2.trans ((Below.refl _ _).drew)
        have hA7 := hi.1.below hB7d
        have hQ7 := hi.2.1.below hB7d
        have hK7 := hi.2.2.2.1.below hB7d
        have hS7 := hi.2.2.1.below hB7d (heap_lt hi.2.2.1)
        have hBw7 : Below B w w7.drew := hi.2.2.2.2.trans (hB7d.mono (by have := hi.2.2.2.2.size; have := HB.out; omega))
        have H8 : Hid (Rw w7.drew g9 109 c ∧ Bq w7.drew B u6 qs ∧ Sb w7.drew g4 lo lf rt ∧ Ats w7.drew gK (.slice (some ⟨ga, 0, none⟩) m sc) zs ∧ Below B w w7.drew) := hid ⟨h7.1, hQ7, hS7, hK7, hBw7⟩
        have hql : qs.length = (([hp hd 0, hp hd 1] ++ pp g (zs.take k)).length) := by rw [← HBY.out, List.length_map]
        have htl : (zs.take k).length ≤ 1023 := by rw [List.length_take]; have := HML.out; omega
        have HAW := hid (also_keep (N := ga) hA7 (ps := qs.map Pq.val) (by rw [List.length_map]; exact hQ7.1) (by have := hBw7.size; have := HB.out; omega) ((2 + q * 8 : Nat) : Int) (by omega) (by have := HQB.out; omega) g9 0 896 896 8 rfl (Nat.le_refl _) (by decide) (by rw [List.length_append, pz_len]; show 2 + _ ≤ _; omega) (by rw [List.length_map, hql, List.length_append, pp_len]; show 2 + _ ≤ _; omega) HNN.out.1 HNN.out.2 (by have := HGL.out; have := hB7d.size; omega))
        clear hi h7 hB7d hA7 hQ7 hK7 hS7 hBw7 hql htl H7 HI HAL HST HLD HNN HGL
        go_upto_region 12 with fail
        refine h_openL (S := fun _ => True) (by kernel_rfl) (by kernel_rfl) (fun _ _ _ _ _ h => h) (L := #[false, false, false, false, false, false, false, false, false, false, false]) (by kernel_rfl) ?_
        intro Q' hns hP hN
        have hS := trivial
        refine h_takeL (i := 0) (v := u5) hns rfl rfl (by kernel_rfl) (by kernel_rfl) hP (y_move rfl) hS rfl (L' := #[true, false, false, false, false, false, false, false, false, false, false]) (by kernel_rfl) ?_
        refine h_takeL (i := 1) (v := u6) hns rfl rfl (by kernel_rfl) (by kernel_rfl) hP (y_move rfl) hS rfl (L' := #[true, true, false, false, false, false, false, false, false, false, false]) (by kernel_rfl) ?_
        refine h_takeL (i := 2) (v := .int .i64 (q : Nat)) hns rfl rfl (by kernel_rfl) (by kernel_rfl) hP (y_move rfl) hS rfl (L' := #[true, true, true, false, false, false, false, false, false, false, false]) (by kernel_rfl) ?_
        refine h_takeL (i := 4) (v := .slice (some ⟨g9, 0, none⟩) 896 896) hns rfl rfl (by kernel_rfl) (by kernel_rfl) hP (y_slice rfl (by kernel_rfl) (by kernel_rfl) (by kernel_rfl) (by kernel_rfl) (by kernel_rfl) (sl109 g9)) hS rfl (L' := #[true, true, true, false, true, false, false, false, false, false, false]) (by kernel_rfl) ?_
        refine h_callL (i := 3) (f := 56) (args := #[.int .i64 (q : Nat)]) (by kernel_rfl) rfl rfl (by kernel_rfl) (enter_go rfl (by kernel_rfl) (fun w => by go_simp)) (L' := #[true, true, true, true, true, false, false, false, false, false, false]) (by kernel_rfl) ?_
        refine (firstBlock_any q HQB.out _).mono ?_
        rintro e w8 ⟨rfl, rfl⟩
        refine ⟨_, rfl, trivial, ?_⟩
        refine h_callL (i := 5) (f := 55) (args := #[u5, u6, .int .i64 ((2 + q * 8 : Nat) : Int), .slice (some ⟨g9, 0, none⟩) 896 896]) (by kernel_rfl) rfl rfl (by kernel_rfl) (enter_go rfl (by kernel_rfl) (fun w => by go_simp)) (L' := #[true, true, true, true, true, true, false, false, false, false, false]) (by kernel_rfl) ?_
        refine HAW.out.mono ?_
        rintro e w9 ⟨va', vb', rfl, hA9, hO9, hB9, hT9, hN9, hna, hnb⟩
        refine ⟨_, rfl, trivial, ?_⟩
        have h8 := H8.out
        have hq9 : Bq w9 B vb' (qs ++ (List.range 8).map fun x => ⟨g9, 109, x, c⟩) := by
          refine ⟨?_, fun q' hm => ?_⟩
          · rw [List.map_append, List.map_map, List.length_append, List.length_map, List.length_range]
            rw [List.length_map] at hO9
            exact hO9
          · rcases List.mem_append.1 hm with hm | hm
            · exact Pq.ot (h8.2.1.2 q' hm) hT9
            · obtain ⟨x, hx, rfl⟩ := List.mem_map.1 hm
              exact Pq.ot (w := w7.drew) ⟨h8.1, .inr rfl, by show x * 112 + 112 ≤ c.length; rw [HCQ.out]; have := List.mem_range.1 hx; omega⟩ hT9
        have hby : (qs ++ (List.range 8).map fun x => (⟨g9, 109, x, c⟩ : Pq)).map Pq.by = [hp hd 0, hp hd 1] ++ pp g (zs.take (k + 1)) := by
          rw [List.map_append, HBY.out, HTK.out, pp_snoc, ← List.append_assoc, List.map_map, HCC.out]
          rfl
        have hz9 : Ats w9 B va' ([0, 1] ++ pz (zs.take (k + 1))) := by
          rw [HTK.out, pz_snoc, ← List.append_assoc]
          have e : (2 + (q : Int) * 8) = ((2 + q * 8 : Nat) : Int) := by omega
          rw [e]
          exact hA9
        have HZ : Hid (∃ k' : Nat, ∃ qs', k' ≤ m ∧ Value.int .i64 ((k + 1 : Nat) : Int) = .int .i64 k' ∧ Ats w9 B va' ([0, 1] ++ pz (zs.take k')) ∧ Bq w9 B vb' qs' ∧ qs'.map Pq.by = [hp hd 0, hp hd 1] ++ pp g (zs.take k') ∧ Sb w9 g4 lo lf rt ∧ Ats w9 gK (.slice (some ⟨ga, 0, none⟩) m sc) zs ∧ (∀ ga', (some ⟨ga, 0, none⟩ : Option Addr) = some ⟨ga', 0, none⟩ → va'.ownBlock ≠ some ga' ∧ vb'.ownBlock ≠ some ga') ∧ Below B w w9) := hid ⟨k + 1, _, HLT.out, rfl, hz9, hq9, hby, h8.2.2.1.ot hT9, by
            have hk := h8.2.2.2.1
            unfold Ats at hk ⊢
            rw [HML.out.2] at hk ⊢
            exact owns_keep hk hN9, fun ga' e => by cases e; exact ⟨hna, hnb⟩, h8.2.2.2.2.trans hB9⟩
        clear h8 hq9 hby hz9 hA9 hO9 hB9 hT9 hN9 hna hnb
        refine h_takeL (i := 6) (v := .tuple #[va', vb']) hns rfl rfl (by kernel_rfl) (by kernel_rfl) hP (y_move rfl) hS rfl (L' := #[true, true, true, true, true, true, true, false, false, false, false]) (by kernel_rfl) ?_
        try simp only [List.setIfInBounds_toArray, List.set_cons_zero, List.set_cons_succ]
        refine h_takeL (i := 7) (v := va') hns rfl rfl (by kernel_rfl) (by kernel_rfl) hP (y_ext rfl (hr := ext2_0 (va') (vb'))) hS rfl (L' := #[true, true, true, true, true, true, true, true, false, false, false]) (by kernel_rfl) ?_
        refine h_takeL (i := 8) (v := vb') hns rfl rfl (by kernel_rfl) (by kernel_rfl) hP (y_ext rfl (hr := ext2_1 (va') (vb'))) hS rfl (L' := #[true, true, true, true, true, true, true, true, true, false, false]) (by kernel_rfl) ?_
        refine h_takeL (i := 9) (v := va') hns rfl rfl (by kernel_rfl) (by kernel_rfl) hP (y_assign rfl) hS rfl (L' := #[true, true, true, true, true, true, true, true, true, true, false]) (by kernel_rfl) ?_
        refine h_takeL (i := 10) (v := vb') hns rfl rfl (by kernel_rfl) (by kernel_rfl) hP (y_assign rfl) hS rfl (L' := #[true, true, true, true, true, true, true, true, true, true, true]) (by kernel_rfl) ?_
        try simp only [List.setIfInBounds_toArray, List.set_cons_zero, List.set_cons_succ]
        refine wpAnyH_done (by kernel_rfl) ?_ _
        refine hN _ _ ?_
        clear hP hN hns
        clear hS H8 HAW
        go_wp2_with fail
        exact ⟨HZ.out, by have := HLT.out; simp [intOf]; omega⟩
      · obtain rfl : k = m := by omega
        have hlt' : ¬ (k : Int) < (k : Int) := by omega
        have hft : zs.take k = zs := List.take_of_length_le (by omega)
        rw [hft] at hA hby
        have hPw := HPG.out wr hBw
        have hbz := hQ.bz
        rw [hby] at hbz
        have HW5 := hid (HWR.out wr u5 u6 hBw hA.iz hbz)
        have HP := hid (And.intro hPw hSb)
        have cp := hPw.c0
        clear hA hQ hby hSb hKy hne hBw hPw hbz hft hk hlt hml
        go_wp2_with fail
        refine HW5.out.mono ?_
        rintro e w6 ⟨hK6, h6⟩
        have hP6 := hK6.pg HP.out.1
        have hS6 := hK6.sb HP.out.2
        rcases h6 with ⟨rfl, hR⟩ | ⟨rfl, hR⟩
        · have HT := hid (ptold_ok (w := w6) p)
          have H6 := hid (And.intro hS6 (And.intro hP6 hR))
          have HS6 : Hid (Sb w6.drew g4 lo lf rt) := hid hS6
          clear hP6 hS6 hR hK6 HP HW5 cp
          go_wp2_with fail
          refine HT.out.mono ?_
          rintro e w7 ⟨rfl, hw7⟩
          obtain rfl := hw7.symm
          clear HT
          go_upto_region 17 with fail
          refine h_openL (S := fun w' => Sb w' g4 lo lf rt) (by kernel_rfl) (by kernel_rfl) (fun _ _ _ _ _ h => h) (L := #[false, false, false, false, false, false, false, false, false, false, false]) (by kernel_rfl) ?_
          intro Q' hns hP hN
          have hS := HS6.out
          refine h_takeL (i := 0) (v := .pointer (some ⟨p, 0, none⟩)) hns rfl rfl (by kernel_rfl) (by kernel_rfl) hP (y_move rfl) hS rfl (L' := #[true, false, false, false, false, false, false, false, false, false, false]) (by kernel_rfl) ?_
          refine h_takeL (i := 1) (v := .pointer (some ⟨p, 0, none⟩)) hns rfl rfl (by kernel_rfl) (by kernel_rfl) hP (y_move rfl) hS rfl (L' := #[true, true, false, false, false, false, false, false, false, false, false]) (by kernel_rfl) ?_
          refine h_takeL (i := 2) (v := St lo lf rt) hns rfl rfl (by kernel_rfl) (by kernel_rfl) hP (y_load rfl (hl := fun w' h => pload76 HLL.out h)) hS rfl (L' := #[true, true, true, false, false, false, false, false, false, false, false]) (by kernel_rfl) ?_
          refine h_takeL (i := 3) (v := St lo lf rt) hns rfl rfl (by kernel_rfl) (by kernel_rfl) hP (y_load rfl (hl := fun w' h => pload76 HLL.out h)) hS rfl (L' := #[true, true, true, true, false, false, false, false, false, false, false]) (by kernel_rfl) ?_
          refine h_callL (i := 4) (f := 42) (args := #[St lo lf rt]) (by kernel_rfl) rfl rfl (by kernel_rfl) (enter_go rfl (by kernel_rfl) (fun w => by go_simp)) (L' := #[true, true, true, true, true, false, false, false, false, false, false]) (by kernel_rfl) ?_
          refine (unchanged_any lo lf rt _).mono ?_
          rintro e w7 ⟨rfl, hB7⟩
          have h6 := H6.out
          have hB7' : Below w6.heap.size w6 w7 := Below.undr hB7
          have hP7 := h6.2.1.below hB7' h6.2.1.lt
          have hS7 := h6.1.below hB7' (heap_lt h6.1)
          obtain ⟨w8, hst8, hP8, hF8⟩ := hP7.storeS HLL.out lf rt
          obtain ⟨w9, hst9, hP9, hF9⟩ := hP8.storeC false lf rt none none
          have hgp : g4 ≠ p := fun e => by
            have h1 := h6.1
            have h2 := h6.2.1.2
            unfold Sb at h1
            rw [e, h2] at h1
            injection h1 with h1
            injection h1 with _ e2
            exact absurd e2 (by decide)
          have hS8 := hS7.fr hF8 (by simpa using hgp)
          have hS9 := hS8.fr hF9 (by simpa using hgp)
          have HST8 := hid hst8
          have HST9 := hid hst9
          have HS7 := hid hS7
          have HS8 := hid hS8
          have HS9 := hid hS9
          have HZ := hid (And.intro (((Fr.of_below (X := [p]) hB7').trans hF8 (fun x hx => .inl hx)).trans hF9 (fun x hx => .inl hx)) (And.intro h6.2.2 hP9))
          refine ⟨_, rfl, HS7.out, ?_⟩
          clear hS hB7 hB7' h6 hP7 hS7 hst8 hP8 hF8 hst9 hP9 hF9 hgp hS8 hS9
          have hS := HS7.out
          refine h_takeL (i := 5) (v := .pointer (some ⟨p, 0, none⟩)) hns rfl rfl (by kernel_rfl) (by kernel_rfl) hP (y_nil rfl) hS rfl (L' := #[true, true, true, true, true, true, false, false, false, false, false]) (by kernel_rfl) ?_
          refine h_takeL (i := 6) (v := .pointer (some ⟨p, 1, none⟩)) hns rfl rfl (by kernel_rfl) (by kernel_rfl) hP (y_faddr rfl (hf := fa90_1 (p))) hS rfl (L' := #[true, true, true, true, true, true, true, false, false, false, false]) (by kernel_rfl) ?_
          try simp only [List.setIfInBounds_toArray, List.set_cons_zero, List.set_cons_succ]
          refine h_skipL (i := 7) (by kernel_rfl) rfl rfl (by kernel_rfl) (run_storeOp rfl (by kernel_rfl) (by kernel_rfl) HST8.out) HS8.out (L' := #[true, true, true, true, true, true, true, true, false, false, false]) (by kernel_rfl) ?_
          refine h_takeL (i := 8) (v := .pointer (some ⟨p, 0, none⟩)) hns rfl rfl (by kernel_rfl) (by kernel_rfl) hP (y_nil rfl) HS8.out rfl (L' := #[true, true, true, true, true, true, true, true, true, false, false]) (by kernel_rfl) ?_
          refine h_takeL (i := 9) (v := .pointer (some ⟨p, 1027, none⟩)) hns rfl rfl (by kernel_rfl) (by kernel_rfl) hP (y_faddr rfl (hf := fa90_2 (p))) HS8.out rfl (L' := #[true, true, true, true, true, true, true, true, true, true, false]) (by kernel_rfl) ?_
          refine h_skipL (i := 10) (by kernel_rfl) rfl rfl (by kernel_rfl) (run_storeOp rfl (by kernel_rfl) (by kernel_rfl) HST9.out) HS9.out (L' := #[true, true, true, true, true, true, true, true, true, true, true]) (by kernel_rfl) ?_
          try simp only [List.setIfInBounds_toArray, List.set_cons_zero, List.set_cons_succ]
          refine wpAnyH_done (by kernel_rfl) ?_ _
          refine hN _ _ ?_
          clear hP hN hns
          clear hS
          go_wp2_with fail
          go_ret
          exact ⟨w6, HZ.out.1, .inl ⟨rfl, HZ.out.2⟩⟩
        · have HT := hid (ptold_off hP6)
          have HRR := hid hR
          clear hP6 hS6 hR hK6 HP HW5 cp
          go_wp2_with fail
          refine HT.out.mono ?_
          rintro e w7 ⟨rfl, hP7, hF7⟩
          have HZ := hid (And.intro hF7 hP7)
          clear HT hP7 hF7
          go_wp2_with fail
          go_ret
          exact ⟨w6, HZ.out.1, .inr ⟨rfl, HRR.out, HZ.out.2⟩⟩
end Go.Proofs.YtcmgclkbhhdnaaaGreatDoor
namespace Go.Proofs.YtcmgclkbhhdnaaaGreatDoor
open Go Go.RowKit

abbrev Pgs := List (Option (List UInt8))
/-- Which pages are taken; how many are free. -/
def tk (c : Pgs) : List Bool := c.map Option.isSome
def nf (c : Pgs) : Nat := lef (tk c)
theorem tk_len (c : Pgs) : (tk c).length = c.length := by simp [tk]
theorem tk_set (c : Pgs) (q : Nat) (x : Option (List UInt8)) : tk (c.set q x) = (tk c).set q x.isSome := by simp [tk, List.map_set]
theorem tk_get (c : Pgs) (q : Nat) : (tk c)[q]? = c[q]?.map Option.isSome := by simp [tk]
theorem nf_le (c : Pgs) : nf c ≤ c.length := by have := lef_le (tk c); rw [tk_len] at this; exact this
theorem nf_take (c : Pgs) (q : Nat) (x : List UInt8) (h : c[q]? = some none) : nf (c.set q (some x)) + 1 = nf c := by
  unfold nf
  rw [tk_set]
  exact lef_set_true _ q (by rw [tk_get, h]; rfl)
theorem nf_give (c : Pgs) (q : Nat) (x : List UInt8) (h : c[q]? = some (some x)) : nf (c.set q none) = nf c + 1 := by
  unfold nf
  rw [tk_set]
  exact lef_set_false _ q (by rw [tk_get, h]; rfl)
theorem set_self {α : Type} (l : List α) (i : Nat) (a : α) (h : l[i]? = some a) : l.set i a = l := by
  refine List.ext_getElem? fun k => ?_
  rw [List.getElem?_set]
  by_cases e : i = k
  · subst e
    rw [if_pos rfl, if_pos (List.getElem?_eq_some_iff.1 h).1, h]
  · rw [if_neg e]
theorem tk_write (c : Pgs) (q : Nat) (x y : List UInt8) (h : c[q]? = some (some x)) : tk (c.set q (some y)) = tk c := by
  rw [tk_set]
  exact set_self _ _ _ (by rw [tk_get, h]; rfl)
theorem get_or (c : Pgs) (q : Nat) (h : q < c.length) : c[q]? = some none ∨ ∃ x, c[q]? = some (some x) := by
  rw [List.getElem?_eq_getElem h]
  cases c[q] with
  | none => exact .inl rfl
  | some x => exact .inr ⟨x, rfl⟩
/-- The least free page, if there is one. -/
theorem first_free : ∀ c : Pgs, nf c = 0 ∧ (∀ q : Nat, c[q]? ≠ some none) ∨ 0 < nf c ∧ ∃ q : Nat, c[q]? = some none ∧ ∀ i : Nat, i < q → c[i]? ≠ some none
  | [] => .inl ⟨rfl, fun q => by simp⟩
  | none :: r => .inr ⟨by unfold nf tk lef; simp, 0, rfl, fun i hi => by omega⟩
  | some x :: r => by
    have e : nf (some x :: r) = nf r := by unfold nf tk lef; simp
    rw [e]
    rcases first_free r with ⟨h1, h2⟩ | ⟨h1, q, h2, h3⟩
    · refine .inl ⟨h1, fun q => ?_⟩
      cases q with
      | zero => simp
      | succ q => exact h2 q
    · refine .inr ⟨h1, q + 1, h2, fun i hi => ?_⟩
      cases i with
      | zero => simp
      | succ i => exact h3 i (by omega)
/-- A root is none, or a page that is taken. -/
def rooted (c : Pgs) (r : Int) : Prop := r = -1 ∨ ∃ q : Nat, r = (q : Int) ∧ ∃ x, c[q]? = some (some x)
theorem rooted.set {c : Pgs} {r : Int} (h : rooted c r) (q : Nat) (x : Option (List UInt8)) (hq : (q : Int) ≠ r ∨ x ≠ none) : rooted (c.set q x) r := by
  rcases h with h | ⟨i, hi, y, hy⟩
  · exact .inl h
  · refine .inr ⟨i, hi, ?_⟩
    rw [List.getElem?_set]
    by_cases e : q = i
    · subst e
      rw [if_pos rfl, if_pos (List.getElem?_eq_some_iff.1 hy).1]
      rcases hq with h | h
      · exact absurd hi.symm h
      · cases x with
        | none => exact absurd rfl h
        | some x => exact ⟨x, rfl⟩
    · rw [if_neg e]; exact ⟨y, hy⟩
theorem rooted.lt {c : Pgs} {r : Int} (h : rooted c r) : -1 ≤ r ∧ r < c.length := by
  rcases h with h | ⟨q, hq, x, hx⟩
  · omega
  · have := (List.getElem?_eq_some_iff.1 hx).1; omega
/-- All blocks of cells but a disk's, its sectors', a journal's and a pager's are as they were. -/
structure Kq (w w' : World) : Prop where
  size : w.heap.size ≤ w'.heap.size
  block : ∀ (g : Nat) (c : Array Value) (t : TypeId) (z : Nat × Nat), w.heap[g]? = some (.cells c t z) → t ≠ 102 → t ≠ 120 → t ≠ 140 → t ≠ 90 → w'.heap[g]? = some (.cells c t z)
theorem Kq.refl (w : World) : Kq w w := ⟨Nat.le_refl _, fun _ _ _ _ h _ _ _ _ => h⟩
theorem Kq.of_kp {w w' : World} (h : Kp w w') : Kq w w' := ⟨h.size, fun g c t z hg h1 h2 h3 _ => h.block g c t z hg h1 h2 h3⟩
theorem Kq.of_below {w w' : World} (h : Below w.heap.size w w') : Kq w w' := Kq.of_kp (Kp.of_below h)
theorem Kq.trans {a b c : World} (h : Kq a b) (k : Kq b c) : Kq a c := ⟨Nat.le_trans h.size k.size, fun g d t z hg h1 h2 h3 h4 => k.block g d t z (h.block g d t z hg h1 h2 h3 h4) h1 h2 h3 h4⟩
theorem Kq.of_p {w w' : World} {p j : Nat} {l : List Bool} {kl kr : Int} {bg : Bool} {lf rt : Int} {um bm : Option Nat} {off : Int} (h : Pg w p j l kl kr bg lf rt um bm off) (hF : Fr [p] w w') : Kq w w' :=
  ⟨hF.size, fun g c t z hg _ _ _ h4 => hF.at hg (fun hm => by
    obtain rfl : g = p := by simpa using hm
    have h2 := h.2
    rw [hg] at h2
    injection h2 with h2
    injection h2 with _ e
    exact h4 e)⟩
theorem Js.jc {B : Nat} {w : World} {j p : Nat} {X : List Nat} {s : DS} {sq cnt : Nat} {bl : List (List UInt8)} (h : Js B w j p X s sq cnt bl) : Jc B w j p X s sq cnt bl := ⟨h.jr, h.lo, h.jlo⟩
/-- A pager over a journal at rest (the power may go): cur as the change has its pages, was as they were; the roots. -/
structure PV (B : Nat) (w : World) (p j d : Nat) (X : List Nat) (s : DS) (sq cnt : Nat) (bl : List (List UInt8)) (cur was : Pgs) (rt wr : Int) (bg : Bool) (um bm : Option Nat) (u : Int → Option Bool) (g : Int → Option (List UInt8)) : Prop where
  pm : PM w p j (tk was) (nf was) wr bg (nf cur) rt um bm 0 u g
  js : Jc B w j d X s sq cnt bl
  len : cur.length = was.length
  us : ovl (tk was) u = tk cur
  gs : ∀ (i : Nat) (c : List UInt8), g i = some c → cur[i]? = some (some c)
  gn : ∀ (i : Nat) (c : List UInt8), g i = none → cur[i]? = some (some c) → was[i]? = some (some c)
  wb : ∀ (i : Nat) (c : List UInt8), was[i]? = some (some c) → cat bl (2 + i * 8) 8 = c
  hd : cat bl 0 2 = hdOf (tk was) (wr + 1).toNat
  rw' : rooted was wr
  rc : rooted cur rt
  idle : bg = false → cur = was ∧ rt = wr
  nb : (bl.length - 2) / 8 = was.length
  lo : B ≤ p
  mlo : ∀ m, um = some m ∨ bm = some m → B ≤ m
  ap : ∀ m, um = some m ∨ bm = some m → m ∉ j :: X
  tb : 0 < B
  Bw : B ≤ w.heap.size
/-- .. whatever lies in memory. -/
def Pv (B : Nat) (w : World) (p j d : Nat) (s : DS) (sq : Nat) (bl : List (List UInt8)) (cur was : Pgs) (rt wr : Int) : Prop := ∃ X cnt bg um bm u g, PV B w p j d X s sq cnt bl cur was rt wr bg um bm u g
section
variable {B : Nat} {w : World} {p j d : Nat} {X : List Nat} {s : DS} {sq cnt : Nat} {bl : List (List UInt8)} {cur was : Pgs} {rt wr : Int} {bg : Bool} {um bm : Option Nat} {u : Int → Option Bool} {g : Int → Option (List UInt8)} (h : PV B w p j d X s sq cnt bl cur was rt wr bg um bm u g)
include h
theorem PV.usf (i : Nat) (x : Option (List UInt8)) (hi : cur[i]? = some x) : Go.Proofs.YtcmgclkbhhdnaaaGreatDoor.usf (tk was) u i = x.isSome ∧ i < (tk was).length := by
  have hil := (List.getElem?_eq_some_iff.1 hi).1
  have h1 : i < (tk was).length := by rw [tk_len, ← h.len]; exact hil
  have h2 := ovl_get (tk was) u i h1
  rw [h.us, tk_get, hi] at h2
  exact ⟨(Option.some.inj h2).symm, h1⟩
theorem PV.tknOf (k : Int) : tkn (tk was) u k = (decide (0 ≤ k) && (cur[k.toNat]?.getD none).isSome) := by
  unfold tkn
  by_cases h0 : 0 ≤ k
  · by_cases h1 : k < ((tk was).length : Int)
    · have hk : k.toNat < cur.length := by rw [h.len, ← tk_len was]; omega
      have h2 := h.usf k.toNat _ (List.getElem?_eq_getElem hk)
      rw [decide_eq_true h0, decide_eq_true h1, h2.1, List.getElem?_eq_getElem hk]
      simp
    · have hk : cur.length ≤ k.toNat := by rw [h.len, ← tk_len was]; omega
      rw [decide_eq_true h0, decide_eq_false h1, List.getElem?_eq_none hk]
      simp
  · rw [decide_eq_false h0]; simp
theorem PV.le : was.length ≤ 1023 := by have := h.pm.pg.1; rw [tk_len] at this; exact this
theorem PV.c896 (i : Nat) (c : List UInt8) (hi : cur[i]? = some (some c)) : c.length = 896 := by
  cases hg : g (i : Int) with
  | some c' =>
    have := h.gs i c' hg
    rw [hi] at this
    cases this
    exact h.pm.gl _ _ hg
  | none =>
    have h1 := h.gn i c hg hi
    rw [← h.wb i c h1]
    have hn := h.nb
    have hil := (List.getElem?_eq_some_iff.1 h1).1
    exact cat_len bl h.js.jr.sett.con.lens _ 8 (by omega)
theorem PV.below {w' : World} (hB : Below w.heap.size w w') : PV B w' p j d X s sq cnt bl cur was rt wr bg um bm u g :=
  { h with pm := h.pm.below hB, js := h.js.below hB, Bw := Nat.le_trans h.Bw hB.size }
/-- What a call leaves that touches the pager and its tables alone. -/
theorem PV.step {w' : World} (hF : Fr (p :: (um.toList ++ bm.toList)) w w') {um' bm' : Option Nat} (h1 : ∀ m, um' = some m → um = some m ∨ w.heap.size ≤ m) (h2 : ∀ m, bm' = some m → bm = some m ∨ w.heap.size ≤ m) {cur' : Pgs} {rt' : Int} {u' : Int → Option Bool} {g' : Int → Option (List UInt8)}
    (hp : PM w' p j (tk was) (nf was) wr true (nf cur') rt' um' bm' 0 u' g') (hl : cur'.length = was.length) (hus : ovl (tk was) u' = tk cur') (hgs : ∀ (i : Nat) (c : List UInt8), g' i = some c → cur'[i]? = some (some c)) (hgn : ∀ (i : Nat) (c : List UInt8), g' i = none → cur'[i]? = some (some c) → was[i]? = some (some c)) (hrc : rooted cur' rt') :
    PV B w' p j d X s sq cnt bl cur' was rt' wr true um' bm' u' g' ∧ Below B w w' ∧ Kq w w' := by
  obtain ⟨ku, hu⟩ := h.pm.mu
  obtain ⟨kb, hb⟩ := h.pm.mb
  have hBB : Below B w w' := hF.below h.Bw (fun x hx => by
    simp only [List.mem_cons, List.mem_append, Option.mem_toList] at hx
    rcases hx with rfl | hx | hx
    · exact h.lo
    · exact h.mlo x (.inl hx)
    · exact h.mlo x (.inr hx))
  have hnp : p ∉ j :: X := h.js.not h.pm.pg.2 (by decide) (by decide) (by decide)
  have hJ : Jc B w' j d X s sq cnt bl := h.js.fr hF (fun k hk hm => by
    simp only [List.mem_cons, List.mem_append, Option.mem_toList] at hm
    rcases hm with rfl | hm | hm
    · exact hnp hk
    · exact h.ap k (.inl hm) hk
    · exact h.ap k (.inr hm) hk) (h.js.jr.tab.belowB hBB h.tb)
  have hlt := h.js.lt
  refine ⟨{ pm := hp, js := hJ, len := hl, us := hus, gs := hgs, gn := hgn, wb := h.wb, hd := h.hd, rw' := h.rw', rc := hrc, idle := fun e => (by cases e), nb := h.nb, lo := h.lo, mlo := fun m hm => ?_, ap := fun m hm => ?_, tb := h.tb, Bw := Nat.le_trans h.Bw hF.size }, hBB, ⟨hF.size, fun a c t z hg _ _ _ h4 => hF.at hg (fun hm => ?_)⟩⟩
  · rcases hm with hm | hm
    · rcases h1 m hm with e | e
      · exact h.mlo m (.inl e)
      · exact Nat.le_trans h.Bw e
    · rcases h2 m hm with e | e
      · exact h.mlo m (.inr e)
      · exact Nat.le_trans h.Bw e
  · rcases hm with hm | hm
    · rcases h1 m hm with e | e
      · exact h.ap m (.inl e)
      · exact fun hx => by have := hlt m hx; omega
    · rcases h2 m hm with e | e
      · exact h.ap m (.inr e)
      · exact fun hx => by have := hlt m hx; omega
  · simp only [List.mem_cons, List.mem_append, Option.mem_toList] at hm
    rcases hm with rfl | hm | hm
    · have h5 := h.pm.pg.2
      rw [hg] at h5
      injection h5 with h5
      injection h5 with _ e
      exact h4 e
    · exact hu.cells hm hg
    · exact hb.cells hm hg
end
/-- What is left behind a call. -/
def Aft (B : Nat) (w w' : World) (p j d : Nat) (s : DS) (sq : Nat) (bl : List (List UInt8)) (cur was : Pgs) (rt wr : Int) : Prop := Pv B w' p j d s sq bl cur was rt wr ∧ Below B w w' ∧ Kq w w'
theorem Aft.mk' {B : Nat} {w w' : World} {p j d : Nat} {X : List Nat} {s : DS} {sq cnt : Nat} {bl : List (List UInt8)} {cur was : Pgs} {rt wr : Int} {bg : Bool} {um bm : Option Nat} {u : Int → Option Bool} {g : Int → Option (List UInt8)} (h : PV B w' p j d X s sq cnt bl cur was rt wr bg um bm u g ∧ Below B w w' ∧ Kq w w') : Aft B w w' p j d s sq bl cur was rt wr := ⟨⟨_, _, _, _, _, _, _, h.1⟩, h.2⟩
section
variable {B : Nat} {w : World} {p j d : Nat} {s : DS} {sq : Nat} {bl : List (List UInt8)} {cur was : Pgs} {rt wr : Int} (h : Pv B w p j d s sq bl cur was rt wr)
include h
theorem Pv.left : Calls Tryz.prog 26 #[.pointer (some ⟨p, 0, none⟩)] w fun e w' => e = .returned (.int .i64 (nf cur)) ∧ w' = w := by
  obtain ⟨X, cnt, bg, um, bm, u, g, h⟩ := h
  exact left_any h.pm.pg
theorem Pv.root : Calls Tryz.prog 35 #[.pointer (some ⟨p, 0, none⟩)] w fun e w' => e = .returned (.int .i64 rt) ∧ w' = w := by
  obtain ⟨X, cnt, bg, um, bm, u, g, h⟩ := h
  exact root_any h.pm.pg
theorem Pv.pages : Calls Tryz.prog 29 #[.pointer (some ⟨p, 0, none⟩)] w fun e w' => e = .returned (.int .i64 cur.length) ∧ w' = w := by
  obtain ⟨X, cnt, bg, um, bm, u, g, h⟩ := h
  have h1 := pages_any h.pm.pg
  rw [tk_len, ← h.len] at h1
  exact h1
theorem Pv.below {w' : World} (hB : Below w.heap.size w w') : Pv B w' p j d s sq bl cur was rt wr := by
  obtain ⟨X, cnt, bg, um, bm, u, g, h⟩ := h
  exact ⟨X, cnt, bg, um, bm, u, g, h.below hB⟩
theorem Pv.le : cur.length ≤ 1023 := by
  obtain ⟨X, cnt, bg, um, bm, u, g, h⟩ := h
  rw [h.len]; exact h.le
theorem Pv.c896 (i : Nat) (c : List UInt8) (hi : cur[i]? = some (some c)) : c.length = 896 := by
  obtain ⟨X, cnt, bg, um, bm, u, g, h⟩ := h
  exact h.c896 i c hi
theorem Pv.allocFull (hf : ∀ q : Nat, cur[q]? ≠ some none) : Calls Tryz.prog 22 #[.pointer (some ⟨p, 0, none⟩)] w fun e w' => e = .returned (.tuple #[.int .i64 0, .int .i64 80]) ∧ w' = w := by
  obtain ⟨X, cnt, bg, um, bm, u, g, h⟩ := h
  refine alloc_full h.pm (fun k hk => ?_)
  rw [tk_len, ← h.len] at hk
  rcases get_or cur k hk with e | ⟨x, e⟩
  · exact absurd e (hf k)
  · exact (h.usf k _ e).1
theorem Pv.alloc (q : Nat) (hq : cur[q]? = some none) (hb : ∀ i : Nat, i < q → cur[i]? ≠ some none) : Calls Tryz.prog 22 #[.pointer (some ⟨p, 0, none⟩)] w fun e w' => e = .returned (.tuple #[.int .i64 q, .int .i64 0]) ∧ Aft B w w' p j d s sq bl (cur.set q (some z896)) was rt wr := by
  obtain ⟨X, cnt, bg, um, bm, u, g, h⟩ := h
  have hql := (List.getElem?_eq_some_iff.1 hq).1
  have hn := nf_take cur q z896 hq
  have hle := nf_le cur
  have hw := h.le
  have hl := h.len
  have hu := h.usf q _ hq
  refine (alloc_at h.pm q hu.2 hu.1 (fun k hk => ?_) (by omega) (by omega)).mono ?_
  · rcases get_or cur k (by omega) with e | ⟨x, e⟩
    · exact absurd e (hb k hk)
    · exact (h.usf k _ e).1
  · rintro e w' ⟨rfl, um', bm', hp, h1, h2, hF⟩
    have e1 : ((nf cur : Int) - 1) = ((nf (cur.set q (some z896)) : Nat) : Int) := by omega
    rw [e1] at hp
    refine ⟨rfl, Aft.mk' (h.step hF h1 h2 hp (by simp [hl]) (by rw [ovl_upd _ _ _ _ hu.2, h.us, tk_set]; rfl) (fun i c hi => ?_) (fun i c hi hc => ?_) (h.rc.set q _ (.inr (by simp))))⟩
    · by_cases e : i = q
      · subst e
        rw [updF_same] at hi; cases hi
        simp [hql]
      · rw [updF_ne _ _ (by omega)] at hi
        rw [List.getElem?_set_ne (by omega)]; exact h.gs i c hi
    · by_cases e : i = q
      · subst e
        rw [updF_same] at hi; cases hi
      · rw [updF_ne _ _ (by omega)] at hi
        rw [List.getElem?_set_ne (by omega)] at hc; exact h.gn i c hi hc
theorem Pv.freeNone (k : Int) (hk : k < 0 ∨ cur[k.toNat]?.getD none = none) : Calls Tryz.prog 27 #[.pointer (some ⟨p, 0, none⟩), .int .i64 k] w fun e w' => e = .returned (.int .i64 81) ∧ w' = w := by
  obtain ⟨X, cnt, bg, um, bm, u, g, h⟩ := h
  refine free_none h.pm k ?_
  rw [h.tknOf]
  rcases hk with hk | hk
  · rw [decide_eq_false (by omega)]; rfl
  · rw [hk]; simp
theorem Pv.freeRoot (q : Nat) (x : List UInt8) (hq : cur[q]? = some (some x)) (hr : (q : Int) = rt) : Calls Tryz.prog 27 #[.pointer (some ⟨p, 0, none⟩), .int .i64 q] w fun e w' => e = .returned (.int .i64 2) ∧ w' = w := by
  obtain ⟨X, cnt, bg, um, bm, u, g, h⟩ := h
  refine free_root h.pm (q : Int) ?_ hr
  rw [h.tknOf]
  simp [hq]
theorem Pv.free (q : Nat) (x : List UInt8) (hq : cur[q]? = some (some x)) (hr : (q : Int) ≠ rt) : Calls Tryz.prog 27 #[.pointer (some ⟨p, 0, none⟩), .int .i64 q] w fun e w' => e = .returned (.int .i64 0) ∧ Aft B w w' p j d s sq bl (cur.set q none) was rt wr := by
  obtain ⟨X, cnt, bg, um, bm, u, g, h⟩ := h
  have hql := (List.getElem?_eq_some_iff.1 hq).1
  have hn := nf_give cur q x hq
  have hle := nf_le cur
  have hw := h.le
  have hl := h.len
  have hu := h.usf q _ hq
  refine (free_ok h.pm q hu.2 hu.1 hr (by omega) (by omega)).mono ?_
  rintro e w' ⟨rfl, um', bm', hp, h1, h2, hF⟩
  have e1 : ((nf cur : Int) + 1) = ((nf (cur.set q none) : Nat) : Int) := by omega
  rw [e1] at hp
  refine ⟨rfl, Aft.mk' (h.step hF h1 h2 hp (by simp [hl]) (by rw [ovl_upd _ _ _ _ hu.2, h.us, tk_set]; rfl) (fun i c hi => ?_) (fun i c hi hc => ?_) (h.rc.set q _ (.inl hr)))⟩
  · by_cases e : i = q
    · subst e
      rw [updF_same] at hi; cases hi
    · rw [updF_ne _ _ (by omega)] at hi
      rw [List.getElem?_set_ne (by omega)]; exact h.gs i c hi
  · by_cases e : i = q
    · subst e
      simp [hql] at hc
    · rw [updF_ne _ _ (by omega)] at hi
      rw [List.getElem?_set_ne (by omega)] at hc; exact h.gn i c hi hc
theorem Pv.write (q : Nat) (x : List UInt8) (hq : cur[q]? = some (some x)) (gs o cap : Nat) (c : List UInt8) (hc : c.length = 896) (hrd : Rd w gs o c) {cs : Array Value} {t : TypeId} {z : Nat × Nat} (hgs : w.heap[gs]? = some (.cells cs t z)) (hne : t ≠ 90) :
    Calls Tryz.prog 36 #[.pointer (some ⟨p, 0, none⟩), .int .i64 q, .slice (some ⟨gs, o, none⟩) 896 cap] w fun e w' => e = .returned (.int .i64 0) ∧ Aft B w w' p j d s sq bl (cur.set q (some c)) was rt wr := by
  obtain ⟨X, cnt, bg, um, bm, u, g, h⟩ := h
  have hql := (List.getElem?_eq_some_iff.1 hq).1
  have hl := h.len
  have hu := h.usf q _ hq
  have ht := tk_write cur q x c hq
  refine (pwrite_ok h.pm q hu.2 hu.1 gs o cap c hc hrd hgs hne).mono ?_
  rintro e w' ⟨rfl, um', bm', hp, h1, h2, hF⟩
  have e1 : nf (cur.set q (some c)) = nf cur := by unfold nf; rw [ht]
  rw [← e1] at hp
  refine ⟨rfl, Aft.mk' (h.step hF h1 h2 hp (by simp [hl]) (by rw [ht]; exact h.us) (fun i c hi => ?_) (fun i c hi hc => ?_) (h.rc.set q _ (.inr (by simp))))⟩
  · by_cases e : i = q
    · subst e
      rw [updF_same] at hi; cases hi
      simp [hql]
    · rw [updF_ne _ _ (by omega)] at hi
      rw [List.getElem?_set_ne (by omega)]; exact h.gs i c hi
  · by_cases e : i = q
    · subst e
      rw [updF_same] at hi; cases hi
    · rw [updF_ne _ _ (by omega)] at hi
      rw [List.getElem?_set_ne (by omega)] at hc; exact h.gn i c hi hc
theorem Pv.setRoot (q : Nat) (x : List UInt8) (hq : cur[q]? = some (some x)) : Calls Tryz.prog 38 #[.pointer (some ⟨p, 0, none⟩), .int .i64 q] w fun e w' => e = .returned (.int .i64 0) ∧ Aft B w w' p j d s sq bl cur was q wr := by
  obtain ⟨X, cnt, bg, um, bm, u, g, h⟩ := h
  refine (setRoot_ok h.pm (q : Int) (by rw [h.tknOf]; simp [hq])).mono ?_
  rintro e w' ⟨rfl, hp, hF⟩
  obtain ⟨a, b, c⟩ := h.step (hF.mono (fun x hx => .inl (by simp at hx ⊢; exact .inl hx))) (fun _ h => .inl h) (fun _ h => .inl h) hp h.len h.us h.gs h.gn (.inr ⟨q, rfl, x, hq⟩)
  exact ⟨rfl, ⟨_, _, _, _, _, _, _, a⟩, b, c⟩
theorem Pv.setRootNo : Calls Tryz.prog 38 #[.pointer (some ⟨p, 0, none⟩), .int .i64 (-1)] w fun e w' => e = .returned (.int .i64 0) ∧ Aft B w w' p j d s sq bl cur was (-1) wr := by
  obtain ⟨X, cnt, bg, um, bm, u, g, h⟩ := h
  refine (setRoot_no h.pm).mono ?_
  rintro e w' ⟨rfl, hp, hF⟩
  obtain ⟨a, b, c⟩ := h.step (hF.mono (fun x hx => .inl (by simp at hx ⊢; exact .inl hx))) (fun _ h => .inl h) (fun _ h => .inl h) hp h.len h.us h.gs h.gn (.inl rfl)
  exact ⟨rfl, ⟨_, _, _, _, _, _, _, a⟩, b, c⟩
theorem Pv.readNone (k : Int) (hk : k < 0 ∨ cur[k.toNat]?.getD none = none) : Calls Tryz.prog 23 #[.pointer (some ⟨p, 0, none⟩), .int .i64 k] w fun e w' => e = .returned (.tuple #[.slice none 0 0, .int .i64 81]) ∧ w' = w := by
  obtain ⟨X, cnt, bg, um, bm, u, g, h⟩ := h
  refine pread_none h.pm k ?_
  rw [h.tknOf]
  rcases hk with hk | hk
  · rw [decide_eq_false (by omega)]; rfl
  · rw [hk]; simp
/-- Read of a page that is taken: bytes of its own, in one row of them. -/
theorem Pv.read (q : Nat) (c : List UInt8) (hq : cur[q]? = some (some c)) : Calls Tryz.prog 23 #[.pointer (some ⟨p, 0, none⟩), .int .i64 q] w fun e w' => ∃ b cap cs t, w.heap.size ≤ b ∧ 896 ≤ cap ∧ e = .returned (.tuple #[.slice (some ⟨b, 0, none⟩) 896 cap, .int .i64 0]) ∧ w'.heap[b]? = some (.cells cs t (0, 0)) ∧ (t = 109 ∨ t = 5) ∧ Rd w' b 0 c ∧ Below w.heap.size w w' := by
  obtain ⟨X, cnt, bg, um, bm, u, g, h⟩ := h
  have hu := h.usf q _ hq
  have hql := (List.getElem?_eq_some_iff.1 hq).1
  cases hg : g (q : Int) with
  | some c' =>
    have hc' := h.gs q c' hg
    rw [hq] at hc'
    cases hc'
    refine (pread_map h.pm q hu.2 hu.1 c hg).mono ?_
    rintro e w' ⟨b, hb, rfl, hR, hB⟩
    exact ⟨b, 896, _, _, hb, Nat.le_refl _, rfl, hR, .inl rfl, hR.rd, hB⟩
  | none =>
    have hw := h.gn q c hg hq
    have hn := h.nb
    have hil := (List.getElem?_eq_some_iff.1 hw).1
    refine (pread_blk h.pm h.js.jr q hu.2 hu.1 hg (by omega)).mono ?_
    rintro e w' ⟨v, rfl, ho, hB⟩
    have hcl := h.c896 q c hq
    rw [h.wb q c hw] at ho
    rcases ho.2 with ⟨_, h0⟩ | ⟨b, cap, cs, rfl, hb, hgb, h1, h2, h3, h4⟩
    · exact absurd h0 (by decide)
    · refine ⟨b, cap, cs, _, hb, h1, rfl, hgb, .inr rfl, fun k hk => ?_, hB⟩
      have hcc := ho.cells (g := b) rfl k _ (cells8_get c k hk)
      rwa [Addr.add_lit] at hcc
theorem Pv.abort : Calls Tryz.prog 28 #[.pointer (some ⟨p, 0, none⟩)] w fun e w' => e = .returned (.tuple #[]) ∧ Aft B w w' p j d s sq bl was was wr wr := by
  obtain ⟨X, cnt, bg, um, bm, u, g, h⟩ := h
  refine (abort_any h.pm.pg).mono ?_
  rintro e w' ⟨rfl, hP, hF⟩
  have hBB : Below B w w' := hF.below h.Bw (by simpa using h.lo)
  have hnp : p ∉ j :: X := h.js.not h.pm.pg.2 (by decide) (by decide) (by decide)
  have hJ : Jc B w' j d X s sq cnt bl := h.js.fr hF (fun k hk hm => by
    obtain rfl : k = p := by simpa using hm
    exact hnp hk) (h.js.jr.tab.belowB hBB h.tb)
  refine ⟨rfl, ⟨X, cnt, false, none, none, fun _ => none, fun _ => none, { pm := hP.bare, js := hJ, len := rfl, us := ovl_none _, gs := fun i c hi => (by cases hi), gn := fun i c _ hc => hc, wb := h.wb, hd := h.hd, rw' := h.rw', rc := h.rw', idle := fun _ => ⟨rfl, rfl⟩, nb := h.nb, lo := h.lo, mlo := fun m hm => (by rcases hm with hm | hm <;> cases hm), ap := fun m hm => (by rcases hm with hm | hm <;> cases hm), tb := h.tb, Bw := Nat.le_trans h.Bw hF.size }⟩, hBB, Kq.of_p h.pm.pg hF⟩
end
end Go.Proofs.YtcmgclkbhhdnaaaGreatDoor
namespace Go.Proofs.YtcmgclkbhhdnaaaGreatDoor
open Go Go.RowKit

theorem cat_parts (bl : List (List UInt8)) (f : Nat) (c : List UInt8) : ∀ n, (∀ x, x < n → bl[f + x]? = some (hp c x)) → cat bl f n = c.take (n * 112)
  | 0, _ => by simp [cat]
  | n + 1, h => by
    rw [cat_succ bl f n _ (h n (by omega)), cat_parts bl f c n (fun x hx => h x (by omega))]
    unfold hp
    rw [show (n + 1) * 112 = n * 112 + 112 by omega, List.take_add]
theorem cat_same (bl bl' : List (List UInt8)) (f n : Nat) (h : ∀ x, x < n → bl'[f + x]? = bl[f + x]?) : cat bl' f n = cat bl f n := by
  unfold cat
  congr 1
  refine List.ext_getElem? fun k => ?_
  rw [List.getElem?_take, List.getElem?_take, List.getElem?_drop, List.getElem?_drop]
  by_cases hk : k < n
  · rw [if_pos hk, if_pos hk, h k hk]
  · rw [if_neg hk, if_neg hk]
theorem mem_seqZ (f : Int) (n : Nat) (z : Int) : z ∈ seqZ f n ↔ ∃ x : Nat, x < n ∧ z = f + (x : Int) := by
  unfold seqZ
  simp only [List.mem_map, List.mem_range]
  constructor
  · rintro ⟨x, hx, rfl⟩; exact ⟨x, hx, rfl⟩
  · rintro ⟨x, hx, rfl⟩; exact ⟨x, hx, rfl⟩
theorem nd_seqZ (f : Int) : ∀ n, (seqZ f n).Nodup
  | 0 => by simp [seqZ]
  | n + 1 => by
    rw [seqZ_succ]
    refine List.nodup_append.2 ⟨nd_seqZ f n, by simp, fun a ha b hb => ?_⟩
    obtain ⟨x, hx, rfl⟩ := (mem_seqZ f n a).1 ha
    have : b = f + (n : Int) := by simpa using hb
    omega
theorem mem_pz (ks : List Int) (z : Int) : z ∈ pz ks ↔ ∃ k ∈ ks, ∃ x : Nat, x < 8 ∧ z = 2 + k * 8 + (x : Int) := by
  unfold pz
  rw [List.mem_flatMap]
  constructor
  · rintro ⟨k, hk, hz⟩; exact ⟨k, hk, (mem_seqZ _ _ _).1 hz⟩
  · rintro ⟨k, hk, hz⟩; exact ⟨k, hk, (mem_seqZ _ _ _).2 hz⟩
theorem nd_pz : ∀ ks : List Int, ks.Nodup → (pz ks).Nodup
  | [], _ => List.nodup_nil
  | k :: r, h => by
    have e : pz (k :: r) = seqZ (2 + k * 8) 8 ++ pz r := by simp [pz]
    rw [e]
    have h' := List.nodup_cons.1 h
    refine List.nodup_append.2 ⟨nd_seqZ _ _, nd_pz r h'.2, fun a ha b hb => ?_⟩
    obtain ⟨x, hx, rfl⟩ := (mem_seqZ _ _ a).1 ha
    obtain ⟨k', hk', y, hy, rfl⟩ := (mem_pz r b).1 hb
    intro e2
    have : k = k' := by omega
    subst this
    exact h'.1 hk'
theorem wsOf_app (a b : List Int) (c d : List (List UInt8)) (h : a.length = c.length) : wsOf (a ++ b) (c ++ d) = wsOf a c ++ wsOf b d := by
  unfold wsOf
  rw [List.zip_append h, List.map_append]
theorem wsOf_pz (g : Int → Option (List UInt8)) : ∀ (ks : List Int), (∀ k ∈ ks, 0 ≤ k) → ∀ (y : Nat × List UInt8), y ∈ wsOf (pz ks) (pp g ks) ↔ ∃ k ∈ ks, ∃ x : Nat, x < 8 ∧ y = (2 + k.toNat * 8 + x, hp (cget g k) x)
  | [], _, y => by simp [wsOf, pz]
  | k :: r, h0, y => by
    have e : pz (k :: r) = seqZ (2 + k * 8) 8 ++ pz r := by simp [pz]
    have e2 : pp g (k :: r) = (List.range 8).map (hp (cget g k)) ++ pp g r := by simp [pp]
    rw [e, e2, wsOf_app _ _ _ _ (by rw [seqZ_len, List.length_map, List.length_range]), List.mem_append, wsOf_pz g r (fun k hk => h0 k (by simp [hk])) y]
    have hk0 := h0 k (by simp)
    have e3 : wsOf (seqZ (2 + k * 8) 8) ((List.range 8).map (hp (cget g k))) = (List.range 8).map fun x => (2 + k.toNat * 8 + x, hp (cget g k) x) := by
      unfold wsOf seqZ
      rw [List.zip_map', List.map_map]
      refine List.map_congr_left fun x _ => ?_
      show ((2 + k * 8 + (x : Int)).toNat, hp (cget g k) x) = _
      congr 1
      omega
    rw [e3, List.mem_map]
    constructor
    · rintro (⟨x, hx, rfl⟩ | ⟨k', hk', h⟩)
      · exact ⟨k, by simp, x, List.mem_range.1 hx, rfl⟩
      · exact ⟨k', by simp [hk'], h⟩
    · rintro ⟨k', hk', x, hx, rfl⟩
      rcases List.mem_cons.1 hk' with rfl | hk'
      · exact .inl ⟨x, List.mem_range.2 hx, rfl⟩
      · exact .inr ⟨k', hk', x, hx, rfl⟩
theorem hp_len {c : List UInt8} {x n : Nat} (h : c.length = n * 112) (hx : x < n) : (hp c x).length = 112 := by
  unfold hp
  rw [List.length_take, List.length_drop, h]
  have : x * 112 + 112 ≤ n * 112 := by omega
  omega
/-- What is written fits, and what the blocks have then. -/
theorem commit_math {bl : List (List UInt8)} {g : Int → Option (List UInt8)} {ks : List Int} {hd : List UInt8} {n : Nat} (hdl : hd.length = 224) (hn : (bl.length - 2) / 8 = n) (hb2 : 2 ≤ bl.length) (hnd : ks.Nodup) (hks : ∀ k, k ∈ ks ↔ g k ≠ none) (hkb : ∀ k ∈ ks, 0 ≤ k ∧ k < (n : Int)) (hgl : ∀ k c, g k = some c → c.length = 896) :
    Fit bl.length ([0, 1] ++ pz ks) ([hp hd 0, hp hd 1] ++ pp g ks) ∧ cat (layAll bl (wsOf ([0, 1] ++ pz ks) ([hp hd 0, hp hd 1] ++ pp g ks))) 0 2 = hd ∧
      (∀ i : Nat, i < n → ∀ c, g (i : Int) = some c → cat (layAll bl (wsOf ([0, 1] ++ pz ks) ([hp hd 0, hp hd 1] ++ pp g ks))) (2 + i * 8) 8 = c) ∧
      (∀ i : Nat, i < n → g (i : Int) = none → cat (layAll bl (wsOf ([0, 1] ++ pz ks) ([hp hd 0, hp hd 1] ++ pp g ks))) (2 + i * 8) 8 = cat bl (2 + i * 8) 8) := by
  have hfit : Fit bl.length ([0, 1] ++ pz ks) ([hp hd 0, hp hd 1] ++ pp g ks) := by
    refine ⟨?_, ?_, fun z hz => ?_, fun l hm => ?_⟩
    · rw [List.length_append, List.length_append, pz_len, pp_len]; rfl
    · refine List.nodup_append.2 ⟨by decide, nd_pz ks hnd, fun a ha b hb => ?_⟩
      obtain ⟨k, hk, x, hx, rfl⟩ := (mem_pz ks b).1 hb
      have := hkb k hk
      simp only [List.mem_cons, List.not_mem_nil, or_false] at ha
      rcases ha with rfl | rfl <;> omega
    · unfold hasB
      rw [Bool.and_eq_true, decide_eq_true_eq, decide_eq_true_eq]
      rcases List.mem_append.1 hz with hz | hz
      · simp only [List.mem_cons, List.not_mem_nil, or_false] at hz
        rcases hz with rfl | rfl <;> omega
      · obtain ⟨k, hk, x, hx, rfl⟩ := (mem_pz ks z).1 hz
        have := hkb k hk
        omega
    · rcases List.mem_append.1 hm with hm | hm
      · simp only [List.mem_cons, List.not_mem_nil, or_false] at hm
        rcases hm with rfl | rfl
        · exact hp_len (n := 2) hdl (by decide)
        · exact hp_len (n := 2) hdl (by decide)
      · unfold pp at hm
        obtain ⟨k, hk, hm⟩ := List.mem_flatMap.1 hm
        obtain ⟨x, hx, rfl⟩ := List.mem_map.1 hm
        exact hp_len (n := 8) (cget_len hgl k) (List.mem_range.1 hx)
  have hL : ∀ y, y ∈ wsOf ([0, 1] ++ pz ks) ([hp hd 0, hp hd 1] ++ pp g ks) ↔ (y = (0, hp hd 0) ∨ y = (1, hp hd 1)) ∨ ∃ k ∈ ks, ∃ x : Nat, x < 8 ∧ y = (2 + k.toNat * 8 + x, hp (cget g k) x) := fun y => by
    rw [wsOf_app _ _ _ _ rfl, List.mem_append, wsOf_pz g ks (fun k hk => (hkb k hk).1) y]
    simp [wsOf]
  have hnk : ((wsOf ([0, 1] ++ pz ks) ([hp hd 0, hp hd 1] ++ pp g ks)).map (·.1)).Nodup := by
    have e : (wsOf ([0, 1] ++ pz ks) ([hp hd 0, hp hd 1] ++ pp g ks)).map (·.1) = ([0, 1] ++ pz ks).map Int.toNat := by
      unfold wsOf
      rw [List.map_map]
      have : ((fun x : Nat × List UInt8 => x.1) ∘ fun x : Int × List UInt8 => (x.1.toNat, x.2)) = Int.toNat ∘ Prod.fst := rfl
      rw [this, ← List.map_map, List.map_fst_zip (by rw [hfit.1]; exact Nat.le_refl _)]
    rw [e]
    have hp0 : ∀ z ∈ [0, 1] ++ pz ks, 0 ≤ z := fun z hz => (hfit.at hz).1
    have hnd2 := hfit.2.1
    generalize [0, 1] ++ pz ks = zs at *
    exact List.pairwise_map.2 (hnd2.imp_of_mem (fun {a b} ha hb hab e => hab (by have := hp0 a ha; have := hp0 b hb; omega)))
  generalize hLL : wsOf ([0, 1] ++ pz ks) ([hp hd 0, hp hd 1] ++ pp g ks) = L at *
  have hin : ∀ y, y ∈ L → y.1 < bl.length → (layAll bl L)[y.1]? = some y.2 := fun y hy hl => layAll_in L bl y hnk hy hl
  refine ⟨hfit, ?_, fun i hi c hc => ?_, fun i hi hc => ?_⟩
  · rw [cat_parts _ 0 hd 2 (fun x hx => ?_), List.take_of_length_le (by omega)]
    have hx2 : x = 0 ∨ x = 1 := by omega
    rw [Nat.zero_add]
    rcases hx2 with rfl | rfl
    · exact hin (0, hp hd 0) ((hL _).2 (.inl (.inl rfl))) (by show 0 < bl.length; omega)
    · exact hin (1, hp hd 1) ((hL _).2 (.inl (.inr rfl))) (by show 1 < bl.length; omega)
  · have hcl := hgl _ c hc
    have hcg : cget g (i : Int) = c := by unfold cget; rw [hc]; rfl
    rw [cat_parts _ (2 + i * 8) c 8 (fun x hx => ?_), List.take_of_length_le (by omega)]
    have := hin (2 + i * 8 + x, hp c x) ((hL _).2 (.inr ⟨(i : Int), (hks _).2 (by rw [hc]; simp), x, hx, by rw [hcg]; rfl⟩)) (by show 2 + i * 8 + x < bl.length; omega)
    exact this
  · refine cat_same bl _ _ _ (fun x hx => ?_)
    rcases layAll_mem (2 + i * 8 + x) L bl with h | ⟨l, hl, _⟩
    · exact h
    · rcases (hL _).1 hl with (h | h) | ⟨k, hk, y, hy, h⟩
      · injection h with h; omega
      · injection h with h; omega
      · injection h with h
        have := hkb k hk
        have : k = (i : Int) := by omega
        subst this
        exact absurd hc ((hks _).1 hk)
theorem Pv.commit {B : Nat} {w : World} {p j d : Nat} {s : DS} {sq : Nat} {bl : List (List UInt8)} {cur was : Pgs} {rt wr : Int} (h : Pv B w p j d s sq bl cur was rt wr) (hcut : s.cut = -1) (hsq : sq + 1 ≤ 1000000000) (ho : s.ops + ((2 * nbOf s.n + 4 : Nat) : Int) ≤ 1048576) :
    Calls Tryz.prog 20 #[.pointer (some ⟨p, 0, none⟩)] w fun e w' => e = .returned (.int .i64 0) ∧ ∃ s' sq' bl', Aft B w w' p j d s' sq' bl' cur cur rt rt ∧ s'.n = s.n ∧ s.ops ≤ s'.ops ∧ s'.ops ≤ s.ops + ((2 * nbOf s.n + 4 : Nat) : Int) ∧ sq' ≤ sq + 1 ∧ s'.cut = -1 := by
  obtain ⟨X, cnt, bg, um, bm, u, g, h⟩ := h
  cases hbg : bg with
  | false =>
    subst hbg
    obtain ⟨rfl, rfl⟩ := h.idle rfl
    refine (pcommit_idle h.pm.pg).mono ?_
    rintro e w' ⟨rfl, rfl⟩
    exact ⟨rfl, s, sq, bl, ⟨⟨_, _, _, _, _, _, _, h⟩, Below.refl _ _, Kq.refl _⟩, rfl, Int.le_refl _, by omega, by omega, hcut⟩
  | true =>
    subst hbg
    obtain ⟨kb, hb⟩ := h.pm.mb
    have hks : ∀ k, k ∈ sorted kb ↔ g k ≠ none := fun k => by rw [mem_sorted, hb.mem]; exact gV_none g k
    have hnd : (sorted kb).Nodup := by unfold sorted; exact (List.mergeSort_perm kb _).nodup_iff.2 hb.nd
    have hbl : bl.length = nbOf s.n := h.js.jr.sett.con.len
    have hb2 : 2 ≤ bl.length := by have := h.js.jr.sett.n32; rw [hbl]; unfold nbOf; omega
    have hkl : ∀ k ∈ sorted kb, 0 ≤ k ∧ k < (was.length : Int) := fun k hk => by
      have := h.pm.kb k ((hks k).1 hk)
      rw [tk_len] at this; exact this
    have hrl := h.rc.lt
    have hle := h.le
    have hlen := h.len
    obtain ⟨r, hr⟩ : ∃ r : Nat, rt + 1 = (r : Int) := ⟨(rt + 1).toNat, by omega⟩
    obtain ⟨hfit, hc1, hc2, hc3⟩ := commit_math (hdOf_len (ovl (tk was) u) r) h.nb hb2 hnd hks hkl h.pm.gl
    generalize hZ : [0, 1] ++ pz (sorted kb) = Z at *
    generalize hP : [hp (hdOf (ovl (tk was) u) r) 0, hp (hdOf (ovl (tk was) u) r) 1] ++ pp g (sorted kb) = P at *
    have hz0 : Z ≠ [] := by rw [← hZ]; simp
    have hre : refE bl Z P = 0 := if_pos hfit
    have hrw : refW sq bl Z P = (sq + 1, layAll bl (wsOf Z P)) := if_pos ⟨hfit, hz0⟩
    refine (pcommit_any h.pm hb hr (by omega) (fun w6 => Below B w w6 ∧ Kq w w6 ∧ Pg w6 p j (tk was) (nf was) wr true (nf cur) rt um bm 0 ∧ ∃ s' X' cnt', Js B w6 j d X' s' (sq + 1) cnt' (layAll bl (wsOf Z P)) ∧ s'.n = s.n ∧ s.ops ≤ s'.ops ∧ s'.ops ≤ s.ops + ((2 * nbOf s.n + 4 : Nat) : Int)) (fun _ => False) (fun w5 va vb hB5 ha hbz => ?_)).mono ?_
    · rw [hZ] at ha
      rw [hP] at hbz
      have hJ5 : Js B w5 j d X s sq cnt bl := ⟨(h.js.below hB5).jr, hcut, h.js.lo, h.js.jlo⟩
      have hlz := hfit.len
      have hn8 := h.js.jr.nb
      refine (hJ5.wr (Nat.le_trans h.Bw hB5.size) hsq ha hbz (by omega) ho).mono ?_
      rintro e w6 ⟨rfl, s', X', cnt', hJ6, h1, h2, h3, _, _, _, hB6, hK6⟩
      rw [hrw] at hJ6
      refine ⟨hK6, .inl ⟨by rw [hre], (hB5.mono h.Bw).trans hB6, (Kq.of_below hB5).trans (Kq.of_kp hK6), hK6.pg (h.pm.pg.below hB5 h.pm.pg.lt), s', X', cnt', hJ6, h1, h2, by omega⟩⟩
    · rintro e w' ⟨w6, hF, hr2⟩
      rcases hr2 with ⟨rfl, ⟨hB6, hK6, hP6, s', X', cnt', hJ6, h1, h2, h3⟩, hP'⟩ | ⟨_, hf, _⟩
      · rw [h.us] at hP'
        have hBs : B ≤ w6.heap.size := Nat.le_trans h.Bw hB6.size
        have hB' : Below B w6 w' := hF.below hBs (by simpa using h.lo)
        have hBB := hB6.trans hB'
        have hJ' : Js B w' j d X' s' (sq + 1) cnt' (layAll bl (wsOf Z P)) := hJ6.fr hF (fun k hk hm => by
          obtain rfl : k = p := by simpa using hm
          exact hJ6.not hP6.2 (by decide) (by decide) (by decide) hk) (hJ6.jr.tab.belowB hB' h.tb)
        have hr3 : (rt + 1).toNat = r := by omega
        refine ⟨rfl, s', sq + 1, layAll bl (wsOf Z P), ⟨⟨X', cnt', false, none, none, fun _ => none, fun _ => none, { pm := hP'.bare, js := hJ'.jc, len := rfl, us := ovl_none _, gs := fun i c hi => (by cases hi), gn := fun i c _ hc => hc, wb := fun i c hi => ?_, hd := by rw [hc1, h.us, hr3], rw' := h.rc, rc := h.rc, idle := fun _ => ⟨rfl, rfl⟩, nb := by rw [layAll_len, h.nb, h.len], lo := h.lo, mlo := fun m hm => (by rcases hm with hm | hm <;> cases hm), ap := fun m hm => (by rcases hm with hm | hm <;> cases hm), tb := h.tb, Bw := Nat.le_trans hBs hF.size }⟩, hBB, hK6.trans (Kq.of_p hP6 hF)⟩, h1, h2, h3, Nat.le_refl _, hJ'.cut⟩
        have hil := (List.getElem?_eq_some_iff.1 hi).1
        cases hg : g (i : Int) with
        | some c' =>
          have h5 := h.gs i c' hg
          rw [hi] at h5
          cases h5
          exact hc2 i (by omega) c hg
        | none =>
          rw [hc3 i (by omega) hg]
          exact h.wb i c (h.gn i c hg hi)
      · exact hf.elim
/-- Open, where a head lies. -/
theorem open_head {B : Nat} {w : World} {j d : Nat} {X : List Nat} {s : DS} {sq cnt : Nat} {bl : List (List UInt8)} (hJ : Jc B w j d X s sq cnt bl) {was : Pgs} {wr : Int} (hd : cat bl 0 2 = hdOf (tk was) (wr + 1).toNat) (hnb : (bl.length - 2) / 8 = was.length) (hr : rooted was wr) (hwb : ∀ (i : Nat) (c : List UInt8), was[i]? = some (some c) → cat bl (2 + i * 8) 8 = c) (htb : 0 < B) (hBw : B ≤ w.heap.size) :
    Calls Tryz.prog 13 #[.pointer (some ⟨j, 0, none⟩)] w fun e w' => ∃ p, w.heap.size ≤ p ∧ e = .returned (.tuple #[.pointer (some ⟨p, 0, none⟩), .int .i64 0]) ∧ Pv B w' p j d s sq bl was was wr wr ∧ Below w.heap.size w w' := by
  have hbl : bl.length = nbOf s.n := hJ.jr.sett.con.len
  have hnb8 := hJ.jr.nb
  have hrl := hr.lt
  refine (popen_ok hJ.jr (n := was.length) (l := tk was) (r := (wr + 1).toNat) (by rw [← hbl]; exact hnb) (tk_len was) hd (by omega) ?_).mono ?_
  · rcases hr with rfl | ⟨q, rfl, x, hx⟩
    · exact .inl rfl
    · exact .inr ⟨q, by omega, by rw [tk_get, hx]; rfl⟩
  · rintro e w' ⟨p, hp, rfl, hP, hB⟩
    have e1 : (((wr + 1).toNat : Nat) : Int) - 1 = wr := by omega
    rw [e1] at hP
    refine ⟨p, hp, rfl, ⟨X, cnt, false, none, none, fun _ => none, fun _ => none, { pm := Pg.bare hP, js := hJ.below hB, len := rfl, us := ovl_none _, gs := fun i c hi => (by cases hi), gn := fun i c _ hc => hc, wb := hwb, hd := hd, rw' := hr, rc := hr, idle := fun _ => ⟨rfl, rfl⟩, nb := hnb, lo := Nat.le_trans hBw hp, mlo := fun m hm => (by rcases hm with hm | hm <;> cases hm), ap := fun m hm => (by rcases hm with hm | hm <;> cases hm), tb := htb, Bw := Nat.le_trans hBw hB.size }⟩, hB⟩
theorem Pv.open {B : Nat} {w : World} {p j d : Nat} {s : DS} {sq : Nat} {bl : List (List UInt8)} {cur was : Pgs} {rt wr : Int} (h : Pv B w p j d s sq bl cur was rt wr) :
    Calls Tryz.prog 13 #[.pointer (some ⟨j, 0, none⟩)] w fun e w' => ∃ p, w.heap.size ≤ p ∧ e = .returned (.tuple #[.pointer (some ⟨p, 0, none⟩), .int .i64 0]) ∧ Pv B w' p j d s sq bl was was wr wr ∧ Below w.heap.size w w' := by
  obtain ⟨X, cnt, bg, um, bm, u, g, h⟩ := h
  exact open_head h.js h.hd h.nb h.rw' h.wb h.tb h.Bw
end Go.Proofs.YtcmgclkbhhdnaaaGreatDoor
namespace Go.Proofs.YtcmgclkbhhdnaaaGreatDoor
open Go Go.RowKit

/-- A state of the reference as a value. -/
def Rs (v : Value) (rt : Int) : Value := .agg #[v, .int .i64 rt]
theorem fg93_0 (b o : Nat) (w : World) : (Instr.fieldAt 93 (.pointer (some ⟨b, o, none⟩)) 0).run Tryz.prog w = .ok (.pointer (some ⟨b, o, none⟩)) w := by go_simp
theorem fg93_1 (b o : Nat) (w : World) : (Instr.fieldAt 93 (.pointer (some ⟨b, o, none⟩)) 1).run Tryz.prog w = .ok (.pointer (some ⟨b, o + 1, none⟩)) w := by go_simp
theorem fa95_0 (b : Nat) (w : World) : (Instr.fieldAt 95 (.pointer (some ⟨b, 0, none⟩)) 0).run Tryz.prog w = .ok (.pointer (some ⟨b, 0, none⟩)) w := by go_simp
theorem fa95_1 (b : Nat) (w : World) : (Instr.fieldAt 95 (.pointer (some ⟨b, 0, none⟩)) 1).run Tryz.prog w = .ok (.pointer (some ⟨b, 2, none⟩)) w := by go_simp
theorem fa95_2 (b : Nat) (w : World) : (Instr.fieldAt 95 (.pointer (some ⟨b, 0, none⟩)) 2).run Tryz.prog w = .ok (.pointer (some ⟨b, 4, none⟩)) w := by go_simp
theorem rbuild93 (a : Option Addr) (n c : Nat) (rt : Int) (w : World) : (Instr.build 93 #[(0, .slice a n c), (1, .int .i64 rt)]).run Tryz.prog w = .ok (Rs (.slice a n c) rt) w := by unfold Rs; go_simp
theorem rbuild95 (a : Option Addr) (n c : Nat) (rt : Int) (w : World) : (Instr.build 95 #[(0, Rs (.slice a n c) rt)]).run Tryz.prog w = .ok (.agg #[.slice a n c, .int .i64 rt, .slice none 0 0, .int .i64 0, .bool false]) w := by unfold Rs; go_simp
theorem size93 : (Tryz.prog.info? 93).map (·.size) = some 2 := by kernel_rfl
theorem zero93 (w : World) : (zeroValue 93).run Tryz.prog w = .ok (.agg #[.slice none 0 0, .int .i64 0]) w := by go_simp
theorem ralloc93 (w : World) : (Instr.alloc 93 true (.tuple #[])).run Tryz.prog w = .ok (.pointer (some ⟨w.heap.size, 0, none⟩)) (w.alloc (.cells #[.slice none 0 0, .int .i64 0] 93)) := alloc_agg zero93 w
theorem rbox93 (w : World) (v : Value) (rt : Int) : (Instr.box 93 (Rs v rt)).run Tryz.prog w = .ok (.pointer (some ⟨w.heap.size, 0, none⟩)) (w.alloc (.cells #[v, .int .i64 rt] 93)) := box_agg _ w _
theorem rbox95 (w : World) (a b c d e : Value) : (Instr.box 95 (.agg #[a, b, c, d, e])).run Tryz.prog w = .ok (.pointer (some ⟨w.heap.size, 0, none⟩)) (w.alloc (.cells #[a, b, c, d, e] 95)) := box_agg _ w _
theorem rload93 {w : World} {g o : Nat} {v : Value} {rt : Int} (h0 : w.cell? ⟨g, o, none⟩ = some v) (h1 : w.cell? ⟨g, o + 1, none⟩ = some (.int .i64 rt)) : (Instr.loadAt 93 (.pointer (some ⟨g, o, none⟩))).run Tryz.prog w = .ok (Rs v rt) w := by
  have hc := run_loadCells_list (P := Tryz.prog) w ⟨g, o, none⟩ [v, .int .i64 rt] (fun j x hx => by
    match j, hx with
    | 0, hx => cases hx; rw [add_lit]; exact h0
    | 1, hx => cases hx; rw [add_lit]; exact h1)
  unfold Rs
  simp only [Instr.loadAt, Instr.sureAddr, Sem.run_bind, Sem.run_pure, Result.andThen, loadVar, Tryz.isAgg93, run_size size93, show 2 = [v, Value.int .i64 rt].length from rfl, hc, if_true]
/-- A row of pointers. -/
theorem infoP : (Tryz.prog.info? 148).map (fun i => (i.zero, i.size, i.bytes)) = some (some (.pointer none), 1, 8) := by kernel_rfl
end Go.Proofs.YtcmgclkbhhdnaaaGreatDoor
namespace Go.Proofs.YtcmgclkbhhdnaaaGreatDoor
open Go Go.RowKit
variable {Z : Nat → Prop}

theorem made_list (z : Value) (n : Nat) : (madeCells #[z] n).toList = List.replicate n z := by
  refine List.ext_getElem? fun k => ?_
  rw [Array.getElem?_toList]
  by_cases hk : k < n
  · rw [List.getElem?_replicate, if_pos hk]
    simp [madeCells, hk, Nat.mod_one]
  · rw [List.getElem?_replicate, if_neg hk]
    simp [madeCells, hk]
theorem make_row {ts t : TypeId} {z : Value} {by_ : Nat} (hu : Tryz.prog.underlying ts = some (.slice t)) (hi : (Tryz.prog.info? t).map (fun i => (i.zero, i.size, i.bytes)) = some (some z, 1, by_)) (hz : z.cells = #[z]) (hby : by_ ≤ 24) (n : Nat) (hn : n ≤ 1000000) (w : World) :
    (Instr.makeSlice ts (.int .i64 n) (.int .i64 n)).run Tryz.prog w = .ok (.slice (some ⟨w.heap.size, 0, none⟩) n n) (w.alloc (.cells (madeCells #[z] n) t)) ∧ (w.alloc (.cells (madeCells #[z] n) t)).ownsRow w.heap.size t 1 (.slice (some ⟨w.heap.size, 0, none⟩) n n) n (List.replicate n z) := by
  obtain ⟨i0, hie, hz0, hz1, hz2⟩ := info_parts hi
  have hb : (i0.bytes : Int) * (n : Int) ≤ 281474976710656 := by
    rw [hz2]
    have : by_ * n ≤ 24 * 1000000 := Nat.mul_le_mul hby hn
    have h2 : ((by_ * n : Nat) : Int) ≤ 24000000 := by omega
    rw [Int.natCast_mul] at h2; omega
  have hr := run_make (P := Tryz.prog) w ts t i0 z hu hie hz0 .i64 .i64 n n (by omega) (Int.le_refl _) hb (by omega)
  simp only [Int.toNat_natCast, hz1, Nat.mul_one, hz] at hr
  refine ⟨hr, by rw [List.length_replicate, Nat.mul_one], .inr ⟨w.heap.size, n, madeCells #[z] n, rfl, Nat.le_refl _, heap_alloc_last w _, Nat.le_refl _, by unfold maxLen; omega, ?_, ?_⟩⟩
  · rw [← Array.length_toList, made_list, List.length_replicate, Nat.mul_one]
  · rw [made_list, List.take_of_length_le (by rw [List.length_replicate]; omega)]
theorem rstore93 {w : World} {g : Nat} {x y : Value} (h : w.heap[g]? = some (.cells #[x, y] 93 (0, 0))) (v : Value) (hv : v.oneCell' = true) (rt : Int) : (Instr.storeAt 93 (.pointer (some ⟨g, 0, none⟩)) (Rs v rt)).run Tryz.prog w = .ok () (w.setRow g #[v, .int .i64 rt]) :=
  storeAt_all size93 rfl rfl h (by intro u hu; simp at hu; rcases hu with rfl | rfl; exact hv; rfl)
theorem rstore95 {w : World} {g : Nat} {a b c d e : Value} (h : w.heap[g]? = some (.cells #[a, b, c, d, e] 95 (0, 0))) (v : Value) (hv : v.oneCell' = true) (rt : Int) : (Instr.storeAt 93 (.pointer (some ⟨g, 2, none⟩)) (Rs v rt)).run Tryz.prog w = .ok () (w.setRow g #[a, b, v, .int .i64 rt, e]) := by
  have h1 := storeAt_k (P := Tryz.prog) size93 w g 2 #[a, b, c, d, e] 95 [v, .int .i64 rt] rfl h (by simp) (by intro u hu; simp at hu; rcases hu with rfl | rfl; exact hv; rfl)
  have e1 : relaid #[a, b, c, d, e] 2 [v, .int .i64 rt] = #[a, b, v, .int .i64 rt, e] := by simp [relaid]
  rw [e1] at h1
  exact h1
set_option maxRecDepth 100000 in
set_option maxHeartbeats 1000000 in
theorem rclone_any {w : World} {ga n c : Nat} {rt : Int} {ps : List Value} (hn : ps.length = n) (h1 : 1 ≤ n) (h2 : n ≤ 1000000) (hr : ∀ (k : Nat) (x : Value), ps[k]? = some x → w.cell? ⟨ga, k, none⟩ = some x) (ho : ∀ x ∈ ps, x.oneCell' = true) (hga : ga < w.heap.size) :
    Calls Tryz.prog 43 #[Rs (.slice (some ⟨ga, 0, none⟩) n c) rt] w fun e w' => ∃ v', e = .returned (Rs v' rt) ∧ w'.ownsRow w.heap.size 148 1 v' n ps ∧ Below w.heap.size w w' := by
  obtain ⟨g0, hg0⟩ : ∃ g, w.heap.size = g := ⟨_, rfl⟩
  have hbx := rbox93 w (.slice (some ⟨ga, 0, none⟩) n c) rt
  have hB1 : Below w.heap.size w (w.alloc (.cells #[.slice (some ⟨ga, 0, none⟩) n c, .int .i64 rt] 93)) := (Below.refl _ _).alloc (Nat.le_refl _) _
  have hS1 : (w.alloc (.cells #[.slice (some ⟨ga, 0, none⟩) n c, .int .i64 rt] 93)).heap[w.heap.size]? = some (.cells #[.slice (some ⟨ga, 0, none⟩) n c, .int .i64 rt] 93 (0, 0)) := heap_alloc_last w _
  have hz1 : (w.alloc (.cells #[.slice (some ⟨ga, 0, none⟩) n c, .int .i64 rt] 93)).heap.size = w.heap.size + 1 := by show (w.heap.push _).size = _; simp
  generalize w.alloc (.cells #[.slice (some ⟨ga, 0, none⟩) n c, .int .i64 rt] 93) = w1 at *
  obtain ⟨g1, hg1⟩ : ∃ g, w1.heap.size = g := ⟨_, rfl⟩
  have hal := ralloc93 w1
  have hB2 : Below w1.heap.size w1 (w1.alloc (.cells #[.slice none 0 0, .int .i64 0] 93)) := (Below.refl _ _).alloc (Nat.le_refl _) _
  have hS2 : (w1.alloc (.cells #[.slice none 0 0, .int .i64 0] 93)).heap[w1.heap.size]? = some (.cells #[.slice none 0 0, .int .i64 0] 93 (0, 0)) := heap_alloc_last w1 _
  generalize w1.alloc (.cells #[.slice none 0 0, .int .i64 0] 93) = w2 at *
  rw [hg0] at hbx hB1 hS1 hz1
  rw [hg1] at hal hB2 hS2 hz1
  have hBw2 : Below g0 w w2 := hB1.trans (hB2.mono (by omega))
  have hS12 := below_at hB2 hS1 (by omega)
  -- the append
  obtain ⟨i0, hie, hz0, hzz1, hzz2⟩ := info_parts infoP
  obtain ⟨wd, hwd⟩ : ∃ wd, w2.drew = wd := ⟨_, rfl⟩
  have hBd : Below g0 w wd := by rw [← hwd]; exact hBw2.trans ((Below.refl _ _).drew)
  obtain ⟨v', w3, hap, ho3, hg3, _⟩ := run_append_own_at (P := Tryz.prog) (w := wd) wd.heap.size 91 91 148 i0 (.pointer none) 1 8 Tryz.underlying91 hie hz0 hzz1 hzz2 rfl (by decide) (.slice none 0 0) 0 [] (World.ownsRow_nil _ _ _ _) ⟨ga, 0, none⟩ n c ps (by rw [hn, Nat.mul_one]) (fun j x hj => by rw [Addr.add_lit, Nat.zero_add]; exact (hBd.cell (p := ⟨ga, j, none⟩) (by show ga < g0; omega)).trans (hr j x hj)) ho (by unfold maxLen; omega) (by omega) (Nat.le_refl _)
  rw [List.nil_append, Nat.zero_add] at ho3
  have hB3 : Below wd.heap.size wd w3 := (Below.refl _ _).grown hg3 (Nat.le_refl _) (fun k e => by cases e)
  have hzd : g1 < wd.heap.size := by rw [← hwd]; exact heap_lt hS2
  have hSd : wd.heap[g0]? = some (.cells #[.slice (some ⟨ga, 0, none⟩) n c, .int .i64 rt] 93 (0, 0)) := by rw [← hwd]; exact hS12
  have hS3 := below_at hB3 hSd (by omega)
  have hT3 : w3.heap[g1]? = some (.cells #[.slice none 0 0, .int .i64 0] 93 (0, 0)) := below_at hB3 (by rw [← hwd]; exact hS2) hzd
  obtain ⟨gv, cv, rfl⟩ : ∃ g c, v' = .slice (some ⟨g, 0, none⟩) n c := by
    rcases ho3.2 with ⟨_, h0⟩ | ⟨g, cap, cur, e, _⟩
    · omega
    · exact ⟨g, cap, e⟩
  have hst := rstore93 hT3 (.slice (some ⟨gv, 0, none⟩) n cv) rfl rt
  have hF4 := Fr.setRow w3 g1 #[.slice (some ⟨gv, 0, none⟩) n cv, .int .i64 rt]
  have hT4 : (w3.setRow g1 #[.slice (some ⟨gv, 0, none⟩) n cv, .int .i64 rt]).heap[g1]? = some (.cells #[.slice (some ⟨gv, 0, none⟩) n cv, .int .i64 rt] 93 (0, 0)) := setRow_heap w3 g1 _ _ _ _ hT3
  have ho4 := owns_fr ho3 hF4 (fun g c hg hm => by
    obtain rfl : g = g1 := by simpa using hm
    rw [hT3] at hg
    injection hg with hg
    injection hg with _ e
    exact absurd e (by decide))
  have hS4 := hF4.at hS3 (by simp; omega)
  generalize w3.setRow g1 #[.slice (some ⟨gv, 0, none⟩) n cv, .int .i64 rt] = w4 at *
  have hB4 : Below g0 w w4 := (hBd.trans (hB3.mono (by omega))).trans (hF4.below (by have := hB3.size; omega) (by simp; omega))
  have HLR := hid (rload93 (v := .slice (some ⟨gv, 0, none⟩) n cv) (rt := rt) (cell_at hT4 0 rfl) (cell_at hT4 1 rfl))
  have HZ : Hid (∃ v', Ending.returned (Rs (.slice (some ⟨gv, 0, none⟩) n cv) rt) = .returned (Rs v' rt) ∧ w4.ownsRow w.heap.size 148 1 v' n ps ∧ Below w.heap.size w w4) := hid ⟨_, rfl, owns_mono ho4 (by omega), by rw [hg0]; exact hB4⟩
  have HBX := hid hbx
  have HAL := hid hal
  have HAP := hid hap
  have HST := hid hst
  have HSD := hid hSd
  have HS3 := hid hS3
  have HS4 := hid hS4
  have HWD := hid hwd
  clear hn h1 h2 hr ho hga hg0 hbx hB1 hS1 hz1 hg1 hal hB2 hS2 hBw2 hS12 hie hz0 hzz1 hzz2 hwd hBd hap ho3 hg3 hB3 hzd hSd hS3 hT3 hst hF4 hT4 ho4 hS4 hB4
  go_enter Tryz.func43, Tryz.ntmps43
  go_upto_region 0 with fail
  refine wp_region_lit ?_
  refine wp_run (v := .pointer (some ⟨g0, 0, none⟩)) rfl rfl (run_boxOp rfl (by kernel_rfl) HBX.out) rfl ?_
  refine wp_run (v := .pointer (some ⟨g1, 0, none⟩)) rfl rfl (run_alOp rfl HAL.out) rfl ?_
  try simp only [List.setIfInBounds_toArray, List.set_cons_zero, List.set_cons_succ]
  refine wp_end ?_
  go_upto_region 1 with fail
  refine h_openL (S := fun w' => w'.heap[g0]? = some (.cells #[.slice (some ⟨ga, 0, none⟩) n c, .int .i64 rt] 93 (0, 0))) (by kernel_rfl) (by kernel_rfl) (fun _ _ _ _ _ h => h) (L := #[false, false, false, false, false, false, false]) (by kernel_rfl) ?_
  intro Q' hns hP hN
  have hS := HSD.out
  rw [HWD.out]
  refine h_takeL (i := 0) (v := .pointer (some ⟨g0, 0, none⟩)) hns rfl rfl (by kernel_rfl) (by kernel_rfl) hP (y_faddr rfl (hf := fg93_0 (g0) (0))) hS rfl (L' := #[true, false, false, false, false, false, false]) (by kernel_rfl) ?_
  refine h_takeL (i := 1) (v := .slice (some ⟨ga, 0, none⟩) n c) hns rfl rfl (by kernel_rfl) (by kernel_rfl) hP (y_load rfl (hl := fun w' h => load1 Tryz.isAgg91 (cell_at h 0 rfl))) hS rfl (L' := #[true, true, false, false, false, false, false]) (by kernel_rfl) ?_
  refine h_takeL (i := 3) (v := .pointer (some ⟨g0, 1, none⟩)) hns rfl rfl (by kernel_rfl) (by kernel_rfl) hP (y_faddr rfl (hf := fg93_1 (g0) (0))) hS rfl (L' := #[true, true, false, true, false, false, false]) (by kernel_rfl) ?_
  refine h_takeL (i := 4) (v := .int .i64 rt) hns rfl rfl (by kernel_rfl) (by kernel_rfl) hP (y_load rfl (hl := fun w' h => load1 Tryz.isAgg3 (cell_at h 1 rfl))) hS rfl (L' := #[true, true, false, true, true, false, false]) (by kernel_rfl) ?_
  refine h_valL (i := 2) (v := .slice (some ⟨gv, 0, none⟩) n cv) (by kernel_rfl) rfl rfl (by kernel_rfl) (run_appOp rfl (by kernel_rfl) (by kernel_rfl) HAP.out) HS3.out rfl (L' := #[true, true, true, true, true, false, false]) (by kernel_rfl) ?_
  refine h_valL (i := 5) (v := Rs (.slice (some ⟨gv, 0, none⟩) n cv) rt) (by kernel_rfl) rfl rfl (by kernel_rfl) (run_buildOp rfl (by kernel_rfl) (rbuild93 _ _ _ _ _)) HS3.out rfl (L' := #[true, true, true, true, true, true, false]) (by kernel_rfl) ?_
  refine h_skipL (i := 6) (by kernel_rfl) rfl rfl (by kernel_rfl) (run_storeOp rfl (by kernel_rfl) (by kernel_rfl) HST.out) HS4.out (L' := #[true, true, true, true, true, true, true]) (by kernel_rfl) ?_
  try simp only [List.setIfInBounds_toArray, List.set_cons_zero, List.set_cons_succ]
  refine wpAnyH_done (by kernel_rfl) ?_ _
  refine hN _ _ ?_
  clear hP hN hns
  clear hS
  go_wp2_with fail
  exact ret_cell rfl rfl rfl HLR.out HZ.out
/-- A pointer, or nil. -/
def pV : Option Nat → Value
  | none => .pointer none
  | some a => .pointer (some ⟨a, 0, none⟩)
/-- What the pointers point at. -/
def Sp (w : World) (al : List (Option Nat)) (c : Pgs) : Prop := al.length = c.length ∧ ∀ i : Nat, (al[i]? = some none → c[i]? = some none) ∧ ∀ a, al[i]? = some (some a) → ∃ b, c[i]? = some (some b) ∧ w.heap[a]? = some (.cells #[strV b] 9 (0, 0))
/-- The reference's pager at block r. -/
def Rp (Z : Nat → Prop) (w : World) (B r : Nat) (cur was : Pgs) (rt wr : Int) (ch : Bool) : Prop :=
  (B ≤ r ∧ ¬ Z r) ∧ ∃ vp vw al be, w.heap[r]? = some (.cells #[vp, .int .i64 rt, vw, .int .i64 wr, .bool ch] 95 (0, 0)) ∧ w.ownsRow B 148 1 vp cur.length (al.map pV) ∧ w.ownsRow B 148 1 vw was.length (be.map pV) ∧ Sp w al cur ∧ Sp w be was ∧ (∀ g, vp.ownBlock = some g → vw.ownBlock ≠ some g) ∧ ∀ g, vp.ownBlock = some g ∨ vw.ownBlock = some g → ¬ Z g
set_option maxRecDepth 100000 in
set_option maxHeartbeats 1000000 in
theorem refBegun_any (nb n : Nat) (h0 : 10 ≤ nb) (h1 : nb < 8192) (hn : (nb - 2) / 8 = n) (w : World) :
    Calls Tryz.prog 33 #[.int .i64 nb] w fun e w' => ∃ r, w.heap.size ≤ r ∧ e = .returned (.pointer (some ⟨r, 0, none⟩)) ∧ Rp (fun _ => False) w' w.heap.size r (List.replicate n none) (List.replicate n none) (-1) (-1) false ∧ Below w.heap.size w w' := by
  obtain ⟨g0, hg0⟩ : ∃ g, w.heap.size = g := ⟨_, rfl⟩
  have hn1 : 1 ≤ n := by omega
  have hn2 : n ≤ 1023 := by omega
  obtain ⟨hmk, ho1⟩ := make_row (z := .pointer none) (by_ := 8) Tryz.underlying91 infoP rfl (by decide) n (by omega) w
  have hB1 : Below w.heap.size w (w.alloc (.cells (madeCells #[.pointer none] n) 148)) := (Below.refl _ _).alloc (Nat.le_refl _) _
  have hz1 : (w.alloc (.cells (madeCells #[.pointer none] n) 148)).heap.size = w.heap.size + 1 := by show (w.heap.push _).size = _; simp
  generalize w.alloc (.cells (madeCells #[.pointer none] n) 148) = w1 at *
  rw [hg0] at hmk ho1 hB1 hz1
  obtain ⟨g1, hg1⟩ : ∃ g, w1.heap.size = g := ⟨_, rfl⟩
  have hbx := rbox95 w1 (.slice (some ⟨g0, 0, none⟩) n n) (.int .i64 (-1)) (.slice none 0 0) (.int .i64 0) (.bool false)
  have hB2 : Below w1.heap.size w1 (w1.alloc (.cells #[.slice (some ⟨g0, 0, none⟩) n n, .int .i64 (-1), .slice none 0 0, .int .i64 0, .bool false] 95)) := (Below.refl _ _).alloc (Nat.le_refl _) _
  have hP2 : (w1.alloc (.cells #[.slice (some ⟨g0, 0, none⟩) n n, .int .i64 (-1), .slice none 0 0, .int .i64 0, .bool false] 95)).heap[w1.heap.size]? = some (.cells #[.slice (some ⟨g0, 0, none⟩) n n, .int .i64 (-1), .slice none 0 0, .int .i64 0, .bool false] 95 (0, 0)) := heap_alloc_last w1 _
  have ho2 := owns_below2 ho1 hB2
  generalize w1.alloc (.cells #[.slice (some ⟨g0, 0, none⟩) n n, .int .i64 (-1), .slice none 0 0, .int .i64 0, .bool false] 95) = w2 at *
  rw [hg1] at hbx hB2 hP2 hz1
  have hB12 : Below g0 w w2 := hB1.trans (hB2.mono (by omega))
  have HLD := hid (rload93 (v := .slice (some ⟨g0, 0, none⟩) n n) (rt := -1) (cell_at hP2 0 rfl) (cell_at hP2 1 rfl))
  have HCL := hid (rclone_any (w := w2) (ga := g0) (c := n) (rt := -1) (ps := List.replicate n (.pointer none)) (by simp) hn1 (by omega) (fun k x hx => by
    have h3 := ho2.cells (g := g0) rfl k x hx
    rwa [Addr.add_lit, Nat.zero_add] at h3) (fun x hx => by rw [(List.mem_replicate.1 hx).2]; rfl) (by have := heap_lt hP2; omega))
  have HSUB : Hid (IntKind.i64.wrap ((nb : Int) - 2) = ((nb - 2 : Nat) : Int)) := hid (by rw [IntWalk.i64_in _ ⟨by omega, by omega⟩]; omega)
  have HQ := hid (show nb - 2 < 60000 by omega)
  have HNN := hid hn
  have H2 := hid (And.intro hP2 (And.intro ho2 (And.intro hB12 (And.intro (show g0 < g1 by omega) (And.intro (heap_lt hP2) (And.intro hn1 hg0))))))
  have HMK := hid hmk
  have HBX := hid hbx
  rw [hg0]
  clear h0 h1 hn hn1 hn2 hmk ho1 hB1 hz1 hg1 hbx hB2 hP2 ho2 hB12 hg0
  go_enter Tryz.func33, Tryz.ntmps33
  go_upto_region 1 with fail
  refine wp_region_lit ?_
  refine wp_y (v := .int .i64 nb) rfl rfl (y_move rfl) rfl ?_
  refine wp_y (v := .int .i64 ((nb - 2 : Nat) : Int)) rfl rfl (y_bin (k := .i64) (k' := .i64) (m := nb) (n := 2) rfl (by kernel_rfl) (by kernel_rfl) (by kernel_rfl) (qsub _ _ _ HSUB.out)) rfl ?_
  refine wp_y (v := .int .i64 (n : Nat)) rfl rfl (y_bin (k := .i64) (k' := .i64) (m := ((nb - 2 : Nat) : Int)) (n := 8) rfl (by kernel_rfl) (by kernel_rfl) (by kernel_rfl) (by have := qquo8 (nb - 2) (by have := HQ.out; omega); rw [HNN.out] at this; exact this)) rfl ?_
  refine wp_run (v := .slice (some ⟨g0, 0, none⟩) n n) rfl rfl (run_mkOp rfl (by kernel_rfl) (by kernel_rfl) HMK.out) rfl ?_
  refine wp_run (v := Rs (.slice (some ⟨g0, 0, none⟩) n n) (-1)) rfl rfl (run_buildOp rfl (by kernel_rfl) (rbuild93 _ _ _ _ _)) rfl ?_
  refine wp_run (v := .agg #[.slice (some ⟨g0, 0, none⟩) n n, .int .i64 (-1), .slice none 0 0, .int .i64 0, .bool false]) rfl rfl (run_buildOp rfl (by kernel_rfl) (rbuild95 _ _ _ _ _)) rfl ?_
  refine wp_run (v := .pointer (some ⟨g1, 0, none⟩)) rfl rfl (run_boxOp rfl (by kernel_rfl) HBX.out) rfl ?_
  refine wp_y (v := .pointer (some ⟨g1, 0, none⟩)) rfl rfl (y_assign rfl) rfl ?_
  try simp only [List.setIfInBounds_toArray, List.set_cons_zero, List.set_cons_succ]
  refine wp_end ?_
  go_upto_region 2 with fail
  refine wp_region_lit ?_
  refine wp_y (v := .pointer (some ⟨g1, 0, none⟩)) rfl rfl (y_move rfl) rfl ?_
  refine wp_y (v := .pointer (some ⟨g1, 0, none⟩)) rfl rfl (y_move rfl) rfl ?_
  refine wp_y (v := .pointer (some ⟨g1, 0, none⟩)) rfl rfl (y_nil rfl) rfl ?_
  refine wp_y (v := .pointer (some ⟨g1, 0, none⟩)) rfl rfl (y_faddr rfl (hf := fa95_0 (g1))) rfl ?_
  refine wp_y (v := Rs (.slice (some ⟨g0, 0, none⟩) n n) (-1)) rfl rfl (y_load rfl (hl := fun w' h => by rw [h]; exact HLD.out)) rfl ?_
  refine wp_call (f := 43) (args := #[Rs (.slice (some ⟨g0, 0, none⟩) n n) (-1)]) (by kernel_rfl) (fun w => by go_simp) ?_
  refine HCL.out.mono ?_
  rintro e w3 ⟨vw, rfl, ho3, hB3⟩
  refine ⟨_, rfl, ?_⟩
  have h2 := H2.out
  have hP3 := below_at hB3 h2.1 (heap_lt h2.1)
  have hop3 := owns_below2 h2.2.1 hB3
  obtain ⟨gv, cv, rfl⟩ : ∃ g c, vw = .slice (some ⟨g, 0, none⟩) n c := by
    rcases ho3.2 with ⟨_, h0⟩ | ⟨g, cap, cur, e, _⟩
    · have := h2.2.2.2.2.2.1; omega
    · exact ⟨g, cap, e⟩
  have hvl := (ho3.lt gv rfl).1
  have hst := rstore95 hP3 (.slice (some ⟨gv, 0, none⟩) n cv) rfl (-1)
  have hF4 := Fr.setRow w3 g1 #[.slice (some ⟨g0, 0, none⟩) n n, .int .i64 (-1), .slice (some ⟨gv, 0, none⟩) n cv, .int .i64 (-1), .bool false]
  have hP4 : (w3.setRow g1 #[.slice (some ⟨g0, 0, none⟩) n n, .int .i64 (-1), .slice (some ⟨gv, 0, none⟩) n cv, .int .i64 (-1), .bool false]).heap[g1]? = some (.cells #[.slice (some ⟨g0, 0, none⟩) n n, .int .i64 (-1), .slice (some ⟨gv, 0, none⟩) n cv, .int .i64 (-1), .bool false] 95 (0, 0)) := setRow_heap w3 g1 _ _ _ _ hP3
  have hx : ∀ g c, w3.heap[g]? = some (.cells c 148 (0, 0)) → g ∉ [g1] := fun g c hg hm => by
    obtain rfl : g = g1 := by simpa using hm
    rw [hP3] at hg
    injection hg with hg
    injection hg with _ e
    exact absurd e (by decide)
  have hop4 := owns_fr hop3 hF4 hx
  have how4 := owns_fr ho3 hF4 hx
  generalize w3.setRow g1 #[.slice (some ⟨g0, 0, none⟩) n n, .int .i64 (-1), .slice (some ⟨gv, 0, none⟩) n cv, .int .i64 (-1), .bool false] = w4 at *
  have hsp : Sp w4 (List.replicate n none) (List.replicate n none) := ⟨by simp, fun i => ⟨fun h => by rw [List.getElem?_replicate] at h ⊢; by_cases hi : i < n <;> simp [hi] at h ⊢, fun a h => by rw [List.getElem?_replicate] at h; by_cases hi : i < n <;> simp [hi] at h⟩⟩
  have hs2 : g0 ≤ w2.heap.size := by have := h2.2.2.1.size; have := h2.2.2.2.2.2.2; omega
  have HZ : Hid (∃ r, g0 ≤ r ∧ Ending.returned (.pointer (some ⟨g1, 0, none⟩)) = .returned (.pointer (some ⟨r, 0, none⟩)) ∧ Rp (fun _ => False) w4 g0 r (List.replicate n none) (List.replicate n none) (-1) (-1) false ∧ Below g0 w w4) := hid ⟨g1, by have := h2.2.2.2.1; omega, rfl, ⟨⟨by have := h2.2.2.2.1; omega, fun h => h⟩, _, _, List.replicate n none, List.replicate n none, hP4, by rw [List.length_replicate, List.map_replicate]; exact hop4, by rw [List.length_replicate, List.map_replicate]; exact owns_mono how4 hs2, hsp, hsp, ⟨fun g hg hg2 => by
      have e1 : g0 = g := by simpa [Value.ownBlock] using hg
      have e2 : gv = g := by simpa [Value.ownBlock] using hg2
      have := h2.2.2.2.2.1
      omega, fun _ _ h => h⟩⟩, (h2.2.2.1.trans (hB3.mono hs2)).trans (hF4.below (by have := hB3.size; omega) (by have := h2.2.2.2.1; simp; omega))⟩
  have HST := hid hst
  clear h2 hP3 hop3 hvl hst hF4 hP4 hx hop4 how4 hsp hs2 ho3 hB3 HCL H2 HLD
  dsimp only [Act.put]
  refine wp_y (v := .pointer (some ⟨g1, 0, none⟩)) rfl rfl (y_nil rfl) rfl ?_
  refine wp_y (v := .pointer (some ⟨g1, 2, none⟩)) rfl rfl (y_faddr rfl (hf := fa95_1 (g1))) rfl ?_
  try simp only [List.setIfInBounds_toArray, List.set_cons_zero, List.set_cons_succ]
  refine wp_do rfl rfl (run_storeOp rfl (by kernel_rfl) (by kernel_rfl) HST.out) ?_
  try simp only [List.setIfInBounds_toArray, List.set_cons_zero, List.set_cons_succ]
  refine wp_end ?_
  go_wp2_with fail
  go_ret
  exact HZ.out
end Go.Proofs.YtcmgclkbhhdnaaaGreatDoor
namespace Go.Proofs.YtcmgclkbhhdnaaaGreatDoor
open Go Go.RowKit

theorem results_tmp4 {fn : Func} {t u v x : Tmp} (h : fn.results = #[.tmp t, .tmp u, .tmp v, .tmp x]) (tmps : Array Value) (P : Program) (w : World) :
    (results fn tmps).run P w = .ok (.tuple #[tmps.getD t undef, tmps.getD u undef, tmps.getD v undef, tmps.getD x undef]) w := by
  simp [results, h]
theorem Pv.mono {B B' : Nat} {w : World} {p j d : Nat} {s : DS} {sq : Nat} {bl : List (List UInt8)} {cur was : Pgs} {rt wr : Int} (h : Pv B w p j d s sq bl cur was rt wr) (hB : B' ≤ B) (ht : 0 < B') : Pv B' w p j d s sq bl cur was rt wr := by
  obtain ⟨X, cnt, bg, um, bm, u, g, h⟩ := h
  exact ⟨X, cnt, bg, um, bm, u, g, { h with js := ⟨h.js.jr, fun k hk => Nat.le_trans hB (h.js.lo k hk), Nat.le_trans hB h.js.jlo⟩, lo := Nat.le_trans hB h.lo, mlo := fun m hm => Nat.le_trans hB (h.mlo m hm), tb := ht, Bw := Nat.le_trans hB h.Bw }⟩
/-- How many pages a disk of so many sectors has. -/
def pgOf (n : Nat) : Nat := (nbOf n - 2) / 8
/-- What begun leaves. -/
def Bgn (w : World) (n : Nat) (e : Ending) (w' : World) : Prop :=
  ∃ d j p r s bl, e = .returned (.tuple #[.pointer (some ⟨d, 0, none⟩), .pointer (some ⟨j, 0, none⟩), .pointer (some ⟨p, 0, none⟩), .pointer (some ⟨r, 0, none⟩)]) ∧ Pv w.heap.size w' p j d s 1 bl (List.replicate (pgOf n) none) (List.replicate (pgOf n) none) (-1) (-1) ∧ s.n = n ∧ s.cut = -1 ∧ s.ops ≤ ((2 * nbOf n + 11 : Nat) : Int) ∧ Rp (fun _ => False) w' w.heap.size r (List.replicate (pgOf n) none) (List.replicate (pgOf n) none) (-1) (-1) false ∧ Below w.heap.size w w'
theorem head_laid (bl : List (List UInt8)) (hb : 2 ≤ bl.length) (hd : List UInt8) (hl : hd.length = 224) : cat (layAll bl (wsOf [0, 1] [hp hd 0, hp hd 1])) 0 2 = hd := by
  have h := (commit_math (bl := bl) (g := fun _ => none) (ks := []) (hd := hd) (n := (bl.length - 2) / 8) hl rfl hb List.nodup_nil (fun k => by simp) (fun k hk => by cases hk) (fun k c hc => by cases hc)).2.1
  exact h
set_option maxRecDepth 100000 in
set_option maxHeartbeats 2000000 in
theorem begun_any (c : Int) (h0 : -9223372036854775808 ≤ c) (h1 : c ≤ 9223372036854775807) (w : World) (ht : Tab w) : Calls Tryz.prog 11 #[.int .i64 c] w (Bgn w (32 + pk c 300)) := by
  have hpk := pk_lt c (n := 300) (by decide)
  have HPK := hid (pick_any c 300 h0 h1 (by decide) w)
  obtain ⟨n, hn⟩ : ∃ n, 32 + pk c 300 = n := ⟨_, rfl⟩
  have HN := hid (new_d w n (by omega) (by omega))
  have hadd : IntKind.i64.wrap (32 + ((pk c 300 : Nat) : Int)) = (n : Int) := by rw [IntWalk.i64_in _ ⟨by omega, by omega⟩]; omega
  have HT := hid ht
  have H0 : Hid (32 ≤ n ∧ n ≤ 331) := hid (by omega)
  have HTL := hid (tab_lt ht)
  rw [hn]
  generalize pk c 300 = q at *
  clear ht h0 h1 hpk hn
  go_enter Tryz.func11, Tryz.ntmps11
  go_wp2_with fail
  refine HPK.out.mono ?_
  rintro e wp ⟨rfl, hwp⟩
  obtain rfl := hwp.symm
  clear HPK
  go_wp2_with fail
  refine HN.out.mono ?_
  rintro e w1 ⟨d, X1, rfl, hD1, hX1, hB1⟩
  have hnot : ∀ {X : List Nat}, (∀ k ∈ X, w.heap.size ≤ k) → 0 ∉ X := fun h hm => by
    have h2 := h _ hm
    have h3 := HTL.out
    omega
  have hnb : nbOf n < 8192 := by have := H0.out; unfold nbOf; omega
  have HF := hid (format_rest hD1 (HT.out.below hB1) rfl (show 32 ≤ (DS.new n).n from H0.out.1) rfl (by show (0 : Int) + _ ≤ _; show (0 : Int) + ((2 * nbOf n + 3 : Nat) : Int) ≤ 1048576; omega) (hnot hX1))
  have HB1 := hid hB1
  have HX1 := hid hX1
  clear hD1 hB1 hX1 HN hnb hadd
  go_wp2_with fail
  refine HF.out.mono ?_
  rintro e w2 ⟨rfl, s2, X2, hD2, hT2, hS2, h21, h22, h23, hX2, hF2⟩
  have hB2 : Below w.heap.size w w2 := HB1.out.trans (hF2.below HB1.out.size HX1.out)
  have hX2' : ∀ k ∈ X2, w.heap.size ≤ k := fun k hk => by
    rcases hX2 k hk with h | h
    · exact HX1.out k h
    · exact Nat.le_trans HB1.out.size h
  have HO := hid (open_first hD2 hT2 hS2 (hnot hX2'))
  have HB2 := hid hB2
  have HX2 := hid hX2'
  have HS := hid (show s2.n = n ∧ s2.cut = -1 ∧ s2.ops = ((2 * nbOf n + 3 : Nat) : Int) from ⟨h21, h22, by rw [h23]; show (0 : Int) + _ = _; rw [Int.zero_add]; rfl⟩)
  clear hD2 hT2 hS2 h21 h22 h23 hX2 hF2 hB2 hX2' HB1 HX1 HF hnot
  go_wp2_with fail
  refine HO.out.mono ?_
  rintro e w3 ⟨j, X3, hj, rfl, hJ3, hX3, hF3⟩
  have hB3 : Below w.heap.size w w3 := HB2.out.trans (hF3.below HB2.out.size HX2.out)
  have hX3' : ∀ k ∈ X3, w.heap.size ≤ k := fun k hk => by
    rcases hX3 k hk with h | h
    · exact HX2.out k h
    · exact Nat.le_trans HB2.out.size h
  have hj' : w.heap.size ≤ j := Nat.le_trans HB2.out.size hj
  have hs2 := HS.out
  have hJs : Js w.heap.size w3 j d X3 s2 0 0 (zeros (nbOf n)) := ⟨hJ3, hs2.2.1, hX3', hj'⟩
  have h0n := H0.out
  have hnb : nbOf n ≤ 200 := by unfold nbOf; omega
  have HPF := hid (pformat_any hJs hB3.size (by decide) (by rw [hs2.1, hs2.2.2]; omega) (n := pgOf n) (by rw [hs2.1]; rfl))
  have HB3 := hid hB3
  clear hj hJ3 hX3 hF3 hB3 hX3' HO HB2 HX2 hj' hs2 hJs h0n hnb
  go_wp2_with fail
  refine HPF.out.mono ?_
  rintro e w4 ⟨rfl, s4, X4, cnt4, hJ4, hn4, ho4a, ho4, hB4, _⟩
  have hs2 := HS.out
  have hzl : (zeros (nbOf n)).length = nbOf n := by simp [zeros]
  have h15 : 15 ≤ nbOf n ∧ nbOf n ≤ 200 := by have := H0.out; unfold nbOf; omega
  have htk : tk (List.replicate (pgOf n) none) = List.replicate (pgOf n) false := by simp [tk]
  have HPO := hid (open_head hJ4.jc (was := List.replicate (pgOf n) none) (wr := -1) (by rw [head_laid _ (by rw [hzl]; omega) _ (hdOf_len _ _), htk]; rfl) (by rw [layAll_len, hzl, List.length_replicate]; rfl) (.inl rfl) (fun i c hi => by rw [List.getElem?_replicate] at hi; split at hi <;> simp at hi) HTL.out (Nat.le_trans HB3.out.size hB4.size))
  have HB4 := hid (HB3.out.trans hB4)
  have H4 : Hid (s4.n = n ∧ s4.ops ≤ ((2 * nbOf n + 11 : Nat) : Int) ∧ (15 ≤ nbOf n ∧ nbOf n ≤ 200) ∧ s4.cut = -1) := hid ⟨hn4.trans hs2.1, by rw [hs2.2.2] at ho4; omega, h15, hJ4.cut⟩
  clear hJ4 hn4 ho4a ho4 hB4 hs2 hzl h15 htk HPF HB3 HS HT
  go_wp2_with fail
  refine HPO.out.mono ?_
  rintro e w5 ⟨p, hp5, rfl, hP5, hB5⟩
  have hBk : ∃ cnt5 X5, Jc w.heap.size w5 j d X5 s4 1 cnt5 (layAll (zeros (nbOf n)) (wsOf [0, 1] [hp (hdOf (List.replicate (pgOf n) false) 0) 0, hp (hdOf (List.replicate (pgOf n) false) 0) 1])) := by
    obtain ⟨X, cnt, bg, um, bm, u, g, h⟩ := hP5
    exact ⟨cnt, X, h.js⟩
  obtain ⟨cnt5, X5, hJ5⟩ := hBk
  have hjb := jblocks_any hJ5.jr.jn
  rw [H4.out.1] at hjb
  have HJB := hid hjb
  have HRB := hid (refBegun_any (nbOf n) (pgOf n) (by have := H4.out; omega) (by have := H4.out; omega) rfl w5)
  have HP5 := hid hP5
  have HB5 : Hid (Below w.heap.size w w5 ∧ w.heap.size ≤ w5.heap.size) := hid ⟨HB4.out.trans (hB5.mono HB4.out.size), Nat.le_trans HB4.out.size hB5.size⟩
  clear hp5 hP5 hB5 hJ5 hjb HPO HB4
  go_wp2_with fail
  refine HJB.out.mono ?_
  rintro e wb ⟨rfl, hwb⟩
  obtain rfl := hwb.symm
  clear HJB
  go_wp2_with fail
  refine HRB.out.mono ?_
  rintro e w6 ⟨r, hr, rfl, hR, hB6⟩
  have hRR : Rp (fun _ => False) w6 w.heap.size r (List.replicate (pgOf n) none) (List.replicate (pgOf n) none) (-1) (-1) false := by
    obtain ⟨h1, vp, vw, al, be, h2, h3, h4, h5⟩ := hR
    exact ⟨⟨Nat.le_trans HB5.out.2 h1.1, h1.2⟩, vp, vw, al, be, h2, owns_mono h3 HB5.out.2, owns_mono h4 HB5.out.2, h5⟩
  have HZ : Hid (Bgn w n (.returned (.tuple #[.pointer (some ⟨d, 0, none⟩), .pointer (some ⟨j, 0, none⟩), .pointer (some ⟨p, 0, none⟩), .pointer (some ⟨r, 0, none⟩)])) w6) := hid ⟨d, j, p, r, s4, _, rfl, HP5.out.below hB6, H4.out.1, H4.out.2.2.2, H4.out.2.1, hRR, HB5.out.1.trans (hB6.mono HB5.out.2)⟩
  clear hr hR hB6 hRR HRB HP5 HB5 H4
  go_wp2_with fail
  try simp only [Exit.inBlock, Exit.then]
  refine bodyPost_ret (results_tmp4 rfl _ _ _) rfl ?_
  exact HZ.out
end Go.Proofs.YtcmgclkbhhdnaaaGreatDoor
namespace Go.Proofs.YtcmgclkbhhdnaaaGreatDoor
open Go Go.RowKit

theorem begun28 : List.replicate (pgOf (32 + pk 28 300)) (none : Option (List UInt8)) = [none, none, none] := by
  have h : pgOf (32 + pk 28 300) = 3 := by decide
  rw [h]; rfl
set_option maxRecDepth 100000 in
set_option maxHeartbeats 2000000 in
theorem shown_any (w : World) (ht : Tab w) : Calls Tryz.prog 9 #[] w fun e w' => e = .returned (.bool true) ∧ Below w.heap.size w w' := by
  have HB := hid (begun_any 28 (by decide) (by decide) w ht)
  obtain ⟨B, hBB⟩ : ∃ B, w.heap.size = B := ⟨_, rfl⟩
  rw [hBB]
  clear ht
  go_enter Tryz.func9, Tryz.ntmps9
  go_wp2_with fail
  refine HB.out.mono ?_
  rintro e w1 ⟨d, j, p, r, s, bl, rfl, hP, hn, hcut, ho, hR, hB1⟩
  clear hR HB
  rw [begun28] at hP
  have e60 : 32 + pk 28 300 = 60 := by decide
  rw [e60] at hn ho
  have hnb : nbOf 60 = 29 := by decide
  rw [hnb] at ho
  rw [hBB] at hP hB1
  have H1 : Hid (Pv B w1 p j d s 1 bl [none, none, none] [none, none, none] (-1) (-1) ∧ s.n = 60 ∧ s.ops ≤ 69 ∧ Below B w w1 ∧ s.cut = -1) := hid ⟨hP, hn, by omega, hB1, hcut⟩
  have HPG : Hid (Calls Tryz.prog 29 #[.pointer (some ⟨p, 0, none⟩)] w1 fun e w' => e = .returned (.int .i64 3) ∧ w' = w1) := hid hP.pages
  have HLF : Hid (Calls Tryz.prog 26 #[.pointer (some ⟨p, 0, none⟩)] w1 fun e w' => e = .returned (.int .i64 3) ∧ w' = w1) := hid hP.left
  have HRT := hid hP.root
  have HAL : Hid (Calls Tryz.prog 22 #[.pointer (some ⟨p, 0, none⟩)] w1 fun e w' => e = .returned (.tuple #[.int .i64 0, .int .i64 0]) ∧ Aft B w1 w' p j d s 1 bl [some z896, none, none] [none, none, none] (-1) (-1)) := hid (hP.alloc 0 rfl (fun i hi => by omega))
  clear hP hn ho hB1 hnb e60 hcut
  go_wp2_with fail
  refine HPG.out.mono ?_
  rintro e wz ⟨rfl, hwz⟩
  obtain rfl := hwz.symm
  clear HPG
  go_wp2_with fail
  refine HLF.out.mono ?_
  rintro e wz ⟨rfl, hwz⟩
  obtain rfl := hwz.symm
  clear HLF
  go_wp2_with fail
  refine HRT.out.mono ?_
  rintro e wz ⟨rfl, hwz⟩
  obtain rfl := hwz.symm
  clear HRT
  go_wp2_with fail
  refine HAL.out.mono ?_
  rintro e w2 ⟨rfl, hP2, hB2, _⟩
  have HSR : Hid (Calls Tryz.prog 38 #[.pointer (some ⟨p, 0, none⟩), .int .i64 0] w2 fun e w' => e = .returned (.int .i64 0) ∧ Aft B w2 w' p j d s 1 bl [some z896, none, none] [none, none, none] 0 (-1)) := hid (hP2.setRoot 0 z896 rfl)
  have HB2 := hid (H1.out.2.2.2.1.trans hB2)
  clear hP2 hB2 HAL
  go_wp2_with fail
  refine HSR.out.mono ?_
  rintro e w3 ⟨rfl, hP3, hB3, _⟩
  have h1 := H1.out
  have hnb : nbOf s.n = 29 := by rw [h1.2.1]; decide
  have HCM := hid (hP3.commit h1.2.2.2.2 (by decide) (by rw [hnb]; omega))
  have HB3 := hid (HB2.out.trans hB3)
  clear hP3 hB3 HSR h1 hnb H1 HB2
  go_wp2_with fail
  refine HCM.out.mono ?_
  rintro e w4 ⟨rfl, s', sq', bl', ⟨hP4, hB4, _⟩, _⟩
  have HFR : Hid (Calls Tryz.prog 27 #[.pointer (some ⟨p, 0, none⟩), .int .i64 0] w4 fun e w' => e = .returned (.int .i64 2) ∧ w' = w4) := hid (hP4.freeRoot 0 z896 rfl rfl)
  have HFN : Hid (Calls Tryz.prog 27 #[.pointer (some ⟨p, 0, none⟩), .int .i64 1] w4 fun e w' => e = .returned (.int .i64 81) ∧ w' = w4) := hid (hP4.freeNone 1 (.inr rfl))
  have HOP := hid hP4.open
  have HB4 := hid (HB3.out.trans hB4)
  clear hP4 hB4 HCM HB3
  go_wp2_with fail
  refine HFR.out.mono ?_
  rintro e wz ⟨rfl, hwz⟩
  obtain rfl := hwz.symm
  clear HFR
  go_wp2_with fail
  refine HFN.out.mono ?_
  rintro e wz ⟨rfl, hwz⟩
  obtain rfl := hwz.symm
  clear HFN
  go_wp2_with fail
  refine HOP.out.mono ?_
  rintro e w5 ⟨p2, _, rfl, hP5, hB5⟩
  have HLF : Hid (Calls Tryz.prog 26 #[.pointer (some ⟨p2, 0, none⟩)] w5 fun e w' => e = .returned (.int .i64 2) ∧ w' = w5) := hid hP5.left
  have HRT := hid hP5.root
  have HZ : Hid (Below B w w5) := hid (HB4.out.trans (hB5.mono (by have := HB4.out.size; omega)))
  clear hP5 hB5 HOP HB4 hBB
  go_wp2_with fail
  refine HRT.out.mono ?_
  rintro e wz ⟨rfl, hwz⟩
  obtain rfl := hwz.symm
  clear HRT
  go_wp2_with fail
  refine HLF.out.mono ?_
  rintro e wz ⟨rfl, hwz⟩
  obtain rfl := hwz.symm
  clear HLF
  go_wp2_with fail
  go_ret
  exact ⟨rfl, HZ.out⟩
end Go.Proofs.YtcmgclkbhhdnaaaGreatDoor
