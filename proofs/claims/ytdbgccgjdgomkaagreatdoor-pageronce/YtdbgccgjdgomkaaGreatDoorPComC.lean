/- Commit. -/
import Derived.Test.YtdbgccgjdgomkaaGreatDoorPOpenC
namespace Go.Proofs.YtdbgccgjdgomkaaGreatDoor
open Go Go.RowKit

/-- The blocks of pages, and their bytes, as they are written. -/
def pz (ks : List Int) : List Int := ks.flatMap fun k => seqZ (2 + k * 8) 8
def pp (g : Int → Option (List UInt8)) (ks : List Int) : List (List UInt8) := ks.flatMap fun k => (List.range 8).map (hp (cget g k))
theorem pz_snoc (ks : List Int) (k : Int) : pz (ks ++ [k]) = pz ks ++ seqZ (2 + k * 8) 8 := by simp [pz]
theorem pp_snoc (g : Int → Option (List UInt8)) (ks : List Int) (k : Int) : pp g (ks ++ [k]) = pp g ks ++ (List.range 8).map (hp (cget g k)) := by simp [pp]
theorem pz_len (ks : List Int) : (pz ks).length = 8 * ks.length := by
  induction ks with
  | nil => rfl
  | cons k r ih =>
    have : pz (k :: r) = seqZ (2 + k * 8) 8 ++ pz r := by simp [pz]
    rw [this, List.length_append, seqZ_len, ih, List.length_cons]; omega
theorem pp_len (g : Int → Option (List UInt8)) (ks : List Int) : (pp g ks).length = 8 * ks.length := by
  induction ks with
  | nil => rfl
  | cons k r ih =>
    have : pp g (k :: r) = (List.range 8).map (hp (cget g k)) ++ pp g r := by simp [pp]
    rw [this, List.length_append, List.length_map, List.length_range, ih, List.length_cons]; omega
theorem owns_keep {w w' : World} {B : Nat} {t : TypeId} {g n c : Nat} {xs : List Value} (h : w.ownsRow B t 1 (.slice (some ⟨g, 0, none⟩) n c) n xs) (hk : w'.heap[g]? = w.heap[g]?) : w'.ownsRow B t 1 (.slice (some ⟨g, 0, none⟩) n c) n xs := by
  refine ⟨h.1, ?_⟩
  rcases h.2 with h2 | ⟨g', cap, cur, e, hb, hg, r2⟩
  · exact .inl h2
  · injection e with e1 e2 e3
    injection e1 with e1
    injection e1 with e1
    subst e1
    exact .inr ⟨g, cap, cur, by rw [e3], hb, hk.trans hg, r2⟩
theorem Sb.ot {w w' : World} {g : Nat} {l : List Bool} {kl kr : Int} (h : Sb w g l kl kr) (hO : Ot2 w w') : Sb w' g l kl kr := hO.block _ _ h (fun c e => by injection e with _ e2; exact absurd e2 (by decide)) (fun c e => by injection e with _ e2; exact absurd e2 (by decide))
theorem Kp.pg {w w' : World} (hK : Kp w w') {p j : Nat} {l : List Bool} {kl kr : Int} {bg : Bool} {lf rt : Int} {um bm : Option Nat} {off : Int} (h : Pg w p j l kl kr bg lf rt um bm off) : Pg w' p j l kl kr bg lf rt um bm off := ⟨h.1, hK.block _ _ _ _ h.2 (by decide) (by decide) (by decide)⟩
theorem Kp.sb {w w' : World} (hK : Kp w w') {g : Nat} {l : List Bool} {kl kr : Int} (h : Sb w g l kl kr) : Sb w' g l kl kr := hK.block _ _ _ _ h (by decide) (by decide) (by decide)
theorem pcommit_nil (w : World) : Calls Tryz.prog 20 #[.pointer none] w fun e w' => e = .returned (.int .i64 1) ∧ w' = w := by
  have HR := hid (ready_nil w)
  go_enter Tryz.func20, Tryz.ntmps20
  go_wp2_with fail
  refine HR.out.mono ?_
  rintro e w1 ⟨rfl, hw1⟩
  obtain rfl := hw1.symm
  clear HR
  go_wp2
  go_ret
  exact ⟨rfl, rfl⟩
theorem pcommit_idle {w : World} {p j : Nat} {l : List Bool} {kl kr : Int} {lf rt : Int} {um bm : Option Nat} (h : Pg w p j l kl kr false lf rt um bm 0) : Calls Tryz.prog 20 #[.pointer (some ⟨p, 0, none⟩)] w fun e w' => e = .returned (.int .i64 0) ∧ w' = w := by
  have HR := hid (ready_any h)
  have c0 := h.cbg
  clear h
  go_enter Tryz.func20, Tryz.ntmps20
  go_wp2_with fail
  refine HR.out.mono ?_
  rintro e w1 ⟨rfl, hw1⟩
  obtain rfl := hw1.symm
  clear HR
  go_wp2
  go_ret
  exact ⟨rfl, rfl⟩
set_option maxRecDepth 100000 in
set_option maxHeartbeats 4000000 in
theorem pcommit_any {w : World} {p j : Nat} {l : List Bool} {kl kr : Int} {lf rt : Int} {um bm : Option Nat} {u : Int → Option Bool} {g : Int → Option (List UInt8)} (h : PM w p j l kl kr true lf rt um bm 0 u g) {kb : List Int} (hb : Mo w bm kb (gV g)) {r : Nat} (hr : rt + 1 = (r : Int)) (hr2 : r < 65536) (R1 R2 : World → Prop)
    (hwr : ∀ w5 va vb, Below w.heap.size w w5 → Iz w5 va ([0, 1] ++ pz (sorted kb)) → Bz w5 vb ([hp (hdOf (ovl l u) r) 0, hp (hdOf (ovl l u) r) 1] ++ pp g (sorted kb)) → Calls Tryz.prog 58 #[.pointer (some ⟨j, 0, none⟩), va, vb] w5 fun e w' => Kp w5 w' ∧ ((e = .returned (.int .i64 0) ∧ R1 w') ∨ (e = .returned (.int .i64 43) ∧ R2 w'))) :
    Calls Tryz.prog 20 #[.pointer (some ⟨p, 0, none⟩)] w fun e w' => ∃ w6, Fr [p] w6 w' ∧ ((e = .returned (.int .i64 0) ∧ R1 w6 ∧ Pg w' p j (ovl l u) lf rt false lf rt none none 0) ∨ (e = .returned (.int .i64 43) ∧ R2 w6 ∧ Pg w' p j l kl kr true lf rt um bm 43)) := by
  obtain ⟨B, hB⟩ : ∃ B, w.heap.size = B := ⟨_, rfl⟩
  obtain ⟨zs, hzs⟩ : ∃ zs, sorted kb = zs := ⟨_, rfl⟩
  have hl := h.pg.1
  have hkb : ∀ k ∈ kb, 0 ≤ k ∧ k < 1023 := fun k hk => by
    have h1 := h.kb k ((gV_none g k).1 ((hb.mem k).1 hk))
    omega
  have hkl : kb.length ≤ 1023 := nd_len 1023 kb hb.nd (fun k hk => hkb k hk)
  obtain ⟨lo, hlo⟩ : ∃ lo, ovl l u = lo := ⟨_, rfl⟩
  have hll : lo.length ≤ 1023 := by rw [← hlo, ovl_len]; exact hl
  have HWI : Hid (∀ W, Below B w W → Calls Tryz.prog 51 #[St l kl kr, Ch true lf rt um bm] W fun e w' => e = .returned (St lo lf rt) ∧ Below W.heap.size W w') := hid (fun W hW => by
    obtain ⟨ku, hu⟩ := h.mu
    have hku : ∀ k, k ∈ ku ↔ u k ≠ none := fun k => (hu.mem k).trans (uV_none u k)
    have hkk : ∀ k ∈ ku, 0 ≤ k ∧ k < l.length := fun k hk => h.kd k ((hku k).1 hk)
    rw [← hlo]
    exact with_any l kl kr true lf rt um bm ku u hl W (hu.below (by rw [hB]; exact hW)) hkk hku (by have := nd_len l.length ku hu.nd hkk; omega))
  rw [hzs, hlo, hB] at hwr
  rw [hlo]
  have HHW : Hid (∀ W, Calls Tryz.prog 52 #[St lo lf rt] W fun e w' => ∃ va vb g, e = .returned (.tuple #[va, vb]) ∧ Ats w' W.heap.size va [0, 1] ∧ Bq w' W.heap.size vb [⟨g, 70, 0, hdOf lo r⟩, ⟨g, 70, 1, hdOf lo r⟩] ∧ Below W.heap.size W w') := hid (fun W => htw_any lo lf rt hll r hr hr2 W)
  have HPK : Hid (∀ W, Below B w W → Calls Tryz.prog 53 #[.pointer (some ⟨p, 1031, none⟩)] W fun e w' => ∃ v, e = .returned v ∧ Ats w' W.heap.size v zs ∧ Below W.heap.size W w') := hid (fun W hW => by
    have hW' : Below w.heap.size w W := by rw [hB]; exact hW
    rw [← hzs]
    exact pages_keysC (h.below hW').pg.cbm (hb.below hW') hkb (by omega))
  have HGC : Hid (∀ W (k : Int), Below B w W → Calls Tryz.prog 54 #[.pointer (some ⟨p, 1031, none⟩), .int .i64 k] W fun e w' => e = .returned (.tuple #[V8 (cget g k), .bool (g k).isSome]) ∧ Below W.heap.size W w') := hid (fun W k hW => by
    have hW' : Below w.heap.size w W := by rw [hB]; exact hW
    exact get_con (h.below hW').pg.cbm (hb.below hW') h.gl k)
  have HPG : Hid (∀ W, Below B w W → Pg W p j l kl kr true lf rt um bm 0) := hid (fun W hW => h.pg.below (by rw [hB]; exact hW) h.pg.lt)
  have HCL : Hid (∀ k, (cget g k).length = 896) := hid (fun k => cget_len h.gl k)
  have HZB : Hid (∀ z ∈ zs, 0 ≤ z ∧ z < 1023) := hid (fun z hz => hkb z (by rw [← hzs, mem_sorted] at hz; exact hz))
  have hzl : zs.length ≤ 1023 := by rw [← hzs, sorted_len]; exact hkl
  have HZL := hid hzl
  have HR := hid (ready_any h.pg)
  have HWR := hid hwr
  have HLL := hid hll
  have HB := hid hB
  have c0 := h.pg.cbg
  clear h hb hr hr2 hwr hl hkb hkl hzs hlo hll hzl hB
  generalize hdOf lo r = hd at *
  go_enter Tryz.func20, Tryz.ntmps20
  go_wp2_with fail
  refine HR.out.mono ?_
  rintro e w1 ⟨rfl, hw1⟩
  obtain rfl := hw1.symm
  clear HR
  obtain ⟨wd, hwd⟩ : ∃ wd, w.drew = wd := ⟨_, rfl⟩
  have HWD := hid hwd
  have HS : Hid (Below B w wd) := hid (by rw [← hwd]; exact (Below.refl _ _).drew)
  clear hwd
  go_upto_region 6 with fail
  refine h_openL (S := fun w' => Below B w w') (by kernel_rfl) (by kernel_rfl) (fun _ _ _ _ _ h => h) (L := #[false, false, false, false, false, false, false, false, false, false, false]) (by kernel_rfl) ?_
  intro Q' hns hP hN
  have hS := HS.out
  rw [HWD.out]
  refine h_takeL (i := 0) (v := .pointer (some ⟨p, 0, none⟩)) hns rfl rfl (by kernel_rfl) (by kernel_rfl) hP (y_move rfl (by kernel_rfl) (by kernel_rfl)) hS rfl (L' := #[true, false, false, false, false, false, false, false, false, false, false]) (by kernel_rfl) ?_
  refine h_takeL (i := 1) (v := .pointer (some ⟨p, 0, none⟩)) hns rfl rfl (by kernel_rfl) (by kernel_rfl) hP (y_nil rfl (by kernel_rfl) (by kernel_rfl)) hS rfl (L' := #[true, true, false, false, false, false, false, false, false, false, false]) (by kernel_rfl) ?_
  refine h_takeL (i := 2) (v := .pointer (some ⟨p, 1, none⟩)) hns rfl rfl (by kernel_rfl) (by kernel_rfl) hP (y_faddr rfl (by kernel_rfl) (by kernel_rfl) (fa90_1 (p))) hS rfl (L' := #[true, true, true, false, false, false, false, false, false, false, false]) (by kernel_rfl) ?_
  refine h_takeL (i := 3) (v := St l kl kr) hns rfl rfl (by kernel_rfl) (by kernel_rfl) hP (y_load rfl (by kernel_rfl) (by kernel_rfl) (fun w' h => (HPG.out w' h).loadS)) hS rfl (L' := #[true, true, true, true, false, false, false, false, false, false, false]) (by kernel_rfl) ?_
  refine h_takeL (i := 4) (v := .pointer (some ⟨p, 0, none⟩)) hns rfl rfl (by kernel_rfl) (by kernel_rfl) hP (y_move rfl (by kernel_rfl) (by kernel_rfl)) hS rfl (L' := #[true, true, true, true, true, false, false, false, false, false, false]) (by kernel_rfl) ?_
  refine h_takeL (i := 5) (v := .pointer (some ⟨p, 0, none⟩)) hns rfl rfl (by kernel_rfl) (by kernel_rfl) hP (y_nil rfl (by kernel_rfl) (by kernel_rfl)) hS rfl (L' := #[true, true, true, true, true, true, false, false, false, false, false]) (by kernel_rfl) ?_
  refine h_takeL (i := 6) (v := .pointer (some ⟨p, 1027, none⟩)) hns rfl rfl (by kernel_rfl) (by kernel_rfl) hP (y_faddr rfl (by kernel_rfl) (by kernel_rfl) (fa90_2 (p))) hS rfl (L' := #[true, true, true, true, true, true, true, false, false, false, false]) (by kernel_rfl) ?_
  try simp only [List.setIfInBounds_toArray, List.set_cons_zero, List.set_cons_succ]
  refine h_takeL (i := 7) (v := Ch true lf rt um bm) hns rfl rfl (by kernel_rfl) (by kernel_rfl) hP (y_load rfl (by kernel_rfl) (by kernel_rfl) (fun w' h => (HPG.out w' h).loadC)) hS rfl (L' := #[true, true, true, true, true, true, true, true, false, false, false]) (by kernel_rfl) ?_
  try simp only [List.setIfInBounds_toArray, List.set_cons_zero, List.set_cons_succ]
  refine h_two (i := 8) (i2 := 9) (by kernel_rfl) rfl rfl (by kernel_rfl) (by kernel_rfl) ?_ ?_
  · refine o_call (i := 8) (f := 51) (args := #[St l kl kr, Ch true lf rt um bm]) rfl (enter_go rfl (by kernel_rfl) (fun w => by go_simp)) (L' := #[true, true, true, true, true, true, true, true, true, false, false]) (by kernel_rfl) ?_
    refine (HWI.out wd hS).mono ?_
    rintro e w6 ⟨rfl, hB6⟩
    have hS6 : Below B w w6 := hS.trans (hB6.mono (by have := hS.size; have := HB.out; omega))
    refine ⟨_, rfl, hS6, ?_⟩
    try simp only [List.setIfInBounds_toArray, List.set_cons_zero, List.set_cons_succ]
    have HSS := hid hS6
    clear hS hB6 hS6
    have hS := HSS.out
    clear HSS
    have hal := palloc76 w6
    have hBa : Below w6.heap.size w6 (w6.alloc (.cells (stC [] 0 0).toArray 76)) := (Below.refl _ _).alloc (Nat.le_refl _) _
    have hSb : Sb (w6.alloc (.cells (stC [] 0 0).toArray 76)) w6.heap.size [] 0 0 := heap_alloc_last w6 _
    generalize w6.alloc (.cells (stC [] 0 0).toArray 76) = wa at *
    obtain ⟨g4, hg4⟩ : ∃ g, w6.heap.size = g := ⟨_, rfl⟩
    rw [hg4] at hal hBa hSb
    have hGg : B ≤ g4 := by have := hS.size; have := HB.out; omega
    have hSa : Below B w wa := hS.trans (hBa.mono hGg)
    have HGG := hid hGg
    clear hGg hg4 hBa
    refine h_valL (i := 9) (v := .pointer (some ⟨g4, 0, none⟩)) (by kernel_rfl) rfl rfl (by kernel_rfl) (run_alOp rfl hal) hSa rfl (L' := #[true, true, true, true, true, true, true, true, true, true, false]) (by kernel_rfl) ?_
    try simp only [List.setIfInBounds_toArray, List.set_cons_zero, List.set_cons_succ]
    clear hS hal
    have hS := hSa
    clear hSa
    have hst := pstore76 (l := []) (kl := 0) (kr := 0) (by simp) HLL.out (kl' := lf) (kr' := rt) hSb
    have hS8 := hSb.row lo lf rt
    have hF8 := Fr.setRow wa g4 (stC lo lf rt).toArray
    generalize wa.setRow g4 (stC lo lf rt).toArray = w2 at *
    have hB8 : Below B w w2 := hS.trans (hF8.below (by have := hS.size; have := HB.out; omega) (by have := HGG.out; simp; omega))
    have H2 := hid (And.intro hS8 hB8)
    have HST := hid hst
    have HB8 := hid hB8
    clear hst hS8 hF8 hB8 hSb
    refine h_skipL (i := 10) (by kernel_rfl) rfl rfl (by kernel_rfl) (run_storeOp rfl (by kernel_rfl) (by kernel_rfl) HST.out) HB8.out (L' := #[true, true, true, true, true, true, true, true, true, true, true]) (by kernel_rfl) ?_
    try simp only [List.setIfInBounds_toArray, List.set_cons_zero, List.set_cons_succ]
    refine wpAnyH_done (by kernel_rfl) ?_ _
    refine hN _ _ ?_
    clear hP hN hns
    clear hS HST HB8 HGG HWI HS
    go_upto_region 7 with fail
    refine wp_region_lit ?_
    refine wp_y (v := St lo lf rt) rfl rfl (y_load rfl (by kernel_rfl) (by kernel_rfl) (fun w' h => by rw [h]; exact pload76 HLL.out H2.out.1)) rfl ?_
    refine wp_call (f := 52) (args := #[St lo lf rt]) (by kernel_rfl) (fun w => by go_simp) ?_
    refine (HHW.out w2).mono ?_
    rintro e w3 ⟨va, vb, gh, rfl, hA3, hQ3, hB3⟩
    refine ⟨_, rfl, ?_⟩
    have h2 := H2.out
    have hs2 : B ≤ w2.heap.size := by have := h2.2.size; have := HB.out; omega
    have hA3' : Ats w3 B va [0, 1] := owns_mono hA3 hs2
    have hQ3' : Bq w3 B vb [⟨gh, 70, 0, hd⟩, ⟨gh, 70, 1, hd⟩] := ⟨owns_mono hQ3.1 hs2, hQ3.2⟩
    have H3 : Hid (Ats w3 B va [0, 1] ∧ Bq w3 B vb [⟨gh, 70, 0, hd⟩, ⟨gh, 70, 1, hd⟩] ∧ Sb w3 g4 lo lf rt ∧ Below B w w3) := hid ⟨hA3', hQ3', h2.1.below hB3 (heap_lt h2.1), h2.2.trans (hB3.mono hs2)⟩
    clear h2 hs2 hA3 hQ3 hA3' hQ3' hB3
    dsimp only [Act.put]
    refine wp_y (v := .tuple #[va, vb]) rfl rfl (y_move rfl (by kernel_rfl) (by kernel_rfl)) rfl ?_
    refine wp_y (v := va) rfl rfl (y_ext rfl (by kernel_rfl) (by kernel_rfl) (ext2_0 (va) (vb))) rfl ?_
    refine wp_y (v := vb) rfl rfl (y_ext rfl (by kernel_rfl) (by kernel_rfl) (ext2_1 (va) (vb))) rfl ?_
    refine wp_y (v := va) rfl rfl (y_assign rfl (by kernel_rfl) (by kernel_rfl)) rfl ?_
    refine wp_y (v := vb) rfl rfl (y_assign rfl (by kernel_rfl) (by kernel_rfl)) rfl ?_
    try simp only [List.setIfInBounds_toArray, List.set_cons_zero, List.set_cons_succ]
    refine wp_end ?_
    go_upto_region 8 with fail
    refine wp_region_lit ?_
    refine wp_y (v := .pointer (some ⟨p, 0, none⟩)) rfl rfl (y_move rfl (by kernel_rfl) (by kernel_rfl)) rfl ?_
    refine wp_y (v := .pointer (some ⟨p, 0, none⟩)) rfl rfl (y_nil rfl (by kernel_rfl) (by kernel_rfl)) rfl ?_
    refine wp_y (v := .pointer (some ⟨p, 1027, none⟩)) rfl rfl (y_faddr rfl (by kernel_rfl) (by kernel_rfl) (fa90_2 (p))) rfl ?_
    refine wp_y (v := .pointer (some ⟨p, 1031, none⟩)) rfl rfl (y_faddr rfl (by kernel_rfl) (by kernel_rfl) (fg87_4 (p) (1027))) rfl ?_
    refine wp_call (f := 53) (args := #[.pointer (some ⟨p, 1031, none⟩)]) (by kernel_rfl) (fun w => by go_simp) ?_
    have h3 := H3.out
    refine (HPK.out w3 h3.2.2.2).mono ?_
    rintro e w4 ⟨v, rfl, hA4, hB4⟩
    obtain ⟨sa, sc, rfl⟩ := hA4.shape
    obtain ⟨m, hm⟩ : ∃ m, zs.length = m := ⟨_, rfl⟩
    obtain ⟨gK, hgK⟩ : ∃ g, w3.heap.size = g := ⟨_, rfl⟩
    have hs3 : B ≤ w3.heap.size := by have := h3.2.2.2.size; have := HB.out; omega
    rw [hm] at hA4
    have hne : ∀ ga, sa = some ⟨ga, 0, none⟩ → va.ownBlock ≠ some ga ∧ vb.ownBlock ≠ some ga := fun ga hga => by
      have hgl : w3.heap.size ≤ ga := by
        subst hga
        exact (hA4.lt ga rfl).1
      exact ⟨fun e => by have := (h3.1.lt ga e).2; omega, fun e => by have := (h3.2.1.1.lt ga e).2; omega⟩
    have H4 : Hid (Ats w4 B va ([0, 1] ++ pz (zs.take 0)) ∧ Bq w4 B vb [⟨gh, 70, 0, hd⟩, ⟨gh, 70, 1, hd⟩] ∧ Sb w4 g4 lo lf rt ∧ Ats w4 gK (.slice sa m sc) zs ∧ (∀ ga, sa = some ⟨ga, 0, none⟩ → va.ownBlock ≠ some ga ∧ vb.ownBlock ≠ some ga) ∧ Below B w w4) := hid ⟨h3.1.below hB4, h3.2.1.below hB4, h3.2.2.1.below hB4 (heap_lt h3.2.2.1), by rw [← hgK]; exact hA4, hne, h3.2.2.2.trans (hB4.mono hs3)⟩
    have HML : Hid (m ≤ 1023 ∧ zs.length = m) := hid ⟨by rw [← hm]; exact HZL.out, hm⟩
    refine ⟨_, rfl, ?_⟩
    rw [hm]
    clear h3 hA4 hB4 hgK hs3 hm hne H3
    dsimp only [Act.put]
    refine wp_y (v := .int .i64 m) rfl rfl (y_len43 (p := sa) (c := sc) rfl (by kernel_rfl) (by kernel_rfl)) rfl ?_
    refine wp_y (v := (.int .i64 0)) rfl rfl (y_move rfl (by kernel_rfl) (by kernel_rfl)) rfl ?_
    try simp only [List.setIfInBounds_toArray, List.set_cons_zero, List.set_cons_succ]
    refine wp_end ?_
    go_wp2_with fail
    go_loopw [43, 5, 6, 8, 9, 10] (fun y va vb _ _ _ wr => ∃ k : Nat, ∃ qs, k ≤ m ∧ y = .int .i64 k ∧ Ats wr B va ([0, 1] ++ pz (zs.take k)) ∧ Bq wr B vb qs ∧ qs.map Pq.by = [hp hd 0, hp hd 1] ++ pp g (zs.take k) ∧ Sb wr g4 lo lf rt ∧ Ats wr gK (.slice sa m sc) zs ∧ (∀ ga, sa = some ⟨ga, 0, none⟩ → va.ownBlock ≠ some ga ∧ vb.ownBlock ≠ some ga) ∧ Below B w wr) (fun y _ _ _ _ _ _ => m - (intOf y).toNat)
    case atStart => exact ⟨0, _, Nat.zero_le _, rfl, H4.out.1, H4.out.2.1, rfl, H4.out.2.2⟩
    case round =>
      clear H4 H2
      obtain ⟨k, qs, hk, rfl, hA, hQ, hby, hSb, hKy, hne, hBw⟩ := hrel
      have hml := HML.out
      by_cases hlt : k < m
      · have hlt' : (k : Int) < (m : Int) := by omega
        have hwk : IntKind.i64.wrap ((k : Int) + 1) = ((k + 1 : Nat) : Int) := by rw [IntWalk.i64_in _ ⟨by omega, by omega⟩]; omega
        obtain ⟨z, hz⟩ : ∃ z, zs[k]? = some z := ⟨_, List.getElem?_eq_getElem (by omega)⟩
        obtain ⟨ga, rfl, hga, hca⟩ := hKy.cell hz
        have hzb := HZB.out z (List.mem_of_getElem? hz)
        obtain ⟨q, hq⟩ : ∃ q : Nat, z = q := ⟨z.toNat, by omega⟩
        subst hq
        have HLD := hid (load1 Tryz.isAgg3 hca)
        have hgq := HGC.out wr (q : Int) hBw
        have hcq := HCL.out (q : Int)
        have htk : zs.take (k + 1) = zs.take k ++ [(q : Int)] := by rw [List.take_add_one, hz]; rfl
        obtain ⟨c, hcc⟩ : ∃ c, cget g (q : Int) = c := ⟨_, rfl⟩
        obtain ⟨gq, hgqq⟩ : ∃ b, (g (q : Int)).isSome = b := ⟨_, rfl⟩
        rw [hcc, hgqq] at hgq
        rw [hcc] at hcq
        have HGQ := hid hgq
        have HCQ := hid hcq
        have HCC := hid hcc
        have HTK := hid htk
        have HBY := hid hby
        have HIX := hid hlt
        have HLT := hid hlt
        have HQB := hid (show q ≤ 1023 by omega)
        have HNN := hid (hne ga rfl)
        have HI := hid (And.intro hA (And.intro hQ (And.intro hSb (And.intro hKy hBw))))
        have hgl : ga < wr.heap.size := by
          have := hKy.lt ga rfl
          exact this.2
        have HGL := hid hgl
        clear hgq hcq hcc hgqq htk hby hlt hne hA hQ hSb hKy hBw hgl hzb hca hga hz hk hml
        go_upto_region 10 with fail
        refine wp_region_lit ?_
        refine wp_y (v := .pointer (some ⟨ga, k, none⟩)) rfl rfl (y_index rfl (by kernel_rfl) (by kernel_rfl) (by kernel_rfl) (idx42 ga m sc k HIX.out)) rfl ?_
        refine wp_y (v := .int .i64 (q : Nat)) rfl rfl (y_load rfl (by kernel_rfl) (by kernel_rfl) (fun w' h => by rw [h]; exact HLD.out)) rfl ?_
        refine wp_y (v := .int .i64 (q : Nat)) rfl rfl (y_assign rfl (by kernel_rfl) (by kernel_rfl)) rfl ?_
        try simp only [List.setIfInBounds_toArray, List.set_cons_zero, List.set_cons_succ]
        refine wp_end ?_
        go_upto_region 11 with fail
        refine wp_region_lit ?_
        refine wp_y (v := .pointer (some ⟨p, 0, none⟩)) rfl rfl (y_move rfl (by kernel_rfl) (by kernel_rfl)) rfl ?_
        refine wp_y (v := .pointer (some ⟨p, 0, none⟩)) rfl rfl (y_nil rfl (by kernel_rfl) (by kernel_rfl)) rfl ?_
        refine wp_y (v := .pointer (some ⟨p, 1027, none⟩)) rfl rfl (y_faddr rfl (by kernel_rfl) (by kernel_rfl) (fa90_2 (p))) rfl ?_
        refine wp_y (v := .pointer (some ⟨p, 1031, none⟩)) rfl rfl (y_faddr rfl (by kernel_rfl) (by kernel_rfl) (fg87_4 (p) (1027))) rfl ?_
        refine wp_y (v := .int .i64 (q : Nat)) rfl rfl (y_move rfl (by kernel_rfl) (by kernel_rfl)) rfl ?_
        refine wp_call (f := 54) (args := #[.pointer (some ⟨p, 1031, none⟩), .int .i64 (q : Nat)]) (by kernel_rfl) (fun w => by go_simp) ?_
        refine HGQ.out.mono ?_
        rintro e w5 ⟨rfl, hB5⟩
        refine ⟨_, rfl, ?_⟩
        have hal := alloc109 w5
        have hB6 : Below w5.heap.size w5 (w5.alloc (.cells (cells8 z896).toArray 109)) := (Below.refl _ _).alloc (Nat.le_refl _) _
        have hR6 : Rw (w5.alloc (.cells (cells8 z896).toArray 109)) w5.heap.size 109 z896 := heap_alloc_last w5 _
        generalize w5.alloc (.cells (cells8 z896).toArray 109) = w6 at *
        obtain ⟨g9, hg9⟩ : ∃ g, w5.heap.size = g := ⟨_, rfl⟩
        have hs5 := hB5.size
        rw [hg9] at hal hR6 hB6 hs5
        have hst := store109 z896_len HCQ.out hR6
        have hR7 := hR6.row c
        have hF7 := Fr.setRow w6 g9 (cells8 c).toArray
        generalize w6.setRow g9 (cells8 c).toArray = w7 at *
        have hB7 : Below wr.heap.size wr w7 := (hB5.trans (hB6.mono hs5)).trans (hF7.below (by have := hR6.lt; omega) (by simp; omega))
        have H7 := hid (And.intro hR7 hB7)
        have HAL := hid hal
        have HST := hid hst
        clear hB5 hB6 hR6 hal hst hR7 hF7 hg9 hs5 hB7 HGQ
        dsimp only [Act.put]
        refine wp_y (v := .tuple #[V8 c, .bool gq]) rfl rfl (y_move rfl (by kernel_rfl) (by kernel_rfl)) rfl ?_
        refine wp_y (v := V8 c) rfl rfl (y_ext rfl (by kernel_rfl) (by kernel_rfl) (ext2_0 (V8 c) (.bool gq))) rfl ?_
        try simp only [List.setIfInBounds_toArray, List.set_cons_zero, List.set_cons_succ]
        refine wp_y (v := .bool gq) rfl rfl (y_ext rfl (by kernel_rfl) (by kernel_rfl) (ext2_1 (V8 c) (.bool gq))) rfl ?_
        refine wp_run (v := .pointer (some ⟨g9, 0, none⟩)) rfl rfl (run_alOp rfl HAL.out) rfl ?_
        refine wp_do rfl rfl (run_storeOp rfl (by kernel_rfl) (by kernel_rfl) HST.out) ?_
        refine wp_y (v := .bool gq) rfl rfl (y_assign rfl (by kernel_rfl) (by kernel_rfl)) rfl ?_
        try simp only [List.setIfInBounds_toArray, List.set_cons_zero, List.set_cons_succ]
        refine wp_end ?_
        have hi := HI.out
        have h7 := H7.out
        have hB7d : Below wr.heap.size wr w7.drew := h7.2.trans ((Below.refl _ _).drew)
        have hA7 := hi.1.below hB7d
        have hQ7 := hi.2.1.below hB7d
        have hK7 := hi.2.2.2.1.below hB7d
        have hS7 := hi.2.2.1.below hB7d (heap_lt hi.2.2.1)
        have hBw7 : Below B w w7.drew := hi.2.2.2.2.trans (hB7d.mono (by have := hi.2.2.2.2.size; have := HB.out; omega))
        have H8 : Hid (Rw w7.drew g9 109 c ∧ Bq w7.drew B u6 qs ∧ Sb w7.drew g4 lo lf rt ∧ Ats w7.drew gK (.slice (some ⟨ga, 0, none⟩) m sc) zs ∧ Below B w w7.drew) := hid ⟨h7.1, hQ7, hS7, hK7, hBw7⟩
        have hql : qs.length = (([hp hd 0, hp hd 1] ++ pp g (zs.take k)).length) := by rw [← HBY.out, List.length_map]
        have htl : (zs.take k).length ≤ 1023 := by rw [List.length_take]; have := HML.out; omega
        have HAW := hid (also_keep (N := ga) hA7 (ps := qs.map Pq.val) (by rw [List.length_map]; exact hQ7.1) (by have := hBw7.size; have := HB.out; omega) ((2 + q * 8 : Nat) : Int) (by omega) (by have := HQB.out; omega) g9 0 896 896 8 rfl (Nat.le_refl _) (by decide) (by rw [List.length_append, pz_len]; show 2 + _ ≤ _; omega) (by rw [List.length_map, hql, List.length_append, pp_len]; show 2 + _ ≤ _; omega) HNN.out.1 HNN.out.2 (by have := HGL.out; have := hB7d.size; omega))
        clear hi h7 hB7d hA7 hQ7 hK7 hS7 hBw7 hql htl H7 HI HAL HST HLD HNN HGL
        go_upto_region 12 with fail
        refine h_openL (S := fun _ => True) (by kernel_rfl) (by kernel_rfl) (fun _ _ _ _ _ h => h) (L := #[false, false, false, false, false, false, false, false, false, false, false]) (by kernel_rfl) ?_
        intro Q' hns hP hN
        have hS := trivial
        refine h_takeL (i := 0) (v := u5) hns rfl rfl (by kernel_rfl) (by kernel_rfl) hP (y_move rfl (by kernel_rfl) (by kernel_rfl)) hS rfl (L' := #[true, false, false, false, false, false, false, false, false, false, false]) (by kernel_rfl) ?_
        refine h_takeL (i := 1) (v := u6) hns rfl rfl (by kernel_rfl) (by kernel_rfl) hP (y_move rfl (by kernel_rfl) (by kernel_rfl)) hS rfl (L' := #[true, true, false, false, false, false, false, false, false, false, false]) (by kernel_rfl) ?_
        refine h_takeL (i := 2) (v := .int .i64 (q : Nat)) hns rfl rfl (by kernel_rfl) (by kernel_rfl) hP (y_move rfl (by kernel_rfl) (by kernel_rfl)) hS rfl (L' := #[true, true, true, false, false, false, false, false, false, false, false]) (by kernel_rfl) ?_
        refine h_takeL (i := 4) (v := .slice (some ⟨g9, 0, none⟩) 896 896) hns rfl rfl (by kernel_rfl) (by kernel_rfl) hP (y_slice rfl (by kernel_rfl) (by kernel_rfl) (by kernel_rfl) (by kernel_rfl) (by kernel_rfl) (sl109 g9)) hS rfl (L' := #[true, true, true, false, true, false, false, false, false, false, false]) (by kernel_rfl) ?_
        refine h_callL (i := 3) (f := 56) (args := #[.int .i64 (q : Nat)]) (by kernel_rfl) rfl rfl (by kernel_rfl) (enter_go rfl (by kernel_rfl) (fun w => by go_simp)) (L' := #[true, true, true, true, true, false, false, false, false, false, false]) (by kernel_rfl) ?_
        refine (firstBlock_any q HQB.out _).mono ?_
        rintro e w8 ⟨rfl, rfl⟩
        refine ⟨_, rfl, trivial, ?_⟩
        refine h_callL (i := 5) (f := 55) (args := #[u5, u6, .int .i64 ((2 + q * 8 : Nat) : Int), .slice (some ⟨g9, 0, none⟩) 896 896]) (by kernel_rfl) rfl rfl (by kernel_rfl) (enter_go rfl (by kernel_rfl) (fun w => by go_simp)) (L' := #[true, true, true, true, true, true, false, false, false, false, false]) (by kernel_rfl) ?_
        refine HAW.out.mono ?_
        rintro e w9 ⟨va', vb', rfl, hA9, hO9, hB9, hT9, hN9, hna, hnb⟩
        refine ⟨_, rfl, trivial, ?_⟩
        have h8 := H8.out
        have hq9 : Bq w9 B vb' (qs ++ (List.range 8).map fun x => ⟨g9, 109, x, c⟩) := by
          refine ⟨?_, fun q' hm => ?_⟩
          · rw [List.map_append, List.map_map, List.length_append, List.length_map, List.length_range]
            rw [List.length_map] at hO9
            exact hO9
          · rcases List.mem_append.1 hm with hm | hm
            · exact Pq.ot (h8.2.1.2 q' hm) hT9
            · obtain ⟨x, hx, rfl⟩ := List.mem_map.1 hm
              exact Pq.ot (w := w7.drew) ⟨h8.1, .inr rfl, by show x * 112 + 112 ≤ c.length; rw [HCQ.out]; have := List.mem_range.1 hx; omega⟩ hT9
        have hby : (qs ++ (List.range 8).map fun x => (⟨g9, 109, x, c⟩ : Pq)).map Pq.by = [hp hd 0, hp hd 1] ++ pp g (zs.take (k + 1)) := by
          rw [List.map_append, HBY.out, HTK.out, pp_snoc, ← List.append_assoc, List.map_map, HCC.out]
          rfl
        have hz9 : Ats w9 B va' ([0, 1] ++ pz (zs.take (k + 1))) := by
          rw [HTK.out, pz_snoc, ← List.append_assoc]
          have e : (2 + (q : Int) * 8) = ((2 + q * 8 : Nat) : Int) := by omega
          rw [e]
          exact hA9
        have HZ : Hid (∃ k' : Nat, ∃ qs', k' ≤ m ∧ Value.int .i64 ((k + 1 : Nat) : Int) = .int .i64 k' ∧ Ats w9 B va' ([0, 1] ++ pz (zs.take k')) ∧ Bq w9 B vb' qs' ∧ qs'.map Pq.by = [hp hd 0, hp hd 1] ++ pp g (zs.take k') ∧ Sb w9 g4 lo lf rt ∧ Ats w9 gK (.slice (some ⟨ga, 0, none⟩) m sc) zs ∧ (∀ ga', (some ⟨ga, 0, none⟩ : Option Addr) = some ⟨ga', 0, none⟩ → va'.ownBlock ≠ some ga' ∧ vb'.ownBlock ≠ some ga') ∧ Below B w w9) := hid ⟨k + 1, _, HLT.out, rfl, hz9, hq9, hby, h8.2.2.1.ot hT9, by
            have hk := h8.2.2.2.1
            unfold Ats at hk ⊢
            rw [HML.out.2] at hk ⊢
            exact owns_keep hk hN9, fun ga' e => by cases e; exact ⟨hna, hnb⟩, h8.2.2.2.2.trans hB9⟩
        clear h8 hq9 hby hz9 hA9 hO9 hB9 hT9 hN9 hna hnb
        refine h_takeL (i := 6) (v := .tuple #[va', vb']) hns rfl rfl (by kernel_rfl) (by kernel_rfl) hP (y_move rfl (by kernel_rfl) (by kernel_rfl)) hS rfl (L' := #[true, true, true, true, true, true, true, false, false, false, false]) (by kernel_rfl) ?_
        try simp only [List.setIfInBounds_toArray, List.set_cons_zero, List.set_cons_succ]
        refine h_takeL (i := 7) (v := va') hns rfl rfl (by kernel_rfl) (by kernel_rfl) hP (y_ext rfl (by kernel_rfl) (by kernel_rfl) (ext2_0 (va') (vb'))) hS rfl (L' := #[true, true, true, true, true, true, true, true, false, false, false]) (by kernel_rfl) ?_
        refine h_takeL (i := 8) (v := vb') hns rfl rfl (by kernel_rfl) (by kernel_rfl) hP (y_ext rfl (by kernel_rfl) (by kernel_rfl) (ext2_1 (va') (vb'))) hS rfl (L' := #[true, true, true, true, true, true, true, true, true, false, false]) (by kernel_rfl) ?_
        refine h_takeL (i := 9) (v := va') hns rfl rfl (by kernel_rfl) (by kernel_rfl) hP (y_assign rfl (by kernel_rfl) (by kernel_rfl)) hS rfl (L' := #[true, true, true, true, true, true, true, true, true, true, false]) (by kernel_rfl) ?_
        refine h_takeL (i := 10) (v := vb') hns rfl rfl (by kernel_rfl) (by kernel_rfl) hP (y_assign rfl (by kernel_rfl) (by kernel_rfl)) hS rfl (L' := #[true, true, true, true, true, true, true, true, true, true, true]) (by kernel_rfl) ?_
        try simp only [List.setIfInBounds_toArray, List.set_cons_zero, List.set_cons_succ]
        refine wpAnyH_done (by kernel_rfl) ?_ _
        refine hN _ _ ?_
        clear hP hN hns
        clear hS H8 HAW
        go_wp2_with fail
        exact ⟨HZ.out, by have := HLT.out; simp [intOf]; omega⟩
      · obtain rfl : k = m := by omega
        have hlt' : ¬ (k : Int) < (k : Int) := by omega
        have hft : zs.take k = zs := List.take_of_length_le (by omega)
        rw [hft] at hA hby
        have hPw := HPG.out wr hBw
        have hbz := hQ.bz
        rw [hby] at hbz
        have HW5 := hid (HWR.out wr u5 u6 hBw hA.iz hbz)
        have HP := hid (And.intro hPw hSb)
        have cp := hPw.c0
        clear hA hQ hby hSb hKy hne hBw hPw hbz hft hk hlt hml
        go_wp2_with fail
        refine HW5.out.mono ?_
        rintro e w6 ⟨hK6, h6⟩
        have hP6 := hK6.pg HP.out.1
        have hS6 := hK6.sb HP.out.2
        rcases h6 with ⟨rfl, hR⟩ | ⟨rfl, hR⟩
        · have HT := hid (ptold_ok (w := w6) p)
          have H6 := hid (And.intro hS6 (And.intro hP6 hR))
          have HS6 : Hid (Sb w6.drew g4 lo lf rt) := hid hS6
          clear hP6 hS6 hR hK6 HP HW5 cp
          go_wp2_with fail
          refine HT.out.mono ?_
          rintro e w7 ⟨rfl, hw7⟩
          obtain rfl := hw7.symm
          clear HT
          go_upto_region 17 with fail
          refine h_openL (S := fun w' => Sb w' g4 lo lf rt) (by kernel_rfl) (by kernel_rfl) (fun _ _ _ _ _ h => h) (L := #[false, false, false, false, false, false, false, false, false, false, false]) (by kernel_rfl) ?_
          intro Q' hns hP hN
          have hS := HS6.out
          refine h_takeL (i := 0) (v := .pointer (some ⟨p, 0, none⟩)) hns rfl rfl (by kernel_rfl) (by kernel_rfl) hP (y_move rfl (by kernel_rfl) (by kernel_rfl)) hS rfl (L' := #[true, false, false, false, false, false, false, false, false, false, false]) (by kernel_rfl) ?_
          refine h_takeL (i := 1) (v := .pointer (some ⟨p, 0, none⟩)) hns rfl rfl (by kernel_rfl) (by kernel_rfl) hP (y_move rfl (by kernel_rfl) (by kernel_rfl)) hS rfl (L' := #[true, true, false, false, false, false, false, false, false, false, false]) (by kernel_rfl) ?_
          refine h_takeL (i := 2) (v := St lo lf rt) hns rfl rfl (by kernel_rfl) (by kernel_rfl) hP (y_load rfl (by kernel_rfl) (by kernel_rfl) (fun w' h => pload76 HLL.out h)) hS rfl (L' := #[true, true, true, false, false, false, false, false, false, false, false]) (by kernel_rfl) ?_
          refine h_takeL (i := 3) (v := St lo lf rt) hns rfl rfl (by kernel_rfl) (by kernel_rfl) hP (y_load rfl (by kernel_rfl) (by kernel_rfl) (fun w' h => pload76 HLL.out h)) hS rfl (L' := #[true, true, true, true, false, false, false, false, false, false, false]) (by kernel_rfl) ?_
          refine h_callL (i := 4) (f := 42) (args := #[St lo lf rt]) (by kernel_rfl) rfl rfl (by kernel_rfl) (enter_go rfl (by kernel_rfl) (fun w => by go_simp)) (L' := #[true, true, true, true, true, false, false, false, false, false, false]) (by kernel_rfl) ?_
          refine (unchanged_any lo lf rt _).mono ?_
          rintro e w7 ⟨rfl, hB7⟩
          have h6 := H6.out
          have hB7' : Below w6.heap.size w6 w7 := Below.undr hB7
          have hP7 := h6.2.1.below hB7' h6.2.1.lt
          have hS7 := h6.1.below hB7' (heap_lt h6.1)
          obtain ⟨w8, hst8, hP8, hF8⟩ := hP7.storeS HLL.out lf rt
          obtain ⟨w9, hst9, hP9, hF9⟩ := hP8.storeC false lf rt none none
          have hgp : g4 ≠ p := fun e => by
            have h1 := h6.1
            have h2 := h6.2.1.2
            unfold Sb at h1
            rw [e, h2] at h1
            injection h1 with h1
            injection h1 with _ e2
            exact absurd e2 (by decide)
          have hS8 := hS7.fr hF8 (by simpa using hgp)
          have hS9 := hS8.fr hF9 (by simpa using hgp)
          have HST8 := hid hst8
          have HST9 := hid hst9
          have HS7 := hid hS7
          have HS8 := hid hS8
          have HS9 := hid hS9
          have HZ := hid (And.intro (((Fr.of_below (X := [p]) hB7').trans hF8 (fun x hx => .inl hx)).trans hF9 (fun x hx => .inl hx)) (And.intro h6.2.2 hP9))
          refine ⟨_, rfl, HS7.out, ?_⟩
          clear hS hB7 hB7' h6 hP7 hS7 hst8 hP8 hF8 hst9 hP9 hF9 hgp hS8 hS9
          have hS := HS7.out
          refine h_takeL (i := 5) (v := .pointer (some ⟨p, 0, none⟩)) hns rfl rfl (by kernel_rfl) (by kernel_rfl) hP (y_nil rfl (by kernel_rfl) (by kernel_rfl)) hS rfl (L' := #[true, true, true, true, true, true, false, false, false, false, false]) (by kernel_rfl) ?_
          refine h_takeL (i := 6) (v := .pointer (some ⟨p, 1, none⟩)) hns rfl rfl (by kernel_rfl) (by kernel_rfl) hP (y_faddr rfl (by kernel_rfl) (by kernel_rfl) (fa90_1 (p))) hS rfl (L' := #[true, true, true, true, true, true, true, false, false, false, false]) (by kernel_rfl) ?_
          try simp only [List.setIfInBounds_toArray, List.set_cons_zero, List.set_cons_succ]
          refine h_skipL (i := 7) (by kernel_rfl) rfl rfl (by kernel_rfl) (run_storeOp rfl (by kernel_rfl) (by kernel_rfl) HST8.out) HS8.out (L' := #[true, true, true, true, true, true, true, true, false, false, false]) (by kernel_rfl) ?_
          refine h_takeL (i := 8) (v := .pointer (some ⟨p, 0, none⟩)) hns rfl rfl (by kernel_rfl) (by kernel_rfl) hP (y_nil rfl (by kernel_rfl) (by kernel_rfl)) HS8.out rfl (L' := #[true, true, true, true, true, true, true, true, true, false, false]) (by kernel_rfl) ?_
          refine h_takeL (i := 9) (v := .pointer (some ⟨p, 1027, none⟩)) hns rfl rfl (by kernel_rfl) (by kernel_rfl) hP (y_faddr rfl (by kernel_rfl) (by kernel_rfl) (fa90_2 (p))) HS8.out rfl (L' := #[true, true, true, true, true, true, true, true, true, true, false]) (by kernel_rfl) ?_
          refine h_skipL (i := 10) (by kernel_rfl) rfl rfl (by kernel_rfl) (run_storeOp rfl (by kernel_rfl) (by kernel_rfl) HST9.out) HS9.out (L' := #[true, true, true, true, true, true, true, true, true, true, true]) (by kernel_rfl) ?_
          try simp only [List.setIfInBounds_toArray, List.set_cons_zero, List.set_cons_succ]
          refine wpAnyH_done (by kernel_rfl) ?_ _
          refine hN _ _ ?_
          clear hP hN hns
          clear hS
          go_wp2_with fail
          go_ret
          exact ⟨w6, HZ.out.1, .inl ⟨rfl, HZ.out.2⟩⟩
        · have HT := hid (ptold_off hP6)
          have HRR := hid hR
          clear hP6 hS6 hR hK6 HP HW5 cp
          go_wp2_with fail
          refine HT.out.mono ?_
          rintro e w7 ⟨rfl, hP7, hF7⟩
          have HZ := hid (And.intro hF7 hP7)
          clear HT hP7 hF7
          go_wp2_with fail
          go_ret
          exact ⟨w6, HZ.out.1, .inr ⟨rfl, HRR.out, HZ.out.2⟩⟩
  · have hal := palloc76 wd
    have hBa : Below wd.heap.size wd (wd.alloc (.cells (stC [] 0 0).toArray 76)) := (Below.refl _ _).alloc (Nat.le_refl _) _
    have hSb : Sb (wd.alloc (.cells (stC [] 0 0).toArray 76)) wd.heap.size [] 0 0 := heap_alloc_last wd _
    generalize wd.alloc (.cells (stC [] 0 0).toArray 76) = wa at *
    obtain ⟨g4, hg4⟩ : ∃ g, wd.heap.size = g := ⟨_, rfl⟩
    rw [hg4] at hal hBa hSb
    have hGg : B ≤ g4 := by have := hS.size; have := HB.out; omega
    have hSa : Below B w wa := hS.trans (hBa.mono hGg)
    have HGG := hid hGg
    clear hGg hg4 hBa
    refine o_val (i := 9) (v := .pointer (some ⟨g4, 0, none⟩)) rfl (run_alOp rfl hal) hSa rfl (L' := #[true, true, true, true, true, true, true, true, false, true, false]) (by kernel_rfl) ?_
    try simp only [List.setIfInBounds_toArray, List.set_cons_zero, List.set_cons_succ]
    clear hS hal
    have hS := hSa
    clear hSa
    refine h_callL (i := 8) (f := 51) (args := #[St l kl kr, Ch true lf rt um bm]) (by kernel_rfl) rfl rfl (by kernel_rfl) (enter_go rfl (by kernel_rfl) (fun w => by go_simp)) (L' := #[true, true, true, true, true, true, true, true, true, true, false]) (by kernel_rfl) ?_
    refine (HWI.out wa hS).mono ?_
    rintro e w6 ⟨rfl, hB6⟩
    have hS6 : Below B w w6 := hS.trans (hB6.mono (by have := hS.size; have := HB.out; omega))
    have hSb6 := hSb.below hB6 (heap_lt hSb)
    refine ⟨_, rfl, hS6, ?_⟩
    try simp only [List.setIfInBounds_toArray, List.set_cons_zero, List.set_cons_succ]
    have HSS := hid hS6
    have HSB := hid hSb6
    clear hSb hSb6
    clear hS hB6 hS6
    have hS := HSS.out
    clear HSS
    have hSb := HSB.out
    clear HSB
    have hst := pstore76 (l := []) (kl := 0) (kr := 0) (by simp) HLL.out (kl' := lf) (kr' := rt) hSb
    have hS8 := hSb.row lo lf rt
    have hF8 := Fr.setRow w6 g4 (stC lo lf rt).toArray
    generalize w6.setRow g4 (stC lo lf rt).toArray = w2 at *
    have hB8 : Below B w w2 := hS.trans (hF8.below (by have := hS.size; have := HB.out; omega) (by have := HGG.out; simp; omega))
    have H2 := hid (And.intro hS8 hB8)
    have HST := hid hst
    have HB8 := hid hB8
    clear hst hS8 hF8 hB8 hSb
    refine h_skipL (i := 10) (by kernel_rfl) rfl rfl (by kernel_rfl) (run_storeOp rfl (by kernel_rfl) (by kernel_rfl) HST.out) HB8.out (L' := #[true, true, true, true, true, true, true, true, true, true, true]) (by kernel_rfl) ?_
    try simp only [List.setIfInBounds_toArray, List.set_cons_zero, List.set_cons_succ]
    refine wpAnyH_done (by kernel_rfl) ?_ _
    refine hN _ _ ?_
    clear hP hN hns
    clear hS HST HB8 HGG HWI HS
    go_upto_region 7 with fail
    refine wp_region_lit ?_
    refine wp_y (v := St lo lf rt) rfl rfl (y_load rfl (by kernel_rfl) (by kernel_rfl) (fun w' h => by rw [h]; exact pload76 HLL.out H2.out.1)) rfl ?_
    refine wp_call (f := 52) (args := #[St lo lf rt]) (by kernel_rfl) (fun w => by go_simp) ?_
    refine (HHW.out w2).mono ?_
    rintro e w3 ⟨va, vb, gh, rfl, hA3, hQ3, hB3⟩
    refine ⟨_, rfl, ?_⟩
    have h2 := H2.out
    have hs2 : B ≤ w2.heap.size := by have := h2.2.size; have := HB.out; omega
    have hA3' : Ats w3 B va [0, 1] := owns_mono hA3 hs2
    have hQ3' : Bq w3 B vb [⟨gh, 70, 0, hd⟩, ⟨gh, 70, 1, hd⟩] := ⟨owns_mono hQ3.1 hs2, hQ3.2⟩
    have H3 : Hid (Ats w3 B va [0, 1] ∧ Bq w3 B vb [⟨gh, 70, 0, hd⟩, ⟨gh, 70, 1, hd⟩] ∧ Sb w3 g4 lo lf rt ∧ Below B w w3) := hid ⟨hA3', hQ3', h2.1.below hB3 (heap_lt h2.1), h2.2.trans (hB3.mono hs2)⟩
    clear h2 hs2 hA3 hQ3 hA3' hQ3' hB3
    dsimp only [Act.put]
    refine wp_y (v := .tuple #[va, vb]) rfl rfl (y_move rfl (by kernel_rfl) (by kernel_rfl)) rfl ?_
    refine wp_y (v := va) rfl rfl (y_ext rfl (by kernel_rfl) (by kernel_rfl) (ext2_0 (va) (vb))) rfl ?_
    refine wp_y (v := vb) rfl rfl (y_ext rfl (by kernel_rfl) (by kernel_rfl) (ext2_1 (va) (vb))) rfl ?_
    refine wp_y (v := va) rfl rfl (y_assign rfl (by kernel_rfl) (by kernel_rfl)) rfl ?_
    refine wp_y (v := vb) rfl rfl (y_assign rfl (by kernel_rfl) (by kernel_rfl)) rfl ?_
    try simp only [List.setIfInBounds_toArray, List.set_cons_zero, List.set_cons_succ]
    refine wp_end ?_
    go_upto_region 8 with fail
    refine wp_region_lit ?_
    refine wp_y (v := .pointer (some ⟨p, 0, none⟩)) rfl rfl (y_move rfl (by kernel_rfl) (by kernel_rfl)) rfl ?_
    refine wp_y (v := .pointer (some ⟨p, 0, none⟩)) rfl rfl (y_nil rfl (by kernel_rfl) (by kernel_rfl)) rfl ?_
    refine wp_y (v := .pointer (some ⟨p, 1027, none⟩)) rfl rfl (y_faddr rfl (by kernel_rfl) (by kernel_rfl) (fa90_2 (p))) rfl ?_
    refine wp_y (v := .pointer (some ⟨p, 1031, none⟩)) rfl rfl (y_faddr rfl (by kernel_rfl) (by kernel_rfl) (fg87_4 (p) (1027))) rfl ?_
    refine wp_call (f := 53) (args := #[.pointer (some ⟨p, 1031, none⟩)]) (by kernel_rfl) (fun w => by go_simp) ?_
    have h3 := H3.out
    refine (HPK.out w3 h3.2.2.2).mono ?_
    rintro e w4 ⟨v, rfl, hA4, hB4⟩
    obtain ⟨sa, sc, rfl⟩ := hA4.shape
    obtain ⟨m, hm⟩ : ∃ m, zs.length = m := ⟨_, rfl⟩
    obtain ⟨gK, hgK⟩ : ∃ g, w3.heap.size = g := ⟨_, rfl⟩
    have hs3 : B ≤ w3.heap.size := by have := h3.2.2.2.size; have := HB.out; omega
    rw [hm] at hA4
    have hne : ∀ ga, sa = some ⟨ga, 0, none⟩ → va.ownBlock ≠ some ga ∧ vb.ownBlock ≠ some ga := fun ga hga => by
      have hgl : w3.heap.size ≤ ga := by
        subst hga
        exact (hA4.lt ga rfl).1
      exact ⟨fun e => by have := (h3.1.lt ga e).2; omega, fun e => by have := (h3.2.1.1.lt ga e).2; omega⟩
    have H4 : Hid (Ats w4 B va ([0, 1] ++ pz (zs.take 0)) ∧ Bq w4 B vb [⟨gh, 70, 0, hd⟩, ⟨gh, 70, 1, hd⟩] ∧ Sb w4 g4 lo lf rt ∧ Ats w4 gK (.slice sa m sc) zs ∧ (∀ ga, sa = some ⟨ga, 0, none⟩ → va.ownBlock ≠ some ga ∧ vb.ownBlock ≠ some ga) ∧ Below B w w4) := hid ⟨h3.1.below hB4, h3.2.1.below hB4, h3.2.2.1.below hB4 (heap_lt h3.2.2.1), by rw [← hgK]; exact hA4, hne, h3.2.2.2.trans (hB4.mono hs3)⟩
    have HML : Hid (m ≤ 1023 ∧ zs.length = m) := hid ⟨by rw [← hm]; exact HZL.out, hm⟩
    refine ⟨_, rfl, ?_⟩
    rw [hm]
    clear h3 hA4 hB4 hgK hs3 hm hne H3
    dsimp only [Act.put]
    refine wp_y (v := .int .i64 m) rfl rfl (y_len43 (p := sa) (c := sc) rfl (by kernel_rfl) (by kernel_rfl)) rfl ?_
    refine wp_y (v := (.int .i64 0)) rfl rfl (y_move rfl (by kernel_rfl) (by kernel_rfl)) rfl ?_
    try simp only [List.setIfInBounds_toArray, List.set_cons_zero, List.set_cons_succ]
    refine wp_end ?_
    go_wp2_with fail
    go_loopw [43, 5, 6, 8, 9, 10] (fun y va vb _ _ _ wr => ∃ k : Nat, ∃ qs, k ≤ m ∧ y = .int .i64 k ∧ Ats wr B va ([0, 1] ++ pz (zs.take k)) ∧ Bq wr B vb qs ∧ qs.map Pq.by = [hp hd 0, hp hd 1] ++ pp g (zs.take k) ∧ Sb wr g4 lo lf rt ∧ Ats wr gK (.slice sa m sc) zs ∧ (∀ ga, sa = some ⟨ga, 0, none⟩ → va.ownBlock ≠ some ga ∧ vb.ownBlock ≠ some ga) ∧ Below B w wr) (fun y _ _ _ _ _ _ => m - (intOf y).toNat)
    case atStart => exact ⟨0, _, Nat.zero_le _, rfl, H4.out.1, H4.out.2.1, rfl, H4.out.2.2⟩
    case round =>
      clear H4 H2
      obtain ⟨k, qs, hk, rfl, hA, hQ, hby, hSb, hKy, hne, hBw⟩ := hrel
      have hml := HML.out
      by_cases hlt : k < m
      · have hlt' : (k : Int) < (m : Int) := by omega
        have hwk : IntKind.i64.wrap ((k : Int) + 1) = ((k + 1 : Nat) : Int) := by rw [IntWalk.i64_in _ ⟨by omega, by omega⟩]; omega
        obtain ⟨z, hz⟩ : ∃ z, zs[k]? = some z := ⟨_, List.getElem?_eq_getElem (by omega)⟩
        obtain ⟨ga, rfl, hga, hca⟩ := hKy.cell hz
        have hzb := HZB.out z (List.mem_of_getElem? hz)
        obtain ⟨q, hq⟩ : ∃ q : Nat, z = q := ⟨z.toNat, by omega⟩
        subst hq
        have HLD := hid (load1 Tryz.isAgg3 hca)
        have hgq := HGC.out wr (q : Int) hBw
        have hcq := HCL.out (q : Int)
        have htk : zs.take (k + 1) = zs.take k ++ [(q : Int)] := by rw [List.take_add_one, hz]; rfl
        obtain ⟨c, hcc⟩ : ∃ c, cget g (q : Int) = c := ⟨_, rfl⟩
        obtain ⟨gq, hgqq⟩ : ∃ b, (g (q : Int)).isSome = b := ⟨_, rfl⟩
        rw [hcc, hgqq] at hgq
        rw [hcc] at hcq
        have HGQ := hid hgq
        have HCQ := hid hcq
        have HCC := hid hcc
        have HTK := hid htk
        have HBY := hid hby
        have HIX := hid hlt
        have HLT := hid hlt
        have HQB := hid (show q ≤ 1023 by omega)
        have HNN := hid (hne ga rfl)
        have HI := hid (And.intro hA (And.intro hQ (And.intro hSb (And.intro hKy hBw))))
        have hgl : ga < wr.heap.size := by
          have := hKy.lt ga rfl
          exact this.2
        have HGL := hid hgl
        clear hgq hcq hcc hgqq htk hby hlt hne hA hQ hSb hKy hBw hgl hzb hca hga hz hk hml
        go_upto_region 10 with fail
        refine wp_region_lit ?_
        refine wp_y (v := .pointer (some ⟨ga, k, none⟩)) rfl rfl (y_index rfl (by kernel_rfl) (by kernel_rfl) (by kernel_rfl) (idx42 ga m sc k HIX.out)) rfl ?_
        refine wp_y (v := .int .i64 (q : Nat)) rfl rfl (y_load rfl (by kernel_rfl) (by kernel_rfl) (fun w' h => by rw [h]; exact HLD.out)) rfl ?_
        refine wp_y (v := .int .i64 (q : Nat)) rfl rfl (y_assign rfl (by kernel_rfl) (by kernel_rfl)) rfl ?_
        try simp only [List.setIfInBounds_toArray, List.set_cons_zero, List.set_cons_succ]
        refine wp_end ?_
        go_upto_region 11 with fail
        refine wp_region_lit ?_
        refine wp_y (v := .pointer (some ⟨p, 0, none⟩)) rfl rfl (y_move rfl (by kernel_rfl) (by kernel_rfl)) rfl ?_
        refine wp_y (v := .pointer (some ⟨p, 0, none⟩)) rfl rfl (y_nil rfl (by kernel_rfl) (by kernel_rfl)) rfl ?_
        refine wp_y (v := .pointer (some ⟨p, 1027, none⟩)) rfl rfl (y_faddr rfl (by kernel_rfl) (by kernel_rfl) (fa90_2 (p))) rfl ?_
        refine wp_y (v := .pointer (some ⟨p, 1031, none⟩)) rfl rfl (y_faddr rfl (by kernel_rfl) (by kernel_rfl) (fg87_4 (p) (1027))) rfl ?_
        refine wp_y (v := .int .i64 (q : Nat)) rfl rfl (y_move rfl (by kernel_rfl) (by kernel_rfl)) rfl ?_
        refine wp_call (f := 54) (args := #[.pointer (some ⟨p, 1031, none⟩), .int .i64 (q : Nat)]) (by kernel_rfl) (fun w => by go_simp) ?_
        refine HGQ.out.mono ?_
        rintro e w5 ⟨rfl, hB5⟩
        refine ⟨_, rfl, ?_⟩
        have hal := alloc109 w5
        have hB6 : Below w5.heap.size w5 (w5.alloc (.cells (cells8 z896).toArray 109)) := (Below.refl _ _).alloc (Nat.le_refl _) _
        have hR6 : Rw (w5.alloc (.cells (cells8 z896).toArray 109)) w5.heap.size 109 z896 := heap_alloc_last w5 _
        generalize w5.alloc (.cells (cells8 z896).toArray 109) = w6 at *
        obtain ⟨g9, hg9⟩ : ∃ g, w5.heap.size = g := ⟨_, rfl⟩
        have hs5 := hB5.size
        rw [hg9] at hal hR6 hB6 hs5
        have hst := store109 z896_len HCQ.out hR6
        have hR7 := hR6.row c
        have hF7 := Fr.setRow w6 g9 (cells8 c).toArray
        generalize w6.setRow g9 (cells8 c).toArray = w7 at *
        have hB7 : Below wr.heap.size wr w7 := (hB5.trans (hB6.mono hs5)).trans (hF7.below (by have := hR6.lt; omega) (by simp; omega))
        have H7 := hid (And.intro hR7 hB7)
        have HAL := hid hal
        have HST := hid hst
        clear hB5 hB6 hR6 hal hst hR7 hF7 hg9 hs5 hB7 HGQ
        dsimp only [Act.put]
        refine wp_y (v := .tuple #[V8 c, .bool gq]) rfl rfl (y_move rfl (by kernel_rfl) (by kernel_rfl)) rfl ?_
        refine wp_y (v := V8 c) rfl rfl (y_ext rfl (by kernel_rfl) (by kernel_rfl) (ext2_0 (V8 c) (.bool gq))) rfl ?_
        try simp only [List.setIfInBounds_toArray, List.set_cons_zero, List.set_cons_succ]
        refine wp_y (v := .bool gq) rfl rfl (y_ext rfl (by kernel_rfl) (by kernel_rfl) (ext2_1 (V8 c) (.bool gq))) rfl ?_
        refine wp_run (v := .pointer (some ⟨g9, 0, none⟩)) rfl rfl (run_alOp rfl HAL.out) rfl ?_
        refine wp_do rfl rfl (run_storeOp rfl (by kernel_rfl) (by kernel_rfl) HST.out) ?_
        refine wp_y (v := .bool gq) rfl rfl (y_assign rfl (by kernel_rfl) (by kernel_rfl)) rfl ?_
        try simp only [List.setIfInBounds_toArray, List.set_cons_zero, List.set_cons_succ]
        refine wp_end ?_
        have hi := HI.out
        have h7 := H7.out
        have hB7d : Below wr.heap.size wr w7.drew := h7.2.trans ((Below.refl _ _).drew)
        have hA7 := hi.1.below hB7d
        have hQ7 := hi.2.1.below hB7d
        have hK7 := hi.2.2.2.1.below hB7d
        have hS7 := hi.2.2.1.below hB7d (heap_lt hi.2.2.1)
        have hBw7 : Below B w w7.drew := hi.2.2.2.2.trans (hB7d.mono (by have := hi.2.2.2.2.size; have := HB.out; omega))
        have H8 : Hid (Rw w7.drew g9 109 c ∧ Bq w7.drew B u6 qs ∧ Sb w7.drew g4 lo lf rt ∧ Ats w7.drew gK (.slice (some ⟨ga, 0, none⟩) m sc) zs ∧ Below B w w7.drew) := hid ⟨h7.1, hQ7, hS7, hK7, hBw7⟩
        have hql : qs.length = (([hp hd 0, hp hd 1] ++ pp g (zs.take k)).length) := by rw [← HBY.out, List.length_map]
        have htl : (zs.take k).length ≤ 1023 := by rw [List.length_take]; have := HML.out; omega
        have HAW := hid (also_keep (N := ga) hA7 (ps := qs.map Pq.val) (by rw [List.length_map]; exact hQ7.1) (by have := hBw7.size; have := HB.out; omega) ((2 + q * 8 : Nat) : Int) (by omega) (by have := HQB.out; omega) g9 0 896 896 8 rfl (Nat.le_refl _) (by decide) (by rw [List.length_append, pz_len]; show 2 + _ ≤ _; omega) (by rw [List.length_map, hql, List.length_append, pp_len]; show 2 + _ ≤ _; omega) HNN.out.1 HNN.out.2 (by have := HGL.out; have := hB7d.size; omega))
        clear hi h7 hB7d hA7 hQ7 hK7 hS7 hBw7 hql htl H7 HI HAL HST HLD HNN HGL
        go_upto_region 12 with fail
        refine h_openL (S := fun _ => True) (by kernel_rfl) (by kernel_rfl) (fun _ _ _ _ _ h => h) (L := #[false, false, false, false, false, false, false, false, false, false, false]) (by kernel_rfl) ?_
        intro Q' hns hP hN
        have hS := trivial
        refine h_takeL (i := 0) (v := u5) hns rfl rfl (by kernel_rfl) (by kernel_rfl) hP (y_move rfl (by kernel_rfl) (by kernel_rfl)) hS rfl (L' := #[true, false, false, false, false, false, false, false, false, false, false]) (by kernel_rfl) ?_
        refine h_takeL (i := 1) (v := u6) hns rfl rfl (by kernel_rfl) (by kernel_rfl) hP (y_move rfl (by kernel_rfl) (by kernel_rfl)) hS rfl (L' := #[true, true, false, false, false, false, false, false, false, false, false]) (by kernel_rfl) ?_
        refine h_takeL (i := 2) (v := .int .i64 (q : Nat)) hns rfl rfl (by kernel_rfl) (by kernel_rfl) hP (y_move rfl (by kernel_rfl) (by kernel_rfl)) hS rfl (L' := #[true, true, true, false, false, false, false, false, false, false, false]) (by kernel_rfl) ?_
        refine h_takeL (i := 4) (v := .slice (some ⟨g9, 0, none⟩) 896 896) hns rfl rfl (by kernel_rfl) (by kernel_rfl) hP (y_slice rfl (by kernel_rfl) (by kernel_rfl) (by kernel_rfl) (by kernel_rfl) (by kernel_rfl) (sl109 g9)) hS rfl (L' := #[true, true, true, false, true, false, false, false, false, false, false]) (by kernel_rfl) ?_
        refine h_callL (i := 3) (f := 56) (args := #[.int .i64 (q : Nat)]) (by kernel_rfl) rfl rfl (by kernel_rfl) (enter_go rfl (by kernel_rfl) (fun w => by go_simp)) (L' := #[true, true, true, true, true, false, false, false, false, false, false]) (by kernel_rfl) ?_
        refine (firstBlock_any q HQB.out _).mono ?_
        rintro e w8 ⟨rfl, rfl⟩
        refine ⟨_, rfl, trivial, ?_⟩
        refine h_callL (i := 5) (f := 55) (args := #[u5, u6, .int .i64 ((2 + q * 8 : Nat) : Int), .slice (some ⟨g9, 0, none⟩) 896 896]) (by kernel_rfl) rfl rfl (by kernel_rfl) (enter_go rfl (by kernel_rfl) (fun w => by go_simp)) (L' := #[true, true, true, true, true, true, false, false, false, false, false]) (by kernel_rfl) ?_
        refine HAW.out.mono ?_
        rintro e w9 ⟨va', vb', rfl, hA9, hO9, hB9, hT9, hN9, hna, hnb⟩
        refine ⟨_, rfl, trivial, ?_⟩
        have h8 := H8.out
        have hq9 : Bq w9 B vb' (qs ++ (List.range 8).map fun x => ⟨g9, 109, x, c⟩) := by
          refine ⟨?_, fun q' hm => ?_⟩
          · rw [List.map_append, List.map_map, List.length_append, List.length_map, List.length_range]
            rw [List.length_map] at hO9
            exact hO9
          · rcases List.mem_append.1 hm with hm | hm
            · exact Pq.ot (h8.2.1.2 q' hm) hT9
            · obtain ⟨x, hx, rfl⟩ := List.mem_map.1 hm
              exact Pq.ot (w := w7.drew) ⟨h8.1, .inr rfl, by show x * 112 + 112 ≤ c.length; rw [HCQ.out]; have := List.mem_range.1 hx; omega⟩ hT9
        have hby : (qs ++ (List.range 8).map fun x => (⟨g9, 109, x, c⟩ : Pq)).map Pq.by = [hp hd 0, hp hd 1] ++ pp g (zs.take (k + 1)) := by
          rw [List.map_append, HBY.out, HTK.out, pp_snoc, ← List.append_assoc, List.map_map, HCC.out]
          rfl
        have hz9 : Ats w9 B va' ([0, 1] ++ pz (zs.take (k + 1))) := by
          rw [HTK.out, pz_snoc, ← List.append_assoc]
          have e : (2 + (q : Int) * 8) = ((2 + q * 8 : Nat) : Int) := by omega
          rw [e]
          exact hA9
        have HZ : Hid (∃ k' : Nat, ∃ qs', k' ≤ m ∧ Value.int .i64 ((k + 1 : Nat) : Int) = .int .i64 k' ∧ Ats w9 B va' ([0, 1] ++ pz (zs.take k')) ∧ Bq w9 B vb' qs' ∧ qs'.map Pq.by = [hp hd 0, hp hd 1] ++ pp g (zs.take k') ∧ Sb w9 g4 lo lf rt ∧ Ats w9 gK (.slice (some ⟨ga, 0, none⟩) m sc) zs ∧ (∀ ga', (some ⟨ga, 0, none⟩ : Option Addr) = some ⟨ga', 0, none⟩ → va'.ownBlock ≠ some ga' ∧ vb'.ownBlock ≠ some ga') ∧ Below B w w9) := hid ⟨k + 1, _, HLT.out, rfl, hz9, hq9, hby, h8.2.2.1.ot hT9, by
            have hk := h8.2.2.2.1
            unfold Ats at hk ⊢
            rw [HML.out.2] at hk ⊢
            exact owns_keep hk hN9, fun ga' e => by cases e; exact ⟨hna, hnb⟩, h8.2.2.2.2.trans hB9⟩
        clear h8 hq9 hby hz9 hA9 hO9 hB9 hT9 hN9 hna hnb
        refine h_takeL (i := 6) (v := .tuple #[va', vb']) hns rfl rfl (by kernel_rfl) (by kernel_rfl) hP (y_move rfl (by kernel_rfl) (by kernel_rfl)) hS rfl (L' := #[true, true, true, true, true, true, true, false, false, false, false]) (by kernel_rfl) ?_
        try simp only [List.setIfInBounds_toArray, List.set_cons_zero, List.set_cons_succ]
        refine h_takeL (i := 7) (v := va') hns rfl rfl (by kernel_rfl) (by kernel_rfl) hP (y_ext rfl (by kernel_rfl) (by kernel_rfl) (ext2_0 (va') (vb'))) hS rfl (L' := #[true, true, true, true, true, true, true, true, false, false, false]) (by kernel_rfl) ?_
        refine h_takeL (i := 8) (v := vb') hns rfl rfl (by kernel_rfl) (by kernel_rfl) hP (y_ext rfl (by kernel_rfl) (by kernel_rfl) (ext2_1 (va') (vb'))) hS rfl (L' := #[true, true, true, true, true, true, true, true, true, false, false]) (by kernel_rfl) ?_
        refine h_takeL (i := 9) (v := va') hns rfl rfl (by kernel_rfl) (by kernel_rfl) hP (y_assign rfl (by kernel_rfl) (by kernel_rfl)) hS rfl (L' := #[true, true, true, true, true, true, true, true, true, true, false]) (by kernel_rfl) ?_
        refine h_takeL (i := 10) (v := vb') hns rfl rfl (by kernel_rfl) (by kernel_rfl) hP (y_assign rfl (by kernel_rfl) (by kernel_rfl)) hS rfl (L' := #[true, true, true, true, true, true, true, true, true, true, true]) (by kernel_rfl) ?_
        try simp only [List.setIfInBounds_toArray, List.set_cons_zero, List.set_cons_succ]
        refine wpAnyH_done (by kernel_rfl) ?_ _
        refine hN _ _ ?_
        clear hP hN hns
        clear hS H8 HAW
        go_wp2_with fail
        exact ⟨HZ.out, by have := HLT.out; simp [intOf]; omega⟩
      · obtain rfl : k = m := by omega
        have hlt' : ¬ (k : Int) < (k : Int) := by omega
        have hft : zs.take k = zs := List.take_of_length_le (by omega)
        rw [hft] at hA hby
        have hPw := HPG.out wr hBw
        have hbz := hQ.bz
        rw [hby] at hbz
        have HW5 := hid (HWR.out wr u5 u6 hBw hA.iz hbz)
        have HP := hid (And.intro hPw hSb)
        have cp := hPw.c0
        clear hA hQ hby hSb hKy hne hBw hPw hbz hft hk hlt hml
        go_wp2_with fail
        refine HW5.out.mono ?_
        rintro e w6 ⟨hK6, h6⟩
        have hP6 := hK6.pg HP.out.1
        have hS6 := hK6.sb HP.out.2
        rcases h6 with ⟨rfl, hR⟩ | ⟨rfl, hR⟩
        · have HT := hid (ptold_ok (w := w6) p)
          have H6 := hid (And.intro hS6 (And.intro hP6 hR))
          have HS6 : Hid (Sb w6.drew g4 lo lf rt) := hid hS6
          clear hP6 hS6 hR hK6 HP HW5 cp
          go_wp2_with fail
          refine HT.out.mono ?_
          rintro e w7 ⟨rfl, hw7⟩
          obtain rfl := hw7.symm
          clear HT
          go_upto_region 17 with fail
          refine h_openL (S := fun w' => Sb w' g4 lo lf rt) (by kernel_rfl) (by kernel_rfl) (fun _ _ _ _ _ h => h) (L := #[false, false, false, false, false, false, false, false, false, false, false]) (by kernel_rfl) ?_
          intro Q' hns hP hN
          have hS := HS6.out
          refine h_takeL (i := 0) (v := .pointer (some ⟨p, 0, none⟩)) hns rfl rfl (by kernel_rfl) (by kernel_rfl) hP (y_move rfl (by kernel_rfl) (by kernel_rfl)) hS rfl (L' := #[true, false, false, false, false, false, false, false, false, false, false]) (by kernel_rfl) ?_
          refine h_takeL (i := 1) (v := .pointer (some ⟨p, 0, none⟩)) hns rfl rfl (by kernel_rfl) (by kernel_rfl) hP (y_move rfl (by kernel_rfl) (by kernel_rfl)) hS rfl (L' := #[true, true, false, false, false, false, false, false, false, false, false]) (by kernel_rfl) ?_
          refine h_takeL (i := 2) (v := St lo lf rt) hns rfl rfl (by kernel_rfl) (by kernel_rfl) hP (y_load rfl (by kernel_rfl) (by kernel_rfl) (fun w' h => pload76 HLL.out h)) hS rfl (L' := #[true, true, true, false, false, false, false, false, false, false, false]) (by kernel_rfl) ?_
          refine h_takeL (i := 3) (v := St lo lf rt) hns rfl rfl (by kernel_rfl) (by kernel_rfl) hP (y_load rfl (by kernel_rfl) (by kernel_rfl) (fun w' h => pload76 HLL.out h)) hS rfl (L' := #[true, true, true, true, false, false, false, false, false, false, false]) (by kernel_rfl) ?_
          refine h_callL (i := 4) (f := 42) (args := #[St lo lf rt]) (by kernel_rfl) rfl rfl (by kernel_rfl) (enter_go rfl (by kernel_rfl) (fun w => by go_simp)) (L' := #[true, true, true, true, true, false, false, false, false, false, false]) (by kernel_rfl) ?_
          refine (unchanged_any lo lf rt _).mono ?_
          rintro e w7 ⟨rfl, hB7⟩
          have h6 := H6.out
          have hB7' : Below w6.heap.size w6 w7 := Below.undr hB7
          have hP7 := h6.2.1.below hB7' h6.2.1.lt
          have hS7 := h6.1.below hB7' (heap_lt h6.1)
          obtain ⟨w8, hst8, hP8, hF8⟩ := hP7.storeS HLL.out lf rt
          obtain ⟨w9, hst9, hP9, hF9⟩ := hP8.storeC false lf rt none none
          have hgp : g4 ≠ p := fun e => by
            have h1 := h6.1
            have h2 := h6.2.1.2
            unfold Sb at h1
            rw [e, h2] at h1
            injection h1 with h1
            injection h1 with _ e2
            exact absurd e2 (by decide)
          have hS8 := hS7.fr hF8 (by simpa using hgp)
          have hS9 := hS8.fr hF9 (by simpa using hgp)
          have HST8 := hid hst8
          have HST9 := hid hst9
          have HS7 := hid hS7
          have HS8 := hid hS8
          have HS9 := hid hS9
          have HZ := hid (And.intro (((Fr.of_below (X := [p]) hB7').trans hF8 (fun x hx => .inl hx)).trans hF9 (fun x hx => .inl hx)) (And.intro h6.2.2 hP9))
          refine ⟨_, rfl, HS7.out, ?_⟩
          clear hS hB7 hB7' h6 hP7 hS7 hst8 hP8 hF8 hst9 hP9 hF9 hgp hS8 hS9
          have hS := HS7.out
          refine h_takeL (i := 5) (v := .pointer (some ⟨p, 0, none⟩)) hns rfl rfl (by kernel_rfl) (by kernel_rfl) hP (y_nil rfl (by kernel_rfl) (by kernel_rfl)) hS rfl (L' := #[true, true, true, true, true, true, false, false, false, false, false]) (by kernel_rfl) ?_
          refine h_takeL (i := 6) (v := .pointer (some ⟨p, 1, none⟩)) hns rfl rfl (by kernel_rfl) (by kernel_rfl) hP (y_faddr rfl (by kernel_rfl) (by kernel_rfl) (fa90_1 (p))) hS rfl (L' := #[true, true, true, true, true, true, true, false, false, false, false]) (by kernel_rfl) ?_
          try simp only [List.setIfInBounds_toArray, List.set_cons_zero, List.set_cons_succ]
          refine h_skipL (i := 7) (by kernel_rfl) rfl rfl (by kernel_rfl) (run_storeOp rfl (by kernel_rfl) (by kernel_rfl) HST8.out) HS8.out (L' := #[true, true, true, true, true, true, true, true, false, false, false]) (by kernel_rfl) ?_
          refine h_takeL (i := 8) (v := .pointer (some ⟨p, 0, none⟩)) hns rfl rfl (by kernel_rfl) (by kernel_rfl) hP (y_nil rfl (by kernel_rfl) (by kernel_rfl)) HS8.out rfl (L' := #[true, true, true, true, true, true, true, true, true, false, false]) (by kernel_rfl) ?_
          refine h_takeL (i := 9) (v := .pointer (some ⟨p, 1027, none⟩)) hns rfl rfl (by kernel_rfl) (by kernel_rfl) hP (y_faddr rfl (by kernel_rfl) (by kernel_rfl) (fa90_2 (p))) HS8.out rfl (L' := #[true, true, true, true, true, true, true, true, true, true, false]) (by kernel_rfl) ?_
          refine h_skipL (i := 10) (by kernel_rfl) rfl rfl (by kernel_rfl) (run_storeOp rfl (by kernel_rfl) (by kernel_rfl) HST9.out) HS9.out (L' := #[true, true, true, true, true, true, true, true, true, true, true]) (by kernel_rfl) ?_
          try simp only [List.setIfInBounds_toArray, List.set_cons_zero, List.set_cons_succ]
          refine wpAnyH_done (by kernel_rfl) ?_ _
          refine hN _ _ ?_
          clear hP hN hns
          clear hS
          go_wp2_with fail
          go_ret
          exact ⟨w6, HZ.out.1, .inl ⟨rfl, HZ.out.2⟩⟩
        · have HT := hid (ptold_off hP6)
          have HRR := hid hR
          clear hP6 hS6 hR hK6 HP HW5 cp
          go_wp2_with fail
          refine HT.out.mono ?_
          rintro e w7 ⟨rfl, hP7, hF7⟩
          have HZ := hid (And.intro hF7 hP7)
          clear HT hP7 hF7
          go_wp2_with fail
          go_ret
          exact ⟨w6, HZ.out.1, .inr ⟨rfl, HRR.out, HZ.out.2⟩⟩
end Go.Proofs.YtdbgccgjdgomkaaGreatDoor
