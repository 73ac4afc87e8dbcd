/- The reference's Write once more: where its texts lie; whatever is handed in. -/
import Derived.Test.YtdogjicccajnkaaDoorJGh
namespace Go.Proofs.YtdogjicccajnkaaDoor
open Go Go.RowKit

set_option maxRecDepth 100000 in
set_option maxHeartbeats 8000000 in
theorem refWrite_any2 {w : World} {B r : Nat} {bl : List (List UInt8)} {sq : Int} {va vb : Value} {zs : List Int} {ps : List (List UInt8)} (h : Rj w B r bl sq) (hrB : r < B) (ha : Iz w va zs) (hb : Bz w vb ps)
    (hfr : ∀ g c w', w.heap[g]? = some (.cells c 9 (0, 0)) → Fr [g] w w' → Iz w' va zs ∧ Bz w' vb ps) (hl : zs.length ≤ 281474976710656) (hf : Fit bl.length zs ps) (h0 : zs ≠ []) (hsq : 0 ≤ sq ∧ sq < 1000000000000) :
    Calls Tryd.prog 23 #[.pointer (some ⟨r, 0, none⟩), va, vb] w fun e w' => e = .returned (.int .i64 0) ∧ Rj w' B r (layAll bl (wsOf zs ps)) (sq + 1) ∧ ∃ g c, w.heap[g]? = some (.cells c 9 (0, 0)) ∧ B ≤ g ∧ Fr [r, g] w w' := by
  have HREF := hid (refused_any h ha hb hl)
  rw [if_pos hf] at HREF
  obtain ⟨vv, hr, ho⟩ := h
  have hnl := hf.len
  have hz0 : zs.length ≠ 0 := fun e => h0 (List.length_eq_zero_iff.1 e)
  obtain ⟨g, cx, c0, rfl, hgc, hBg0⟩ : ∃ g cap c, vv = .slice (some ⟨g, 0, none⟩) bl.length cap ∧ w.heap[g]? = some (.cells c 9 (0, 0)) ∧ B ≤ g := by
    rcases ho.2 with ⟨_, h0⟩ | ⟨g, cap, cur, rfl, hbg, hg, _⟩
    · omega
    · exact ⟨g, cap, cur, rfl, hg, hbg⟩
  have hrg : r ≠ g := fun e => by rw [e, hgc] at hr; cases hr
  have HFR : Hid (∀ w', Fr [g] w w' → Iz w' va zs ∧ Bz w' vb ps) := hid (fun w' hF => hfr g c0 w' hgc hF)
  obtain ⟨aa, ca, rfl, _⟩ := ha
  obtain ⟨ab, cb', rfl, _⟩ := hb
  obtain ⟨n, hn⟩ : ∃ n, n = zs.length := ⟨_, rfl⟩
  rw [← hf.1, ← hn] at HREF HFR ⊢
  have hq1 : IntKind.i64.wrap (sq + 1) = sq + 1 := by rw [IntWalk.i64_in _ ⟨by omega, by omega⟩]
  have hn0 : ¬ (n : Int) = 0 := by omega
  have HN := hid hn
  have HF := hid hf
  have HL := hid hl
  have HGC := hid hgc
  have HBG0 := hid hBg0
  clear hBg0
  have HR0 := hid hr
  have HO0 := hid ho
  obtain ⟨nb, hnb⟩ : ∃ nb, nb = bl.length := ⟨_, rfl⟩
  rw [← hnb] at HO0 HF HR0
  have HNB := hid hnb
  clear hr ho hnl hz0 hgc hfr hl hf h0 hn hnb
  go_enter Tryd.func23, Tryd.ntmps23
  go_wp2_with fail
  refine HREF.out.mono ?_
  rintro e w1 ⟨rfl, hB1⟩
  have HS0 : Hid (w1.heap[r]? = some (.cells #[.slice (some ⟨g, 0, none⟩) nb cx, .int .i64 sq] 51 (0, 0)) ∧ w1.ownsRow B 9 1 (.slice (some ⟨g, 0, none⟩) nb cx) nb ((layAll bl ((wsOf zs ps).take 0)).map strV) ∧ Fr [g] w w1) := hid ⟨below_at hB1 HR0.out (heap_lt HR0.out), by
    obtain ⟨h1, h2⟩ := HO0.out
    refine ⟨h1, ?_⟩
    rcases h2 with h2 | ⟨g', cap, cur, hv, hb, hg, r2⟩
    · exact .inl h2
    · exact .inr ⟨g', cap, cur, hv, hb, below_at hB1 hg (heap_lt hg), r2⟩, Fr.of_below (X := [g]) hB1⟩
  clear hB1 HREF HR0 HO0
  go_wp2_with fail
  go_loopw [8] (fun y wr => ∃ k : Nat, k ≤ n ∧ y = .int .i64 k ∧ wr.heap[r]? = some (.cells #[.slice (some ⟨g, 0, none⟩) nb cx, .int .i64 sq] 51 (0, 0)) ∧ wr.ownsRow B 9 1 (.slice (some ⟨g, 0, none⟩) nb cx) nb ((layAll bl ((wsOf zs ps).take k)).map strV) ∧ Fr [g] w wr) (fun y _ => n - (intOf y).toNat)
  case atStart => exact ⟨0, by omega, rfl, HS0.out⟩
  case round =>
    clear HS0
    obtain ⟨k, hk, rfl, hr, ho, hFr⟩ := hrel
    have hlz := HN.out
    have hll := HL.out
    have hwk : IntKind.i64.wrap ((k : Int) + 1) = ((k + 1 : Nat) : Int) := by rw [IntWalk.i64_in _ ⟨by omega, by omega⟩]; omega
    by_cases hlt : k < n
    · have hlt' : (k : Int) < (n : Int) := by omega
      obtain ⟨z, hz⟩ : ∃ z, zs[k]? = some z := ⟨_, List.getElem?_eq_getElem (by omega)⟩
      obtain ⟨⟨a1, c1, e1, ha⟩, ⟨a2, c2, e2, hb⟩⟩ := HFR.out wr hFr
      obtain ⟨b1, o1, e3, hc1⟩ := ha k z hz
      obtain ⟨b2, o2, ap, cp, e4, hc2, hs2⟩ := hb k (by have := HF.out.1; omega)
      have hpk : ps[k]? = some (ps.getD k []) := by simp [List.getD, show k < ps.length by have := HF.out.1; omega]
      generalize ps.getD k [] = pk at *
      obtain ⟨rfl, -, rfl⟩ : aa = a1 ∧ n = zs.length ∧ ca = c1 := by injection e1 with h1 h2 h3; exact ⟨h1, h2, h3⟩
      obtain ⟨rfl, -, rfl⟩ : ab = a2 ∧ n = ps.length ∧ cb' = c2 := by injection e2 with h1 h2 h3; exact ⟨h1, h2, h3⟩
      subst e3
      subst e4
      have hzn := HF.out.at (List.mem_of_getElem? hz)
      obtain ⟨m, rfl⟩ : ∃ m : Nat, z = (m : Int) := ⟨z.toNat, by omega⟩
      have hmn : m < nb := by omega
      have hll2 : (layAll bl ((wsOf zs ps).take k)).length = nb := by rw [layAll_len]; exact HNB.out.symm
      have hst : layAll bl ((wsOf zs ps).take (k + 1)) = (layAll bl ((wsOf zs ps).take k)).set m pk := by
        have := layAll_take bl (wsOf zs ps) k _ (wsOf_get hz hpk)
        rw [this]; rfl
      have hoc : ∃ u, wr.cell? ⟨g, m, none⟩ = some u ∧ wr.frozen? ⟨g, m, none⟩ = false := by
        rcases ho.2 with ⟨h, _⟩ | ⟨g', cap', cur, hv, hbb, hg, hc, hm, hs, ht⟩
        · cases h
        · cases hv
          exact ⟨_, cell_at hg m (Array.getElem?_eq_getElem (by omega)), open_at hg m⟩
      obtain ⟨u0, hu0, hf0⟩ := hoc
      have hsto : (Instr.storeAt 9 (.pointer (some ⟨g, m, none⟩)) (strV pk)).run Tryd.prog wr.drew = .ok () (wr.drew.setCell ⟨g, m, none⟩ (strV pk)) := store1 Tryd.sizeOf9 (strV pk) rfl rfl (show wr.drew.cell? ⟨g, m, none⟩ = some u0 from hu0) (show wr.drew.frozen? ⟨g, m, none⟩ = false from hf0)
      have hcv : ∀ w', w'.heap = wr.heap → (convert 33 9 (.slice ap pk.length cp)).run Tryd.prog w' = .ok (strV pk) w' := fun w' hw' => by
        have : Sl w' (.slice ap pk.length cp) pk := by
          obtain ⟨a5, c5, e5, h5, h6, h7⟩ := hs2
          refine ⟨a5, c5, e5, h5, h6, fun hne => ?_⟩
          obtain ⟨b, off, e, hrd⟩ := h7 hne
          exact ⟨b, off, e, fun j hj => by have := hrd j hj; unfold World.cell? at *; rw [hw']; exact this⟩
        exact conv_sl this
      have HZ : Hid ((wr.drew.setCell ⟨g, m, none⟩ (strV pk)).heap[r]? = some (.cells #[.slice (some ⟨g, 0, none⟩) nb cx, .int .i64 sq] 51 (0, 0)) ∧ (wr.drew.setCell ⟨g, m, none⟩ (strV pk)).ownsRow B 9 1 (.slice (some ⟨g, 0, none⟩) nb cx) nb ((layAll bl ((wsOf zs ps).take (k + 1))).map strV) ∧ Fr [g] w (wr.drew.setCell ⟨g, m, none⟩ (strV pk))) := hid ⟨(Fr.setCell wr.drew g m (strV pk)).at (show wr.drew.heap[r]? = _ from hr) (by simpa using hrg), by rw [hst, List.map_set]; exact owns_put (show wr.drew.ownsRow _ _ _ _ _ _ from ho) m (strV pk), (hFr.trans (Fr.drew wr) (by simp)).trans (Fr.setCell wr.drew g m (strV pk)) (fun x hx => .inl hx)⟩
      have HD1 := hid hc1
      have HD2 := hid hc2
      have HDR := hid hr
      have HSTO := hid hsto
      have HCV := hid hcv
      clear e1 e2 hz ha hb hs2 hpk hzn hll2 hst hu0 hf0 hsto hcv hc1 hc2 hr ho hFr hlz hll
      go_upto_region 7 with fail
      refine z_open (S := fun w' => w' = wr.drew) 14 (by kernel_rfl) (by kernel_rfl) (fun _ _ _ _ _ h => h) (L := #[false, false, false, false, false, false, false, false, false, false, false, false, false, false, false]) (by kernel_rfl) ?_
      intro Q' hns hP hN
      have hS := (show wr.drew = wr.drew from rfl)
      refine z_pure (i := 0) (v := .pointer (some ⟨r, 0, none⟩)) hns rfl rfl rfl (by kernel_rfl) (by kernel_rfl) hP (y_move rfl (by kernel_rfl) (by kernel_rfl)) (fun _ => hS) rfl (L' := #[true, false, false, false, false, false, false, false, false, false, false, false, false, false, false]) (by kernel_rfl) ?_
      refine z_pure (i := 1) (v := .pointer (some ⟨r, 0, none⟩)) hns rfl rfl rfl (by kernel_rfl) (by kernel_rfl) hP (y_nil rfl (by kernel_rfl) (by kernel_rfl)) (fun _ => hS) rfl (L' := #[true, true, false, false, false, false, false, false, false, false, false, false, false, false, false]) (by kernel_rfl) ?_
      refine z_pure (i := 2) (v := .pointer (some ⟨r, 0, none⟩)) hns rfl rfl rfl (by kernel_rfl) (by kernel_rfl) hP (y_faddr rfl (by kernel_rfl) (by kernel_rfl) (fa51_0 (r))) (fun _ => hS) rfl (L' := #[true, true, true, false, false, false, false, false, false, false, false, false, false, false, false]) (by kernel_rfl) ?_
      refine z_read (i := 3) (v := .slice (some ⟨g, 0, none⟩) nb cx) hns rfl (by kernel_rfl) rfl rfl (by kernel_rfl) (by kernel_rfl) hP (y_load rfl (by kernel_rfl) (by kernel_rfl) (fun w' h => by subst h; exact load1 Tryd.isAgg49 (cell_at (show wr.drew.heap[r]? = _ from HDR.out) 0 rfl))) rfl hS rfl (L' := #[true, true, true, true, false, false, false, false, false, false, false, false, false, false, false]) (by kernel_rfl) ?_
      refine z_pure (i := 4) (v := .slice (some ⟨b1, o1, none⟩) n ca) hns rfl rfl rfl (by kernel_rfl) (by kernel_rfl) hP (y_move rfl (by kernel_rfl) (by kernel_rfl)) (fun _ => hS) rfl (L' := #[true, true, true, true, true, false, false, false, false, false, false, false, false, false, false]) (by kernel_rfl) ?_
      refine z_pure (i := 5) (v := .int .i64 k) hns rfl rfl rfl (by kernel_rfl) (by kernel_rfl) hP (y_move rfl (by kernel_rfl) (by kernel_rfl)) (fun _ => hS) rfl (L' := #[true, true, true, true, true, true, false, false, false, false, false, false, false, false, false]) (by kernel_rfl) ?_
      refine z_pure (i := 6) (v := .pointer (some ⟨b1, o1 + k, none⟩)) hns rfl rfl rfl (by kernel_rfl) (by kernel_rfl) hP (y_index rfl (by kernel_rfl) (by kernel_rfl) (by kernel_rfl) (idx43 b1 o1 n ca k hlt)) (fun _ => hS) rfl (L' := #[true, true, true, true, true, true, true, false, false, false, false, false, false, false, false]) (by kernel_rfl) ?_
      simp only [List.setIfInBounds_toArray, List.set_cons_zero, List.set_cons_succ]
      refine z_read (i := 7) (v := .int .i64 (m : Nat)) hns rfl (by kernel_rfl) rfl rfl (by kernel_rfl) (by kernel_rfl) hP (y_load rfl (by kernel_rfl) (by kernel_rfl) (fun w' h => by subst h; exact load1 Tryd.isAgg3 (show wr.drew.cell? _ = _ from HD1.out))) rfl hS rfl (L' := #[true, true, true, true, true, true, true, true, false, false, false, false, false, false, false]) (by kernel_rfl) ?_
      refine z_pure (i := 8) (v := .slice (some ⟨b2, o2, none⟩) n cb') hns rfl rfl rfl (by kernel_rfl) (by kernel_rfl) hP (y_move rfl (by kernel_rfl) (by kernel_rfl)) (fun _ => hS) rfl (L' := #[true, true, true, true, true, true, true, true, true, false, false, false, false, false, false]) (by kernel_rfl) ?_
      refine z_pure (i := 9) (v := .int .i64 k) hns rfl rfl rfl (by kernel_rfl) (by kernel_rfl) hP (y_move rfl (by kernel_rfl) (by kernel_rfl)) (fun _ => hS) rfl (L' := #[true, true, true, true, true, true, true, true, true, true, false, false, false, false, false]) (by kernel_rfl) ?_
      refine z_pure (i := 10) (v := .pointer (some ⟨b2, o2 + k, none⟩)) hns rfl rfl rfl (by kernel_rfl) (by kernel_rfl) hP (y_index rfl (by kernel_rfl) (by kernel_rfl) (by kernel_rfl) (idx46 b2 o2 n cb' k hlt)) (fun _ => hS) rfl (L' := #[true, true, true, true, true, true, true, true, true, true, true, false, false, false, false]) (by kernel_rfl) ?_
      refine z_read (i := 11) (v := .slice ap pk.length cp) hns rfl (by kernel_rfl) rfl rfl (by kernel_rfl) (by kernel_rfl) hP (y_load rfl (by kernel_rfl) (by kernel_rfl) (fun w' h => by subst h; exact load1 Tryd.isAgg33 (show wr.drew.cell? _ = _ from HD2.out))) rfl hS rfl (L' := #[true, true, true, true, true, true, true, true, true, true, true, true, false, false, false]) (by kernel_rfl) ?_
      refine z_read (i := 12) (v := strV pk) hns rfl (by kernel_rfl) rfl rfl (by kernel_rfl) (by kernel_rfl) hP (y_convS rfl (by kernel_rfl) (by kernel_rfl) (fun w' h => by subst h; exact HCV.out _ rfl)) rfl hS rfl (L' := #[true, true, true, true, true, true, true, true, true, true, true, true, true, false, false]) (by kernel_rfl) ?_
      refine z_pure (i := 13) (v := .pointer (some ⟨g, m, none⟩)) hns rfl rfl rfl (by kernel_rfl) (by kernel_rfl) hP (y_index rfl (by kernel_rfl) (by kernel_rfl) (by kernel_rfl) (idx49 g nb cx m hmn)) (fun _ => hS) rfl (L' := #[true, true, true, true, true, true, true, true, true, true, true, true, true, true, false]) (by kernel_rfl) ?_
      refine z_last (by kernel_rfl) rfl rfl (by kernel_rfl) (run_storeOp rfl (by kernel_rfl) (by kernel_rfl) HSTO.out) rfl (L' := #[true, true, true, true, true, true, true, true, true, true, true, true, true, true, true]) (by kernel_rfl) ?_
      try simp only [List.setIfInBounds_toArray, List.set_cons_zero, List.set_cons_succ]
      refine z_done (by kernel_rfl) ?_ _
      refine hN _ _ ?_
      clear hP hN hns
      clear hS HSTO HCV HD1 HD2 HDR
      generalize wr.drew.setCell ⟨g, m, none⟩ (strV pk) = wd at *
      go_wp2
      exact ⟨⟨k + 1, hlt, rfl, HZ.out⟩, by simp [intOf]; omega⟩
    · have hlt' : ¬ (k : Int) < (n : Int) := by omega
      have hkn : k = n := by omega
      have hwl : (wsOf zs ps).length = n := by rw [wsOf_len HF.out.1]; exact hlz.symm
      rw [hkn, List.take_of_length_le (by omega)] at ho
      have hcs : wr.cell? ⟨r, 1, none⟩ = some (.int .i64 sq) := cell_at hr 1 rfl
      have hfz := open_at hr 1
      have HZ : Hid (Rj (wr.setCell ⟨r, 1, none⟩ (.int .i64 (sq + 1))) B r (layAll bl (wsOf zs ps)) (sq + 1) ∧ ∃ g c, w.heap[g]? = some (.cells c 9 (0, 0)) ∧ B ≤ g ∧ Fr [r, g] w (wr.setCell ⟨r, 1, none⟩ (.int .i64 (sq + 1)))) := hid ⟨⟨.slice (some ⟨g, 0, none⟩) nb cx, heap_setCell hr 1 (.int .i64 (sq + 1)), by
        have h1 : (layAll bl (wsOf zs ps)).length = nb := by rw [layAll_len]; exact HNB.out.symm
        rw [h1]
        exact owns_set ho hrB 1 _⟩, g, c0, HGC.out, HBG0.out, (hFr.mono (Y := [r, g]) (fun x hx => .inl (by simp at hx; simp [hx]))).trans (Fr.setCell wr r 1 _) (fun x hx => .inl (by simp at hx; simp [hx]))⟩
      clear hr ho hFr hkn hwl hlz hll HGC
      go_wp2
      go_ret
      refine ⟨rfl, HZ.out.1, ?_⟩
      obtain ⟨g, c, h1, h2, h3⟩ := HZ.out.2
      first | exact ⟨g, c, h1, h2, h3⟩ | exact ⟨g, ⟨c, h1⟩, h2, h3⟩

theorem Rj.fr {w w' : World} {B r : Nat} {bl : List (List UInt8)} {sq : Int} {X : List Nat} (h : Rj w B r bl sq) (hF : Fr X w w') (h1 : ∀ g c z, w.heap[g]? = some (.cells c 51 z) → g ∉ X) (h2 : ∀ g c z, w.heap[g]? = some (.cells c 9 z) → g ∉ X) : Rj w' B r bl sq := by
  obtain ⟨vb, hr, ho⟩ := h
  exact ⟨vb, hF.at hr (h1 _ _ _ hr), owns_fr ho hF (fun g c hg => h2 g c _ hg)⟩
theorem Rj.below {w w' : World} {B r : Nat} {bl : List (List UInt8)} {sq : Int} (h : Rj w B r bl sq) (hB : Below w.heap.size w w') : Rj w' B r bl sq := h.fr (X := []) (Fr.of_below hB) (by simp) (by simp)
/-- Write of whatever is handed in. -/
theorem Rj.wr {w : World} {B r sq b5 : Nat} {bl : List (List UInt8)} {va vb : Value} {zs : List Int} {qs : List Qp} (h : Rj w B r bl (sq : Nat)) (hrB : r < B) (ha : Ats w b5 va zs) (hb : Bks w b5 vb qs) (hl : zs.length ≤ 281474976710656) (hsq : sq < 1000000000000) :
    Calls Tryd.prog 23 #[.pointer (some ⟨r, 0, none⟩), va, vb] w fun e w' => e = .returned (.int .i64 (refE bl zs (qs.map ql))) ∧ Rj w' B r (refW sq bl zs (qs.map ql)).2 ((refW sq bl zs (qs.map ql)).1 : Nat) ∧
      ((Below w.heap.size w w') ∨ ∃ g c, w.heap[g]? = some (.cells c 9 (0, 0)) ∧ B ≤ g ∧ Fr [r, g] w w') := by
  unfold refE refW
  by_cases hf : Fit bl.length zs (qs.map ql)
  · rw [if_pos hf]
    by_cases h0 : zs = []
    · subst h0
      have hq0 : qs.map ql = [] := List.length_eq_zero_iff.1 hf.1.symm
      rw [if_neg (fun e => e.2 rfl)]
      have hbz := hb.bz
      rw [hq0] at hbz
      refine (refWrite_none h ha.iz hbz).mono ?_
      rintro e w' ⟨he, hB⟩
      exact ⟨he, h.below hB, .inl hB⟩
    · rw [if_pos ⟨hf, h0⟩]
      refine (refWrite_any2 h hrB ha.iz hb.bz (fun g c w' hg hF => ?_) hl hf h0 ⟨by omega, by omega⟩).mono ?_
      · refine ⟨Ats.iz (B := b5) (owns_fr ha hF (fun k d hk hm => ?_)), Bks.bz (B := b5) (hb.fr hF (fun k d hk hm => ?_) (fun k d hk hm => ?_))⟩
        · obtain rfl : k = g := by simpa using hm
          rw [hg] at hk; injection hk with hk; injection hk with _ e; exact absurd e (by decide)
        · obtain rfl : k = g := by simpa using hm
          rw [hg] at hk; injection hk with hk; injection hk with _ e; exact absurd e (by decide)
        · obtain rfl : k = g := by simpa using hm
          unfold Rw at hk
          rw [hg] at hk; injection hk with hk; injection hk with _ e; exact absurd e (by decide)
      · rintro e w' ⟨he, hR, hx⟩
        refine ⟨he, ?_, .inr hx⟩
        have e1 : (((sq + 1, layAll bl (wsOf zs (qs.map ql))).1 : Nat) : Int) = (sq : Nat) + 1 := by show ((sq + 1 : Nat) : Int) = _; omega
        rw [e1]
        exact hR
  · rw [if_neg hf, if_neg (fun e => hf e.1)]
    refine (refWrite_bad h ha.iz hb.bz hl hf).mono ?_
    rintro e w' ⟨he, hB⟩
    exact ⟨he, h.below hB, .inl hB⟩
end Go.Proofs.YtdogjicccajnkaaDoor
