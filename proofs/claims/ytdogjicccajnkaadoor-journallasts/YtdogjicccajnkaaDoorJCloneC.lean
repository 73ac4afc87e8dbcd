/- The reference's Clone; a Write while the power may go. -/
import Derived.Test.YtdogjicccajnkaaDoorJLastsAC
namespace Go.Proofs.YtdogjicccajnkaaDoor
open Go Go.RowKit

set_option maxRecDepth 100000 in
set_option maxHeartbeats 4000000 in
theorem rclone_any {w : World} {B r : Nat} {bl : List (List UInt8)} {sq : Int} (h : Rj w B r bl sq) (hne : bl.length ≠ 0) (hl : bl.length ≤ 1000000) :
    Calls Tryd.prog 27 #[.pointer (some ⟨r, 0, none⟩)] w fun e w' => ∃ r', w.heap.size ≤ r' ∧ e = .returned (.pointer (some ⟨r', 0, none⟩)) ∧ Rj w' w.heap.size r' bl sq ∧ Below w.heap.size w w' := by
  obtain ⟨vb, hr, ho⟩ := h
  obtain ⟨g, cap, rfl⟩ : ∃ g cap, vb = .slice (some ⟨g, 0, none⟩) bl.length cap := by
    rcases ho.2 with ⟨_, h0⟩ | ⟨g, cap, cur, rfl, _⟩
    · exact absurd h0 hne
    · exact ⟨g, cap, rfl⟩
  obtain ⟨n, hn⟩ : ∃ n, bl.length = n := ⟨_, rfl⟩
  have hd : Below w.heap.size w w.drew := (Below.refl _ _).drew
  obtain ⟨u, wa, hap, hoa, hBa⟩ := copy_strs (w := w.drew) (cap := cap) (fun k b hb => by
    have h1 := rj_cell ho hb
    have hgl := World.block_lt_of_cell? w _ h1
    rw [hd.cell (p := ⟨g, k, none⟩) hgl]
    exact h1) hn (by omega) 49
  rw [hn] at hr
  have hrd := below_at hd hr (heap_lt hr)
  have hra := below_at hBa hrd (heap_lt hrd)
  have hu : ∃ a n c, u = .slice a n c := by
    rcases hoa.2 with ⟨rfl, _⟩ | ⟨g, cap, cur, rfl, _⟩
    · exact ⟨_, _, _, rfl⟩
    · exact ⟨_, _, _, rfl⟩
  have hBb : Below wa.heap.size wa (wa.alloc (.cells #[u, .int .i64 sq] 51)) := (Below.refl _ _).alloc (Nat.le_refl _) _
  have HAP := hid hap
  have HBU := hid (build51 wa u sq hu)
  have HBO := hid (box51 wa u sq hu)
  have HRD := hid hrd
  have HRA := hid hra
  have HRB := hid (below_at hBb hra (heap_lt hra))
  have hsz : w.heap.size ≤ wa.heap.size := hBa.size
  have HZ : Hid (w.heap.size ≤ wa.heap.size ∧ Rj (wa.alloc (.cells #[u, .int .i64 sq] 51)) w.heap.size wa.heap.size bl sq ∧ Below w.heap.size w (wa.alloc (.cells #[u, .int .i64 sq] 51))) := hid ⟨hsz, ⟨u, heap_alloc_last wa _, owns_fr (X := []) hoa (Fr.of_below hBb) (by simp)⟩, (hd.trans hBa).trans (hBb.mono hsz)⟩
  clear hap hoa hBa hrd hra hBb hsz hu hd hr ho hn hne hl
  go_enter Tryd.func27, Tryd.ntmps27
  go_wp2_with fail
  refine z_open (S := fun w' => w'.heap[r]? = some (.cells #[.slice (some ⟨g, 0, none⟩) n cap, .int .i64 sq] 51 (0, 0))) 11 (by kernel_rfl) (by kernel_rfl) (fun _ _ _ _ _ h => h) (L := #[false, false, false, false, false, false, false, false, false, false, false, false]) (by kernel_rfl) ?_
  intro Q' hns hP hN
  have hS := HRD.out
  refine z_pure (i := 0) (v := .pointer (some ⟨r, 0, none⟩)) hns rfl rfl rfl (by kernel_rfl) (by kernel_rfl) hP (y_move rfl (by kernel_rfl) (by kernel_rfl)) (fun _ => hS) rfl (L' := #[true, false, false, false, false, false, false, false, false, false, false, false]) (by kernel_rfl) ?_
  refine z_pure (i := 1) (v := .pointer (some ⟨r, 0, none⟩)) hns rfl rfl rfl (by kernel_rfl) (by kernel_rfl) hP (y_nil rfl (by kernel_rfl) (by kernel_rfl)) (fun _ => hS) rfl (L' := #[true, true, false, false, false, false, false, false, false, false, false, false]) (by kernel_rfl) ?_
  refine z_pure (i := 2) (v := .pointer (some ⟨r, 0, none⟩)) hns rfl rfl rfl (by kernel_rfl) (by kernel_rfl) hP (y_faddr rfl (by kernel_rfl) (by kernel_rfl) (fa51_0 (r))) (fun _ => hS) rfl (L' := #[true, true, true, false, false, false, false, false, false, false, false, false]) (by kernel_rfl) ?_
  refine z_read (i := 3) (v := .slice (some ⟨g, 0, none⟩) n cap) hns rfl (by kernel_rfl) rfl rfl (by kernel_rfl) (by kernel_rfl) hP (y_load rfl (by kernel_rfl) (by kernel_rfl) (fun w' h => load1 Tryd.isAgg49 (cell_at h 0 rfl))) rfl hS rfl (L' := #[true, true, true, true, false, false, false, false, false, false, false, false]) (by kernel_rfl) ?_
  refine z_pure (i := 5) (v := .pointer (some ⟨r, 0, none⟩)) hns rfl rfl rfl (by kernel_rfl) (by kernel_rfl) hP (y_move rfl (by kernel_rfl) (by kernel_rfl)) (fun _ => hS) rfl (L' := #[true, true, true, true, false, true, false, false, false, false, false, false]) (by kernel_rfl) ?_
  refine z_pure (i := 6) (v := .pointer (some ⟨r, 0, none⟩)) hns rfl rfl rfl (by kernel_rfl) (by kernel_rfl) hP (y_nil rfl (by kernel_rfl) (by kernel_rfl)) (fun _ => hS) rfl (L' := #[true, true, true, true, false, true, true, false, false, false, false, false]) (by kernel_rfl) ?_
  refine z_pure (i := 7) (v := .pointer (some ⟨r, 1, none⟩)) hns rfl rfl rfl (by kernel_rfl) (by kernel_rfl) hP (y_faddr rfl (by kernel_rfl) (by kernel_rfl) (fa51_1 (r))) (fun _ => hS) rfl (L' := #[true, true, true, true, false, true, true, true, false, false, false, false]) (by kernel_rfl) ?_
  simp only [List.setIfInBounds_toArray, List.set_cons_zero, List.set_cons_succ]
  refine z_read (i := 8) (v := .int .i64 sq) hns rfl (by kernel_rfl) rfl rfl (by kernel_rfl) (by kernel_rfl) hP (y_load rfl (by kernel_rfl) (by kernel_rfl) (fun w' h => load1 Tryd.isAgg2 (cell_at h 1 rfl))) rfl hS rfl (L' := #[true, true, true, true, false, true, true, true, true, false, false, false]) (by kernel_rfl) ?_
  refine z_val (i := 4) (v := u) (by kernel_rfl) rfl rfl (by kernel_rfl) (run_appOp rfl (by kernel_rfl) (by kernel_rfl) HAP.out) HRA.out rfl (L' := #[true, true, true, true, true, true, true, true, true, false, false, false]) (by kernel_rfl) ?_
  refine z_val (i := 9) (v := .agg #[u, .int .i64 sq]) (by kernel_rfl) rfl rfl (by kernel_rfl) (run_buildOp rfl (by kernel_rfl) HBU.out) HRA.out rfl (L' := #[true, true, true, true, true, true, true, true, true, true, false, false]) (by kernel_rfl) ?_
  refine z_val (i := 10) (v := .pointer (some ⟨wa.heap.size, 0, none⟩)) (by kernel_rfl) rfl rfl (by kernel_rfl) (run_boxOp rfl (by kernel_rfl) HBO.out) HRB.out rfl (L' := #[true, true, true, true, true, true, true, true, true, true, true, false]) (by kernel_rfl) ?_
  refine z_val (i := 11) (v := .pointer (some ⟨wa.heap.size, 0, none⟩)) (by kernel_rfl) rfl rfl (by kernel_rfl) (run_asg rfl (by kernel_rfl)) HRB.out rfl (L' := #[true, true, true, true, true, true, true, true, true, true, true, true]) (by kernel_rfl) ?_
  try simp only [List.setIfInBounds_toArray, List.set_cons_zero, List.set_cons_succ]
  refine z_done (by kernel_rfl) ?_ _
  refine hN _ _ ?_
  clear hP hN hns
  clear HAP HBU HBO HRD HRA HRB hS
  go_wp2
  go_ret
  exact ⟨_, HZ.out.1, rfl, HZ.out.2⟩
/-- A journal at rest, in memory from B on; the power may go. -/
structure Jc (B : Nat) (w : World) (j p : Nat) (X : List Nat) (s : DS) (sq cnt : Nat) (bl : List (List UInt8)) : Prop where
  jr : Jr w j p X s sq cnt bl
  lo : ∀ k ∈ X, B ≤ k
  jlo : B ≤ j
theorem Jc.below {B : Nat} {w w' : World} {j p : Nat} {X : List Nat} {s : DS} {sq cnt : Nat} {bl : List (List UInt8)} (h : Jc B w j p X s sq cnt bl) (hB : Below w.heap.size w w') : Jc B w' j p X s sq cnt bl := ⟨h.jr.below hB, h.lo, h.jlo⟩
theorem Jc.lo' {B : Nat} {w : World} {j p : Nat} {X : List Nat} {s : DS} {sq cnt : Nat} {bl : List (List UInt8)} (h : Jc B w j p X s sq cnt bl) : ∀ k ∈ j :: X, B ≤ k := fun k hk => by
  rcases List.mem_cons.1 hk with rfl | hk
  · exact h.jlo
  · exact h.lo k hk
theorem Jc.lt {B : Nat} {w : World} {j p : Nat} {X : List Nat} {s : DS} {sq cnt : Nat} {bl : List (List UInt8)} (h : Jc B w j p X s sq cnt bl) : ∀ k ∈ j :: X, k < w.heap.size := fun k hk => by
  rcases List.mem_cons.1 hk with rfl | hk
  · exact heap_lt h.jr.jn
  · exact h.jr.disk.lt k hk
theorem Jc.not {B : Nat} {w : World} {j p : Nat} {X : List Nat} {s : DS} {sq cnt : Nat} {bl : List (List UInt8)} (h : Jc B w j p X s sq cnt bl) {g : Nat} {c : Array Value} {t : TypeId} {z : Nat × Nat} (hg : w.heap[g]? = some (.cells c t z)) (h1 : t ≠ 100) (h2 : t ≠ 104) (h3 : t ≠ 82) : g ∉ j :: X := fun hm => by
  rcases List.mem_cons.1 hm with rfl | hm
  · have hj := h.jr.jn
    rw [Jn, hg] at hj
    injection hj with hj
    injection hj with _ e
    exact h3 e
  · exact h.jr.disk.other hg h1 h2 hm
theorem Jc.fr {B : Nat} {w w' : World} {j p : Nat} {X Y : List Nat} {s : DS} {sq cnt : Nat} {bl : List (List UInt8)} (h : Jc B w j p X s sq cnt bl) (hF : Fr Y w w') (hY : ∀ k ∈ j :: X, k ∉ Y) (ht : Tab w') : Jc B w' j p X s sq cnt bl :=
  ⟨⟨hF.at h.jr.jn (hY j (by simp)), h.jr.disk.fr hF (fun k hk => hY k (by simp [hk])), ht, h.jr.sett⟩, h.lo, h.jlo⟩
/-- What a Write leaves where the power went: wholly or not at all. -/
structure Gone (B : Nat) (w : World) (j p : Nat) (X : List Nat) (s : DS) (n sq cnt : Nat) (bl : List (List UInt8)) (sq2 cnt2 : Nat) (bl2 : List (List UInt8)) : Prop where
  jn : ∃ q : Int, Jn w j p (nbOf n) q 43
  disk : Disk w p X s
  tab : Tab w
  sn : s.n = n
  lo : ∀ k ∈ X, B ≤ k
  jlo : B ≤ j
  con : ∀ zs, Con (crashed s.kept s.loose zs) (nbOf n) sq cnt bl ∨ Con (crashed s.kept s.loose zs) (nbOf n) sq2 cnt2 bl2
theorem Jc.wr {B : Nat} {w : World} {j p : Nat} {X : List Nat} {s : DS} {sq cnt : Nat} {bl : List (List UInt8)} (h : Jc B w j p X s sq cnt bl) (hBw : B ≤ w.heap.size) (hsq : sq + 1 ≤ 1000000000) {va vb : Value} {zs : List Int} {ps : List (List UInt8)} (ha : Iz w va zs) (hb : Bz w vb ps) (hl : zs.length ≤ 281474976710656) (ho : s.ops + ((2 * nbOf s.n + 4 : Nat) : Int) ≤ 1048576) :
    Calls Tryd.prog 15 #[.pointer (some ⟨j, 0, none⟩), va, vb] w fun e w' => Below B w w' ∧ Kp w w' ∧
      ((e = .returned (.int .i64 (refE bl zs ps)) ∧ ∃ s' X' cnt', Jc B w' j p X' s' (refW sq bl zs ps).1 cnt' (refW sq bl zs ps).2 ∧ s'.n = s.n ∧ s.ops ≤ s'.ops ∧ s'.ops ≤ s.ops + ((2 * zs.length + 4 : Nat) : Int)) ∨
       (e = .returned (.int .i64 43) ∧ refE bl zs ps = 0 ∧ ∃ s' X' cnt2, Gone B w' j p X' s' s.n sq cnt bl (refW sq bl zs ps).1 cnt2 (refW sq bl zs ps).2)) := by
  have hbl : bl.length = nbOf s.n := h.jr.sett.con.len
  unfold refE refW
  by_cases hf : Fit bl.length zs ps
  · rw [if_pos hf]
    by_cases h0 : zs = []
    · subst h0
      obtain rfl : ps = [] := List.length_eq_zero_iff.1 hf.1.symm
      rw [if_neg (fun e => e.2 rfl)]
      refine (jwrite_none h.jr.jn ha hb).mono ?_
      rintro e w' ⟨he, hB⟩
      exact ⟨hB.mono hBw, Kp.of_below hB, .inl ⟨he, s, X, cnt, h.below hB, rfl, Int.le_refl _, by omega⟩⟩
    · rw [if_pos ⟨hf, h0⟩]
      have hf' : Fit (nbOf s.n) zs ps := by rw [← hbl]; exact hf
      have hwl := wsOf_len hf'.1
      have hnl := hf'.len
      have hs := com_shape h.jr.sett (ws := wsOf zs ps) hsq (by rw [hwl]; exact hnl) (wsOf_nodup hf') (wsOf_ok hf') (by rw [hwl]; omega)
      rw [hwl] at hs
      refine (jwrite_any h.jr.jn h.jr.disk h.jr.tab (by have := h.jr.nb; omega) (by omega) ha hb hf' h0).mono ?_
      rintro e w' ⟨he, hj, ⟨X', hD, hX⟩, hF⟩
      rw [nsOf_ws hf'] at he hj hD
      refine ⟨hF.below hBw h.lo', Kp.of_fr h.jr.disk h.jr.jn hF, ?_⟩
      have hT := h.jr.tab.fr hF (tab_not h.jr.disk h.jr.jn h.jr.tab)
      have hlo : ∀ k ∈ X', B ≤ k := fun k hk => (hX k hk).elim (h.lo k) (Nat.le_trans hBw)
      rcases hs with ⟨s', hc, hS, h1, h2, h3⟩ | ⟨s', hc, _, h1, hcon⟩
      · rw [hc] at he hj hD
        refine .inl ⟨he, s', X', _, ⟨⟨?_, hD, hT, hS⟩, hlo, h.jlo⟩, h1, by omega, by omega⟩
        rw [h1]
        exact hj
      · rw [hc] at he hj hD
        exact .inr ⟨he, rfl, s', X', zs.length, ⟨_, hj⟩, hD, hT, h1, hlo, h.jlo, hcon⟩
  · rw [if_neg hf, if_neg (fun e => hf e.1)]
    refine (jwrite_bad h.jr.jn ha hb hl (by rw [← hbl]; exact hf)).mono ?_
    rintro e w' ⟨he, hB⟩
    exact ⟨hB.mono hBw, Kp.of_below hB, .inl ⟨he, s, X, cnt, h.below hB, rfl, Int.le_refl _, by omega⟩⟩
end Go.Proofs.YtdogjicccajnkaaDoor
