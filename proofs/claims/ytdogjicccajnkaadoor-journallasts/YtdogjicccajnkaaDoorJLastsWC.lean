/- The walk of JournalLasts. -/
import Derived.Test.YtdogjicccajnkaaDoorJLivesC
namespace Go.Proofs.YtdogjicccajnkaaDoor
open Go Go.RowKit

theorem idxP (b o n cap k : Nat) (h : k < n) (w : World) : (Instr.indexAt 22 (.slice (some ⟨b, o, none⟩) n cap) (.int .i64 k)).run Tryd.prog w = .ok (.pointer (some ⟨b, o + k * 4, none⟩)) w := by
  have h1 : (k : Int) < n := by omega
  go_simp
theorem idxL (b o n cap k : Nat) (h : k < n) (w : World) : (Instr.indexAt 56 (.slice (some ⟨b, o, none⟩) n cap) (.int .i64 k)).run Tryd.prog w = .ok (.pointer (some ⟨b, o + k * 4, none⟩)) w := by
  have h1 : (k : Int) < n := by omega
  go_simp
theorem allocL (w : World) : (Instr.alloc 59 true (.tuple #[])).run Tryd.prog w = .ok (.pointer (some ⟨w.heap.size, 0, none⟩)) (w.alloc (.cells #[.slice none 0 0, .int .i64 0, .slice none 0 0, .slice none 0 0] 59)) := by go_simp
theorem loadL {w : World} {b o : Nat} {v : LifeV} (h0 : w.cell? ⟨b, o, none⟩ = some (.slice v.sa v.sn v.sc)) (h1 : w.cell? ⟨b, o + 1, none⟩ = some (.int .i64 v.cut)) (h2 : w.cell? ⟨b, o + 2, none⟩ = some (.slice v.ta v.tn v.tc)) (h3 : w.cell? ⟨b, o + 3, none⟩ = some (.slice v.ga v.gn v.gc)) : (Instr.loadAt 59 (.pointer (some ⟨b, o, none⟩))).run Tryd.prog w = .ok (.agg #[.slice v.sa v.sn v.sc, .int .i64 v.cut, .slice v.ta v.tn v.tc, .slice v.ga v.gn v.gc]) w := by
  go_simp
theorem storeL (w : World) (v : LifeV) : (Instr.storeAt 59 (.pointer (some ⟨w.heap.size, 0, none⟩)) (.agg #[.slice v.sa v.sn v.sc, .int .i64 v.cut, .slice v.ta v.tn v.tc, .slice v.ga v.gn v.gc])).run Tryd.prog (w.alloc (.cells #[.slice none 0 0, .int .i64 0, .slice none 0 0, .slice none 0 0] 59)) = .ok () (w.alloc (.cells #[.slice v.sa v.sn v.sc, .int .i64 v.cut, .slice v.ta v.tn v.tc, .slice v.ga v.gn v.gc] 59)) :=
  store_new Tryd.prog w 59 4 (by kernel_rfl) #[.slice none 0 0, .int .i64 0, .slice none 0 0, .slice none 0 0] [.slice v.sa v.sn v.sc, .int .i64 v.cut, .slice v.ta v.tn v.tc, .slice v.ga v.gn v.gc] rfl rfl (fun u hm => by
    simp only [List.mem_cons, List.not_mem_nil, or_false] at hm
    rcases hm with rfl | rfl | rfl | rfl <;> rfl)
theorem fa59_0 (b : Nat) (w : World) : (Instr.fieldAt 59 (.pointer (some ⟨b, 0, none⟩)) 0).run Tryd.prog w = .ok (.pointer (some ⟨b, 0, none⟩)) w := by go_simp
theorem fa59_1 (b : Nat) (w : World) : (Instr.fieldAt 59 (.pointer (some ⟨b, 0, none⟩)) 1).run Tryd.prog w = .ok (.pointer (some ⟨b, 1, none⟩)) w := by go_simp
theorem fa59_2 (b : Nat) (w : World) : (Instr.fieldAt 59 (.pointer (some ⟨b, 0, none⟩)) 2).run Tryd.prog w = .ok (.pointer (some ⟨b, 2, none⟩)) w := by go_simp
theorem fa59_3 (b : Nat) (w : World) : (Instr.fieldAt 59 (.pointer (some ⟨b, 0, none⟩)) 3).run Tryd.prog w = .ok (.pointer (some ⟨b, 3, none⟩)) w := by go_simp
/-- A script's call at a place in memory. -/
def OpAt (w : World) (b o : Nat) (x : OpV6) : Prop := w.cell? ⟨b, o, none⟩ = some (.int .i64 x.kd) ∧ w.cell? ⟨b, o + 1, none⟩ = some x.va ∧ w.cell? ⟨b, o + 2, none⟩ = some (.int .u8 x.by_) ∧ w.cell? ⟨b, o + 3, none⟩ = some (.int .i64 x.raw)
theorem OpAt.load {w : World} {b o : Nat} {x : OpV6} (h : OpAt w b o x) : (Instr.loadAt 45 (.pointer (some ⟨b, o, none⟩))).run Tryd.prog w = .ok (.agg #[.int .i64 x.kd, x.va, .int .u8 x.by_, .int .i64 x.raw]) w := by
  obtain ⟨h0, h1, h2, h3⟩ := h
  go_simp
theorem OpAt.below {w w' : World} {b o : Nat} {x : OpV6} (h : OpAt w b o x) (hB : Below w.heap.size w w') : OpAt w' b o x := by
  have hb : b < w.heap.size := World.block_lt_of_cell? w _ h.1
  exact ⟨(hB.cell (p := ⟨b, o, none⟩) hb).trans h.1, (hB.cell (p := ⟨b, o + 1, none⟩) hb).trans h.2.1, (hB.cell (p := ⟨b, o + 2, none⟩) hb).trans h.2.2.1, (hB.cell (p := ⟨b, o + 3, none⟩) hb).trans h.2.2.2⟩
theorem Ops6.at {W : World} {a : Option Addr} {len : Nat} {xs : List OpV6} (h : Ops6 W a len xs) {i : Nat} {x : OpV6} (hx : xs[i]? = some x) : ∃ b o, a = some ⟨b, o, none⟩ ∧ OpAt W b (o + i * 4) x := by
  obtain ⟨b, o, e, k0, k1, k2, k3⟩ := h.2 i x hx
  exact ⟨b, o, e, k0, by rw [Nat.add_assoc]; exact k1, by rw [Nat.add_assoc]; exact k2, by rw [Nat.add_assoc]; exact k3⟩
theorem lhas_same {w : World} {j p : Nat} {X : List Nat} {s : DS} {sq cnt : Nat} {bl : List (List UInt8)} (h : Jr w j p X s sq cnt bl) {B r : Nat} (hr : Rj w B r bl (sq : Nat)) :
    Calls Tryd.prog 25 #[.pointer (some ⟨j, 0, none⟩), .pointer (some ⟨r, 0, none⟩)] w fun e w' => e = .returned (.bool true) ∧ Below w.heap.size w w' := by
  have h1 := lhas_any h hr rfl
  rw [decide_eq_true (And.intro rfl rfl)] at h1
  exact h1
theorem refE_two (bl : List (List UInt8)) (zs : List Int) (ps : List (List UInt8)) : refE bl zs ps = 0 ∨ refE bl zs ps = 2 := by
  unfold refE; split
  · exact .inl rfl
  · exact .inr rfl
theorem Gone.below {B : Nat} {w w' : World} {j p : Nat} {X : List Nat} {s : DS} {n sq cnt : Nat} {bl : List (List UInt8)} {sq2 cnt2 : Nat} {bl2 : List (List UInt8)} (h : Gone B w j p X s n sq cnt bl sq2 cnt2 bl2) (hB : Below w.heap.size w w') : Gone B w' j p X s n sq cnt bl sq2 cnt2 bl2 := by
  obtain ⟨q, hj⟩ := h.jn
  exact ⟨⟨q, below_at hB hj (heap_lt hj)⟩, h.disk.below hB, h.tab.below hB, h.sn, h.lo, h.jlo, h.con⟩
theorem Gone.not {B : Nat} {w : World} {j p : Nat} {X : List Nat} {s : DS} {n sq cnt : Nat} {bl : List (List UInt8)} {sq2 cnt2 : Nat} {bl2 : List (List UInt8)} (h : Gone B w j p X s n sq cnt bl sq2 cnt2 bl2) {g : Nat} {c : Array Value} {t : TypeId} {z : Nat × Nat} (hg : w.heap[g]? = some (.cells c t z)) (h1 : t ≠ 100) (h2 : t ≠ 104) (h3 : t ≠ 82) : g ∉ j :: X := fun hm => by
  rcases List.mem_cons.1 hm with rfl | hm
  · obtain ⟨q, hj⟩ := h.jn
    rw [Jn, hg] at hj
    injection hj with hj
    injection hj with _ e
    exact h3 e
  · exact h.disk.other hg h1 h2 hm
theorem Gone.fr {B : Nat} {w w' : World} {j p : Nat} {X Y : List Nat} {s : DS} {n sq cnt : Nat} {bl : List (List UInt8)} {sq2 cnt2 : Nat} {bl2 : List (List UInt8)} (h : Gone B w j p X s n sq cnt bl sq2 cnt2 bl2) (hF : Fr Y w w') (hY : ∀ k ∈ Y, k ∉ j :: X) (ht : Tab w') : Gone B w' j p X s n sq cnt bl sq2 cnt2 bl2 := by
  obtain ⟨q, hj⟩ := h.jn
  exact ⟨⟨q, hF.at hj (fun hm => hY j hm (by simp))⟩, h.disk.fr hF (fun k hk hm => hY k hm (by simp [hk])), ht, h.sn, h.lo, h.jlo, h.con⟩
/-- How it stands behind so many lives. -/
structure Lst (W : World) (ab n i : Nat) (wr : World) (j p r : Nat) (X : List Nat) (s : DS) (sq cnt : Nat) (bl : List (List UInt8)) (Br : Nat) : Prop where
  js : Js ab wr j p X s sq cnt bl
  rj : Rj wr Br r bl (sq : Nat)
  rlo : ab ≤ r
  blo : ab ≤ Br
  below : Below ab W wr
  sn : s.n = n
  sq_le : sq ≤ 25 * i
  ops : s.ops ≤ ((2 * nbOf n + 3 : Nat) : Int)
  ops0 : 0 ≤ s.ops
/-- How it stands within a life. -/
def Mid (W : World) (ab n i k : Nat) (wr : World) (j p r : Nat) (lb : Nat) (v : LifeV) (v11 v12 : Value) : Prop :=
  Below ab W wr ∧ wr.heap[lb]? = some (.cells #[.slice v.sa v.sn v.sc, .int .i64 v.cut, .slice v.ta v.tn v.tc, .slice v.ga v.gn v.gc] 59 (0, 0)) ∧
  ∃ (X : List Nat) (s : DS) (sq cnt : Nat) (bl : List (List UInt8)) (Br : Nat), Rj wr Br r bl (sq : Nat) ∧ ab ≤ Br ∧ sq ≤ 25 * i + k ∧ bl.length = nbOf n ∧
   ((v12 = .bool false ∧ Jc ab wr j p X s sq cnt bl ∧ s.n = n ∧ s.ops ≤ ((2 * nbOf n + 3 + 100 * k : Nat) : Int) ∧ 0 ≤ s.ops) ∨
    (v12 = .bool true ∧ ∃ t sq2 cnt2 bl2 Bt, v11 = .pointer (some ⟨t, 0, none⟩) ∧ Gone ab wr j p X s n sq cnt bl sq2 cnt2 bl2 ∧ Rj wr Bt t bl2 (sq2 : Nat) ∧ ab ≤ t ∧ ab ≤ Bt ∧ sq2 ≤ 25 * i + k ∧ bl2.length = nbOf n))
set_option maxRecDepth 100000 in
set_option maxHeartbeats 16000000 in
theorem journalLasts_walk (c : Int) (a : Option Addr) (N cap : Nat) (vs : List LifeV) (W : World) (ht : Tab W) (hc : -9223372036854775808 ≤ c ∧ c ≤ 9223372036854775807) (hs : Lives W a N vs) (hF : ∀ x ∈ vs, LifeG W x) (hN : N ≤ 9223372036854775807) :
    Calls Tryd.prog 4 #[.int .i64 c, .slice a N cap] W fun e w' => e = .returned (.bool true) ∧ Below W.heap.size W w' := by
  have HNN := hid (sizeOf6_le c)
  have HSZ := hid (fun w => size_any c hc.1 hc.2 w)
  generalize sizeOf6 c = n at *
  have HT := hid ht
  have HTL := hid (tab_lt ht)
  have HS := hid hs
  have HF := hid hF
  have HNL := hid hN
  have HNB : Hid (nbOf n ≠ 0 ∧ nbOf n ≤ 1000000) := hid (by have := HNN.out; unfold nbOf; omega)
  have HNB2 : Hid (nbOf n ≤ 45) := hid (by have := HNN.out; unfold nbOf; omega)
  clear ht hs hF hN hc
  obtain ⟨ab, hab⟩ : ∃ ab, W.heap.size = ab := ⟨_, rfl⟩
  have HAB := hid hab
  rw [hab] at HTL ⊢
  have HW0 : Hid (ab ≤ W.heap.size) := hid (Nat.le_of_eq hab.symm)
  go_enter Tryd.func4, Tryd.ntmps4
  go_wp2_with fail
  refine (shown_any W HT.out).mono ?_
  rintro e w1 ⟨rfl, hB1⟩
  rw [hab] at hB1
  have HB1 : Hid (Below ab W w1) := hid hB1
  clear hB1 hab
  go_wp2_with fail
  refine (HSZ.out _).mono ?_
  rintro e wz ⟨rfl, hwz⟩
  obtain rfl := hwz.symm
  go_wp2_with fail
  refine (begun_any n HNN.out.1 (by have := HNN.out; omega) w1 (HT.out.belowB HB1.out HTL.out)).mono ?_
  intro e w2 hbg
  obtain ⟨p, j, r, X, s, rfl, hJ2, hsn, hso, hR2, hrb, hB2⟩ := hbg.js
  have hab1 : ab ≤ w1.heap.size := Nat.le_trans HW0.out HB1.out.size
  have HP0 : Hid (Lst W ab n 0 w2 j p r X s 0 0 (zeros (nbOf n)) (r + 1)) := hid ⟨⟨hJ2.jr, hJ2.cut, fun k hk => Nat.le_trans hab1 (hJ2.lo k hk), Nat.le_trans hab1 hJ2.jlo⟩, hR2, Nat.le_trans hab1 hrb, Nat.le_trans (Nat.le_trans hab1 hrb) (Nat.le_succ _), HB1.out.trans (hB2.mono hab1), hsn, Nat.le_refl _, by rw [hso]; omega, by rw [hso]; omega⟩
  clear hJ2 hsn hso hR2 hrb hB2 hbg hab1 HB1
  go_wp2_with fail
  go_loopw [6, 7, 8, 9, 10, 11, 12, 13, 14, 15, 16, 17, 18, 19, 20, 21, 22, 23, 24, 25] (fun v6 v7 v8 v9 _ _ _ _ _ _ _ _ _ _ _ _ _ _ _ _ wr => ∃ (i j p r : Nat) (X : List Nat) (s : DS) (sq cnt : Nat) (bl : List (List UInt8)) (Br : Nat), i ≤ N ∧ i ≤ 5 ∧ v9 = .int .i64 i ∧ v6 = .pointer (some ⟨p, 0, none⟩) ∧ v7 = .pointer (some ⟨j, 0, none⟩) ∧ v8 = .pointer (some ⟨r, 0, none⟩) ∧ Lst W ab n i wr j p r X s sq cnt bl Br) (fun _ _ _ v9 _ _ _ _ _ _ _ _ _ _ _ _ _ _ _ _ _ => N - (intOf v9).toNat)
  case atStart => exact ⟨0, j, p, r, X, s, 0, 0, _, _, Nat.zero_le _, Nat.zero_le _, rfl, rfl, rfl, rfl, HP0.out⟩
  case round =>
    clear HP0
    rename World => wo
    obtain ⟨i, j, p, r, X, s, sq, cnt, bl, Br, hi1, hi2, rfl, rfl, rfl, rfl, hP⟩ := hrel
    have hwi : IntKind.i64.wrap ((i : Int) + 1) = ((i + 1 : Nat) : Int) := by rw [IntWalk.i64_in _ ⟨by omega, by omega⟩]; omega
    by_cases hlt : i < N ∧ i < 5
    · have hb1 : (i : Int) < (N : Int) := by omega
      have hb2 : (i : Int) < 5 := by omega
      obtain ⟨v, hv⟩ : ∃ v, vs[i]? = some v := ⟨_, List.getElem?_eq_getElem (by have := HS.out.1; omega)⟩
      obtain ⟨bo, oo, rfl, k0, k1, k2, k3⟩ := HS.out.2 i v hv
      have hV := HF.out v (List.mem_of_getElem? hv)
      have hcell : ∀ (d : Nat) (u : Value), W.cell? ⟨bo, oo + i * 4 + d, none⟩ = some u → wo.cell? ⟨bo, oo + i * 4 + d, none⟩ = some u := fun d u h => by
        rw [hP.below.cell (p := ⟨bo, oo + i * 4 + d, none⟩) (by rw [← HAB.out]; exact World.block_lt_of_cell? W _ h)]; exact h
      have HLD := hid (loadL (v := v) (hcell 0 _ k0) (hcell 1 _ k1) (hcell 2 _ k2) (hcell 3 _ k3))
      have HSTO := hid (storeL wo v)
      have HIN : Hid (i < N) := hid hlt.1
      have HI : Hid (i + 1 ≤ N ∧ i + 1 ≤ 5) := hid ⟨hlt.1, hlt.2⟩
      have HV := hid hV
      have HPI := hid hP
      have HBa : Hid (Below wo.heap.size wo (wo.alloc (.cells #[.slice v.sa v.sn v.sc, .int .i64 v.cut, .slice v.ta v.tn v.tc, .slice v.ga v.gn v.gc] 59))) := hid ((Below.refl _ _).alloc (Nat.le_refl _) _)
      have HBX : Hid ((wo.alloc (.cells #[.slice v.sa v.sn v.sc, .int .i64 v.cut, .slice v.ta v.tn v.tc, .slice v.ga v.gn v.gc] 59)).heap[wo.heap.size]? = some (.cells #[.slice v.sa v.sn v.sc, .int .i64 v.cut, .slice v.ta v.tn v.tc, .slice v.ga v.gn v.gc] 59 (0, 0))) := hid (heap_alloc_last wo _)
      have HPK := hid (fun w => pick_any v.cut 400 hV.1.2.2.2.1.1 hV.1.2.2.2.1.2 (by decide) w)
      have HQ := hid (pk_lt v.cut (n := 400) (by decide))
      generalize pk v.cut 400 = q at *
      clear hi1 hi2 hlt hP hv k0 k1 k2 k3 hV hcell
      go_upto_region 8 with fail
      refine wp_region_lit ?_
      refine wp_y (v := .slice (some ⟨bo, oo, none⟩) N cap) rfl rfl (y_move rfl (by kernel_rfl) (by kernel_rfl)) rfl ?_
      refine wp_y (v := .int .i64 i) rfl rfl (y_move rfl (by kernel_rfl) (by kernel_rfl)) rfl ?_
      refine wp_y (v := .pointer (some ⟨bo, oo + i * 4, none⟩)) rfl rfl (y_index rfl (by kernel_rfl) (by kernel_rfl) (by kernel_rfl) (idxL bo oo N cap i HIN.out)) rfl ?_
      refine wp_y (v := .agg #[.slice v.sa v.sn v.sc, .int .i64 v.cut, .slice v.ta v.tn v.tc, .slice v.ga v.gn v.gc]) rfl rfl (y_load rfl (by kernel_rfl) (by kernel_rfl) (fun w' h => by rw [h]; exact HLD.out)) rfl ?_
      refine wp_run (v := .pointer (some ⟨wo.heap.size, 0, none⟩)) rfl rfl (run_alOp rfl (allocL wo)) rfl ?_
      refine wp_do rfl rfl (run_storeOp rfl (by kernel_rfl) (by kernel_rfl) HSTO.out) ?_
      try simp only [List.setIfInBounds_toArray, List.set_cons_zero, List.set_cons_succ]
      refine wp_end ?_
      clear HLD HSTO
      generalize wo.alloc (.cells #[.slice v.sa v.sn v.sc, .int .i64 v.cut, .slice v.ta v.tn v.tc, .slice v.ga v.gn v.gc] 59) = wp at *
      have hd : Below wp.heap.size wp wp.drew := (Below.refl _ _).drew
      have hWp : Below ab W wp := HPI.out.below.trans (HBa.out.mono (Nat.le_trans HW0.out HPI.out.below.size))
      have HJD := hid ((HPI.out.js.below HBa.out).below hd)
      have HRD := hid ((HPI.out.rj.below HBa.out).below hd)
      have HWD := hid (hWp.trans (hd.mono (Nat.le_trans HW0.out hWp.size)))
      have HLB := hid (below_at hd HBX.out (heap_lt HBX.out))
      generalize hlb : wo.heap.size = lb at *
      have HDD := hid HJD.out.jr.disk
      obtain ⟨op0, hop0⟩ : ∃ op0, s.ops = op0 := ⟨_, rfl⟩
      have HO0 := hid hop0
      have HAD : Hid (IntKind.i64.wrap (op0 + (q : Nat)) = op0 + (q : Nat)) := hid (by have := HQ.out; have := HNB2.out; have h1 := HPI.out.ops; have h2 := HPI.out.ops0; rw [hop0] at h1 h2; rw [IntWalk.i64_in _ ⟨by omega, by omega⟩])
      have HRLO := hid HPI.out.rlo
      have HPB := hid (And.intro HPI.out.sn (And.intro HPI.out.sq_le (And.intro HPI.out.ops (And.intro HPI.out.ops0 HPI.out.blo))))
      clear hd hWp hop0 HBa HBX hlb HPI
      go_wp2_with fail
      refine h_openL (S := fun w' => w'.heap[lb]? = some (.cells #[.slice v.sa v.sn v.sc, .int .i64 v.cut, .slice v.ta v.tn v.tc, .slice v.ga v.gn v.gc] 59 (0, 0))) (by kernel_rfl) (by kernel_rfl) (fun _ _ _ _ _ h => h) (L := #[false, false, false, false, false, false, false, false]) (by kernel_rfl) ?_
      intro Q' hns hP hN
      have hS := HLB.out
      refine h_takeL (i := 0) (v := .pointer (some ⟨p, 0, none⟩)) hns rfl rfl (by kernel_rfl) (by kernel_rfl) hP (y_move rfl (by kernel_rfl) (by kernel_rfl)) hS rfl (L' := #[true, false, false, false, false, false, false, false]) (by kernel_rfl) ?_
      refine h_takeL (i := 1) (v := .pointer (some ⟨p, 0, none⟩)) hns rfl rfl (by kernel_rfl) (by kernel_rfl) hP (y_move rfl (by kernel_rfl) (by kernel_rfl)) hS rfl (L' := #[true, true, false, false, false, false, false, false]) (by kernel_rfl) ?_
      refine h_takeL (i := 3) (v := .pointer (some ⟨lb, 1, none⟩)) hns rfl rfl (by kernel_rfl) (by kernel_rfl) hP (y_faddr rfl (by kernel_rfl) (by kernel_rfl) (fa59_1 (lb))) hS rfl (L' := #[true, true, false, true, false, false, false, false]) (by kernel_rfl) ?_
      refine h_takeL (i := 4) (v := .int .i64 v.cut) hns rfl rfl (by kernel_rfl) (by kernel_rfl) hP (y_load rfl (by kernel_rfl) (by kernel_rfl) (fun w' h => load1 Tryd.isAgg3 (cell_at h 1 rfl))) hS rfl (L' := #[true, true, false, true, true, false, false, false]) (by kernel_rfl) ?_
      refine h_callL (i := 2) (f := 20) (args := #[.pointer (some ⟨p, 0, none⟩)]) (by kernel_rfl) rfl rfl (by kernel_rfl) (enter_go rfl (by kernel_rfl) (fun w => by go_simp)) (L' := #[true, true, true, true, true, false, false, false]) (by kernel_rfl) ?_
      refine (ops_d HDD.out).mono ?_
      rintro e wz ⟨rfl, hwz⟩
      obtain rfl := hwz.symm
      refine ⟨_, rfl, hS, ?_⟩
      rw [HO0.out]
      refine h_callL (i := 5) (f := 11) (args := #[.int .i64 v.cut, .int .i64 400]) (by kernel_rfl) rfl rfl (by kernel_rfl) (enter_go rfl (by kernel_rfl) (fun w => by go_simp)) (L' := #[true, true, true, true, true, true, false, false]) (by kernel_rfl) ?_
      refine (HPK.out _).mono ?_
      rintro e wz ⟨rfl, hwz⟩
      obtain rfl := hwz.symm
      refine ⟨_, rfl, hS, ?_⟩
      refine h_takeL (i := 6) (v := .int .i64 (op0 + (q : Nat))) hns rfl rfl (by kernel_rfl) (by kernel_rfl) hP (y_bin (k := .i64) (k' := .i64) (m := op0) (n := (q : Nat)) rfl (by kernel_rfl) (by kernel_rfl) (by kernel_rfl) (addG _ _ _ HAD.out)) hS rfl (L' := #[true, true, true, true, true, true, true, false]) (by kernel_rfl) ?_
      simp only [List.setIfInBounds_toArray, List.set_cons_zero, List.set_cons_succ]
      refine h_callL (i := 7) (f := 26) (args := #[.pointer (some ⟨p, 0, none⟩), .int .i64 (op0 + (q : Nat))]) (by kernel_rfl) rfl rfl (by kernel_rfl) (enter_go rfl (by kernel_rfl) (fun w => by go_simp)) (L' := #[true, true, true, true, true, true, true, true]) (by kernel_rfl) ?_
      refine (cutAt_d HDD.out (op0 + (q : Nat))).mono ?_
      rintro e w3 ⟨rfl, hD3, hF3⟩
      have hS3 := hF3.at hS (HJD.out.jr.disk.other hS (by decide) (by decide))
      refine ⟨_, rfl, hS3, ?_⟩
      simp only [List.setIfInBounds_toArray, List.set_cons_zero, List.set_cons_succ]
      refine wpAnyH_done (by kernel_rfl) ?_ _
      refine hN _ _ ?_
      clear hP hN hns
      clear hS HLB HO0 HAD HPK
      have hW3 : Below ab W w3 := HWD.out.trans (hF3.below (Nat.le_trans HW0.out HWD.out.size) HJD.out.lo)
      have hst := HJD.out.jr.sett
      have hJ3 : Jc ab w3 j p X { s with cut := op0 + (q : Nat), gone := false } sq cnt bl := ⟨⟨hF3.at HJD.out.jr.jn (HDD.out.jother HJD.out.jr.jn), hD3, HT.out.belowB hW3 HTL.out, ⟨hst.n32, rfl, hst.loose, hst.same, hst.len, hst.con, hst.laid⟩⟩, HJD.out.lo, HJD.out.jlo⟩
      have hR3 := (Kp.of_frX HDD.out hF3).rj HRD.out
      have hbl3 : bl.length = nbOf n := by rw [hst.con.len, HPB.out.1]
      have HCL := hid (rclone_any hR3 (by rw [hbl3]; exact HNB.out.1) (by rw [hbl3]; exact HNB.out.2))
      have H3 := hid (And.intro hJ3 (And.intro hR3 (And.intro hW3 (And.intro hS3 hbl3))))
      clear hW3 hst hJ3 hR3 hbl3 hS3 hD3 hF3 HJD HRD HWD HDD HQ
      go_wp2_with fail
      refine HCL.out.mono ?_
      rintro e w4 ⟨t4, ht4, rfl, hRt4, hB4⟩
      have h3 := H3.out
      have HM : Hid (Mid W ab n i 0 w4 j p r lb v (.pointer (some ⟨t4, 0, none⟩)) (.bool false)) := hid ⟨h3.2.2.1.trans (hB4.mono (Nat.le_trans HW0.out h3.2.2.1.size)), below_at hB4 h3.2.2.2.1 (heap_lt h3.2.2.2.1), X, _, sq, cnt, bl, Br, h3.2.1.below hB4, HPB.out.2.2.2.2, by have := HPB.out.2.1; omega, h3.2.2.2.2, .inl ⟨rfl, h3.1.below hB4, HPB.out.1, HPB.out.2.2.1, HPB.out.2.2.2.1⟩⟩
      clear h3 ht4 hRt4 hB4 HCL H3 HPB
      go_wp2_with fail
      go_loopw [11, 12, 13, 14, 15, 16, 17, 18, 19, 20] (fun v11 v12 v13 _ _ _ _ _ _ _ wv => ∃ k : Nat, k ≤ v.sn ∧ k ≤ 25 ∧ v13 = .int .i64 k ∧ Mid W ab n i k wv j p r lb v v11 v12) (fun _ _ v13 _ _ _ _ _ _ _ _ => v.sn - (intOf v13).toNat)
      case atStart => exact ⟨0, Nat.zero_le _, Nat.zero_le _, rfl, HM.out⟩
      case round =>
      clear HM
      obtain ⟨k, hk1, hk2, rfl, hWr, hL, X, s, sq, cnt, bl, Br, hR, hBr, hsq, hbl, hor⟩ := hrel
      have hwk : IntKind.i64.wrap ((k : Int) + 1) = ((k + 1 : Nat) : Int) := by rw [IntWalk.i64_in _ ⟨by omega, by omega⟩]; omega
      have hl0 : wr.cell? ⟨lb, 0, none⟩ = some (.slice v.sa v.sn v.sc) := cell_at hL 0 rfl
      have hd : Below wr.heap.size wr wr.drew := (Below.refl _ _).drew
      have hWd : Below ab W wr.drew := hWr.trans (hd.mono (Nat.le_trans HW0.out hWr.size))
      obtain ⟨fs, hfs⟩ := HV.out.2
      have HFL := hid hfs
      have HRB : Hid (ab ≤ r ∧ ab ≤ Br) := hid ⟨HRLO.out, hBr⟩
      have HRX := hid (hR.below hd)
      have HWX := hid hWd
      have HLB := hid (below_at hd hL (heap_lt hL))
      have HQS : Hid (sq ≤ 25 * (i + 1)) := hid (by omega)
      have HIZ := hid ((HV.out.1.2.2.2.2.1.below (by rw [HAB.out]; exact hWd)).ints HV.out.1.2.2.2.2.2.1)
      have HBLL := hid hbl
      clear hfs
      rcases hor with ⟨rfl, hJ, hsn, hops, hop0⟩ | ⟨rfl, t, sq2, cnt2, bl2, Bt, rfl, hG, hRt, htl, hBt, hq2, hbl2⟩
      · by_cases hlk : k < v.sn ∧ k < 25
        · have hc1 : (k : Int) < (v.sn : Int) := by omega
          have hc2 : (k : Int) < 25 := by omega
          obtain ⟨o, ho⟩ : ∃ o, v.xs[k]? = some o := ⟨_, List.getElem?_eq_getElem (by have := HV.out.1.1.1; omega)⟩
          obtain ⟨bs, os, hsa, hat⟩ := HV.out.1.1.at ho
          have HSA := hid hsa
          have HOF := hid (HV.out.1.2.1 o (List.mem_of_getElem? ho))
          have HKN : Hid (k < v.sn) := hid hlk.1
          have HK1 : Hid (k + 1 ≤ v.sn ∧ k + 1 ≤ 25) := hid ⟨hlk.1, hlk.2⟩
          obtain ⟨vr, hr, hor⟩ := hR
          obtain ⟨nb, hnb⟩ : ∃ nb, nbOf n = nb := ⟨_, rfl⟩
          obtain ⟨ar, cr, rfl⟩ : ∃ a cap, vr = .slice a nb cap := by
            rcases hor.2 with ⟨e, h0⟩ | ⟨g, cap, cur, e, _⟩
            · exact ⟨none, 0, by rw [e, ← hnb, ← hbl, h0]⟩
            · exact ⟨_, cap, by rw [e, hbl, hnb]⟩
          have HS15 : Hid (wr.drew.heap[lb]? = some (.cells #[.slice v.sa v.sn v.sc, .int .i64 v.cut, .slice v.ta v.tn v.tc, .slice v.ga v.gn v.gc] 59 (0, 0)) ∧ OpAt wr.drew bs (os + k * 4) o ∧ wr.drew.heap[r]? = some (.cells #[.slice ar nb cr, .int .i64 (sq : Nat)] 51 (0, 0)) ∧ Iz wr.drew o.va o.zs) := hid ⟨HLB.out, hat.below (by rw [HAB.out]; exact hWd), below_at hd hr (heap_lt hr), HOF.out.1.below (by rw [HAB.out]; exact hWd)⟩
          have HJD := hid (hJ.below hd)
          have HJB : Hid (s.n = n ∧ s.ops ≤ ((2 * nbOf n + 3 + 100 * k : Nat) : Int) ∧ 0 ≤ s.ops ∧ sq ≤ 25 * i + k ∧ ab ≤ Br) := hid ⟨hsn, hops, hop0, hsq, hBr⟩
          clear hJ hsn hops hop0 hlk hk1 hk2 hWr hL hBr hsq hbl hd hWd HIZ ho hsa hat hr hor HLB HFL HQS
          rw [hnb] at HNB HNB2
          go_wp2_with fail
          refine z_open (S := fun w' => w'.heap[lb]? = some (.cells #[.slice v.sa v.sn v.sc, .int .i64 v.cut, .slice v.ta v.tn v.tc, .slice v.ga v.gn v.gc] 59 (0, 0)) ∧ OpAt w' bs (os + k * 4) o ∧ w'.heap[r]? = some (.cells #[.slice ar nb cr, .int .i64 (sq : Nat)] 51 (0, 0)) ∧ Iz w' o.va o.zs) 14 (by kernel_rfl) (by kernel_rfl) (fun _ _ _ _ _ h => h) (L := #[false, false, false, false, false, false, false, false, false, false, false, false, false, false, false, false]) (by kernel_rfl) ?_
          intro Q' hns hP hN
          have hS := HS15.out
          refine z_pure (i := 0) (v := .pointer (some ⟨lb, 0, none⟩)) hns rfl rfl rfl (by kernel_rfl) (by kernel_rfl) hP (y_faddr rfl (by kernel_rfl) (by kernel_rfl) (fa59_0 (lb))) (fun _ => hS) rfl (L' := #[true, false, false, false, false, false, false, false, false, false, false, false, false, false, false, false]) (by kernel_rfl) ?_
          refine z_read (i := 1) (v := .slice (some ⟨bs, os, none⟩) v.sn v.sc) hns rfl (by kernel_rfl) rfl rfl (by kernel_rfl) (by kernel_rfl) hP (y_load rfl (by kernel_rfl) (by kernel_rfl) (fun w' h => load1 Tryd.isAgg22 (by rw [← HSA.out]; exact cell_at h.1 0 rfl))) rfl hS rfl (L' := #[true, true, false, false, false, false, false, false, false, false, false, false, false, false, false, false]) (by kernel_rfl) ?_
          refine z_pure (i := 2) (v := .int .i64 k) hns rfl rfl rfl (by kernel_rfl) (by kernel_rfl) hP (y_move rfl (by kernel_rfl) (by kernel_rfl)) (fun _ => hS) rfl (L' := #[true, true, true, false, false, false, false, false, false, false, false, false, false, false, false, false]) (by kernel_rfl) ?_
          refine z_pure (i := 3) (v := .pointer (some ⟨bs, os + k * 4, none⟩)) hns rfl rfl rfl (by kernel_rfl) (by kernel_rfl) hP (y_index rfl (by kernel_rfl) (by kernel_rfl) (by kernel_rfl) (idxP bs os v.sn v.sc k HKN.out)) (fun _ => hS) rfl (L' := #[true, true, true, true, false, false, false, false, false, false, false, false, false, false, false, false]) (by kernel_rfl) ?_
          refine z_read (i := 4) (v := .agg #[.int .i64 o.kd, o.va, .int .u8 o.by_, .int .i64 o.raw]) hns rfl (by kernel_rfl) rfl rfl (by kernel_rfl) (by kernel_rfl) hP (y_load rfl (by kernel_rfl) (by kernel_rfl) (fun w' h => h.2.1.load)) rfl hS rfl (L' := #[true, true, true, true, true, false, false, false, false, false, false, false, false, false, false, false]) (by kernel_rfl) ?_
          refine z_pure (i := 5) (v := .pointer (some ⟨r, 0, none⟩)) hns rfl rfl rfl (by kernel_rfl) (by kernel_rfl) hP (y_move rfl (by kernel_rfl) (by kernel_rfl)) (fun _ => hS) rfl (L' := #[true, true, true, true, true, true, false, false, false, false, false, false, false, false, false, false]) (by kernel_rfl) ?_
          refine z_pure (i := 6) (v := .pointer (some ⟨r, 0, none⟩)) hns rfl rfl rfl (by kernel_rfl) (by kernel_rfl) hP (y_nil rfl (by kernel_rfl) (by kernel_rfl)) (fun _ => hS) rfl (L' := #[true, true, true, true, true, true, true, false, false, false, false, false, false, false, false, false]) (by kernel_rfl) ?_
          simp only [List.setIfInBounds_toArray, List.set_cons_zero, List.set_cons_succ]
          refine z_pure (i := 7) (v := .pointer (some ⟨r, 0, none⟩)) hns rfl rfl rfl (by kernel_rfl) (by kernel_rfl) hP (y_faddr rfl (by kernel_rfl) (by kernel_rfl) (fa51_0 (r))) (fun _ => hS) rfl (L' := #[true, true, true, true, true, true, true, true, false, false, false, false, false, false, false, false]) (by kernel_rfl) ?_
          refine z_read (i := 8) (v := .slice ar nb cr) hns rfl (by kernel_rfl) rfl rfl (by kernel_rfl) (by kernel_rfl) hP (y_load rfl (by kernel_rfl) (by kernel_rfl) (fun w' h => load1 Tryd.isAgg49 (cell_at h.2.2.1 0 rfl))) rfl hS rfl (L' := #[true, true, true, true, true, true, true, true, true, false, false, false, false, false, false, false]) (by kernel_rfl) ?_
          refine z_pure (i := 9) (v := .int .i64 (nb : Nat)) hns rfl rfl rfl (by kernel_rfl) (by kernel_rfl) hP (y_lenT len49 (p := ar) (c := cr) rfl (by kernel_rfl) (by kernel_rfl)) (fun _ => hS) rfl (L' := #[true, true, true, true, true, true, true, true, true, true, false, false, false, false, false, false]) (by kernel_rfl) ?_
          refine z_call (i := 10) (f := 22) (args := #[.agg #[.int .i64 o.kd, o.va, .int .u8 o.by_, .int .i64 o.raw], .int .i64 nb]) (by kernel_rfl) rfl rfl (by kernel_rfl) (enter_go rfl (by kernel_rfl) (fun w => by go_simp)) (L' := #[true, true, true, true, true, true, true, true, true, true, true, false, false, false, false, false]) (by kernel_rfl) ?_
          refine (blocks_any nb HNB.out.1 HNB.out.2 hS.2.2.2 HOF.out.2.1 HOF.out.2.2.1 HOF.out.2.2.2.1 HOF.out.2.2.2.2.1).mono ?_
          rintro e w6 ⟨v1, v2, zs, qs, rfl, hA6, hK6, hz6, hq6, _, hB6⟩
          have hS6 : _ ∧ _ ∧ _ ∧ _ := And.intro (below_at hB6 hS.1 (heap_lt hS.1)) (And.intro (hS.2.1.below hB6) (And.intro (below_at hB6 hS.2.2.1 (heap_lt hS.2.2.1)) (hS.2.2.2.below hB6)))
          refine ⟨_, rfl, hS6, ?_⟩
          refine z_pure (i := 11) (v := .tuple #[v1, v2]) hns rfl rfl rfl (by kernel_rfl) (by kernel_rfl) hP (y_move rfl (by kernel_rfl) (by kernel_rfl)) (fun _ => hS6) rfl (L' := #[true, true, true, true, true, true, true, true, true, true, true, true, false, false, false, false]) (by kernel_rfl) ?_
          refine z_pure (i := 12) (v := v1) hns rfl rfl rfl (by kernel_rfl) (by kernel_rfl) hP (y_ext rfl (by kernel_rfl) (by kernel_rfl) (ext2_0 v1 v2)) (fun _ => hS6) rfl (L' := #[true, true, true, true, true, true, true, true, true, true, true, true, true, false, false, false]) (by kernel_rfl) ?_
          refine z_pure (i := 13) (v := v2) hns rfl rfl rfl (by kernel_rfl) (by kernel_rfl) hP (y_ext rfl (by kernel_rfl) (by kernel_rfl) (ext2_1 v1 v2)) (fun _ => hS6) rfl (L' := #[true, true, true, true, true, true, true, true, true, true, true, true, true, true, false, false]) (by kernel_rfl) ?_
          refine z_val (i := 14) (v := v1) (by kernel_rfl) rfl rfl (by kernel_rfl) (run_asg rfl (by kernel_rfl)) hS6 rfl (L' := #[true, true, true, true, true, true, true, true, true, true, true, true, true, true, true, false]) (by kernel_rfl) ?_
          simp only [List.setIfInBounds_toArray, List.set_cons_zero, List.set_cons_succ]
          refine z_pure (i := 15) (v := v2) hns rfl rfl rfl (by kernel_rfl) (by kernel_rfl) hP (y_assign rfl (by kernel_rfl) (by kernel_rfl)) (fun _ => hS6) rfl (L' := #[true, true, true, true, true, true, true, true, true, true, true, true, true, true, true, true]) (by kernel_rfl) ?_
          try simp only [List.setIfInBounds_toArray, List.set_cons_zero, List.set_cons_succ]
          refine z_done (by kernel_rfl) ?_ _
          refine hN _ _ ?_
          clear hP hN hns
          clear hS HS15
          have hW6 : Below ab W w6 := HWX.out.trans (hB6.mono (Nat.le_trans HW0.out HWX.out.size))
          have hJ6 := HJD.out.below hB6
          have hR6 := HRX.out.below hB6
          have hrf := refused_any hR6 hA6.iz hK6.bz (by omega)
          have HRF := hid (show Calls Tryd.prog 28 #[.pointer (some ⟨r, 0, none⟩), v1, v2] w6 fun e w' => e = .returned (.int .i64 (refE bl zs (qs.map ql))) ∧ Below w6.heap.size w6 w' from hrf)
          have H6 := hid (And.intro hJ6 (And.intro hR6 (And.intro hW6 (And.intro hA6 (And.intro hK6 hS6.1)))))
          have HZL := hid (And.intro hz6 hq6)
          clear hW6 hJ6 hR6 hrf hA6 hK6 hz6 hq6 hB6 hS6 HJD HRX HWX
          go_wp2_with fail
          refine HRF.out.mono ?_
          rintro e w7 ⟨rfl, hB7⟩
          have h6 := H6.out
          have hW7 : Below ab W w7 := h6.2.2.1.trans (hB7.mono (Nat.le_trans HW0.out h6.2.2.1.size))
          have hJ7 := h6.1.below hB7
          have hA7 := h6.2.2.2.1.below hB7
          have hQ7 := h6.2.2.2.2.1.below hB7
          have hjb := HJB.out
          have hab7 : ab ≤ w7.heap.size := Nat.le_trans HW0.out hW7.size
          have hnbs : nbOf s.n = nb := by rw [hjb.1, hnb]
          have HWR := hid (hJ7.wr hab7 (by have := HI.out; have := HK1.out; omega) hA7.iz hQ7.bz (by have := HZL.out; omega) (by have := HNB2.out; have := HK1.out; rw [hnbs]; have h1 := hjb.2.1; rw [hnb] at h1; omega))
          have H7 := hid (And.intro (h6.2.1.below hB7) (And.intro hA7 (And.intro hQ7 (And.intro hW7 (below_at hB7 h6.2.2.2.2.2 (heap_lt h6.2.2.2.2.2))))))
          clear h6 hW7 hJ7 hA7 hQ7 hjb hab7 hnbs hB7 HRF H6
          go_wp2_with fail
          refine HWR.out.mono ?_
          rintro e w8 ⟨hB8, hK8, hres⟩
          have h7 := H7.out
          have hW8 : Below ab W w8 := h7.2.2.2.1.trans hB8
          have hR8 := hK8.rj h7.1
          have hA8 := hK8.ats h7.2.1
          have hQ8 := hK8.bks h7.2.2.1
          have hL8 := hK8.block _ _ _ _ h7.2.2.2.2 (by decide) (by decide) (by decide)
          have hsq8 := refW_seq sq bl zs (qs.map ql)
          have hjb := HJB.out
          have hbl8 : (refW sq bl zs (qs.map ql)).2.length = nbOf n := by
            unfold refW
            split
            · rw [layAll_len]; exact HBLL.out
            · exact HBLL.out
          rcases hres with ⟨rfl, s', X', cnt', hJ8, hn8, ho8, ho8'⟩ | ⟨rfl, hE0, s', X', cnt2, hG8⟩
          · have HRW := hid (hR8.wr3 hA8 hQ8 (by have := HZL.out; omega) (by have := HI.out; have := HK1.out; omega))
            obtain ⟨vb8, hr8, _⟩ := hR8
            have H8 := hid (show Jc ab w8 j p X' s' (refW sq bl zs (qs.map ql)).1 cnt' (refW sq bl zs (qs.map ql)).2 ∧ Below ab W w8 ∧ w8.heap[r]? = some (.cells #[vb8, .int .i64 (sq : Nat)] 51 (0, 0)) ∧ w8.heap[lb]? = some (.cells #[.slice v.sa v.sn v.sc, .int .i64 v.cut, .slice v.ta v.tn v.tc, .slice v.ga v.gn v.gc] 59 (0, 0)) from ⟨hJ8, hW8, hr8, hL8⟩)
            have HS8 : Hid (s'.n = n ∧ s'.ops ≤ ((2 * nbOf n + 3 + 100 * (k + 1) : Nat) : Int) ∧ 0 ≤ s'.ops ∧ (refW sq bl zs (qs.map ql)).1 ≤ 25 * i + (k + 1) ∧ (refW sq bl zs (qs.map ql)).2.length = nbOf n) := hid ⟨hn8.trans hjb.1, by have := HZL.out; omega, by omega, by omega, hbl8⟩
            clear h7 hW8 hA8 hQ8 hL8 hsq8 hjb hbl8 hJ8 hn8 ho8 ho8' hB8 hK8 HWR H7 hr8
            rcases refE_two bl zs (qs.map ql) with hE | hE
            · rw [hE] at HRW ⊢
              go_wp2_with fail
              refine HRW.out.mono ?_
              rintro e w9 ⟨rfl, hR9, hfr⟩
              have h8 := H8.out
              have h9 : Jc ab w9 j p X' s' (refW sq bl zs (qs.map ql)).1 cnt' (refW sq bl zs (qs.map ql)).2 ∧ Below ab W w9 ∧ w9.heap[lb]? = some (.cells #[.slice v.sa v.sn v.sc, .int .i64 v.cut, .slice v.ta v.tn v.tc, .slice v.ga v.gn v.gc] 59 (0, 0)) := by
                rcases hfr with hB | ⟨g, cg, hg, hbg, hF⟩
                · exact ⟨h8.1.below hB, h8.2.1.trans (hB.mono (Nat.le_trans HW0.out h8.2.1.size)), below_at hB h8.2.2.2 (heap_lt h8.2.2.2)⟩
                · have hW9 : Below ab W w9 := h8.2.1.trans (hF.below (Nat.le_trans HW0.out h8.2.1.size) (fun x hx => by
                    have h1 := HRB.out
                    simp only [List.mem_cons, List.not_mem_nil, or_false] at hx
                    rcases hx with rfl | rfl <;> omega))
                  refine ⟨h8.1.fr hF (fun x hx hm => ?_) (HT.out.belowB hW9 HTL.out), hW9, hF.at h8.2.2.2 (fun hm => ?_)⟩
                  · simp only [List.mem_cons, List.not_mem_nil, or_false] at hm
                    rcases hm with rfl | rfl
                    · exact h8.1.not h8.2.2.1 (by decide) (by decide) (by decide) hx
                    · exact h8.1.not hg (by decide) (by decide) (by decide) hx
                  · have hL9 := h8.2.2.2
                    simp only [List.mem_cons, List.not_mem_nil, or_false] at hm
                    rcases hm with rfl | rfl
                    · rw [h8.2.2.1] at hL9; injection hL9 with hL9; injection hL9 with _ e; exact absurd e (by decide)
                    · rw [hg] at hL9; injection hL9 with hL9; injection hL9 with _ e; exact absurd e (by decide)
              have HCL := hid (rclone_any hR9 (by rw [HS8.out.2.2.2.2, hnb]; exact HNB.out.1) (by rw [HS8.out.2.2.2.2, hnb]; exact HNB.out.2))
              have H9 := hid (And.intro h9.1 (And.intro hR9 (And.intro h9.2.1 h9.2.2)))
              clear h8 h9 hR9 hfr HRW H8
              generalize refE bl zs (qs.map ql) = E2 at *
              go_wp2_with fail
              refine HCL.out.mono ?_
              rintro e w10 ⟨t, ht, rfl, hRt, hB10⟩
              have h9 := H9.out
              have HM : Hid (Mid W ab n i (k + 1) w10 j p r lb v (.pointer (some ⟨t, 0, none⟩)) (.bool false)) := hid ⟨h9.2.2.1.trans (hB10.mono (Nat.le_trans HW0.out h9.2.2.1.size)), below_at hB10 h9.2.2.2 (heap_lt h9.2.2.2), X', s', _, cnt', _, Br, h9.2.1.below hB10, HJB.out.2.2.2.2, HS8.out.2.2.2.1, HS8.out.2.2.2.2, .inl ⟨rfl, h9.1.below hB10, HS8.out.1, HS8.out.2.1, HS8.out.2.2.1⟩⟩
              clear h9 ht hRt hB10 HCL H9 HS8
              go_wp2_with fail
              exact ⟨⟨k + 1, HK1.out.1, HK1.out.2, rfl, HM.out⟩, by have := HK1.out; simp [intOf]; omega⟩
            · rw [hE] at HRW ⊢
              go_wp2_with fail
              refine HRW.out.mono ?_
              rintro e w9 ⟨rfl, hR9, hfr⟩
              have h8 := H8.out
              have h9 : Jc ab w9 j p X' s' (refW sq bl zs (qs.map ql)).1 cnt' (refW sq bl zs (qs.map ql)).2 ∧ Below ab W w9 ∧ w9.heap[lb]? = some (.cells #[.slice v.sa v.sn v.sc, .int .i64 v.cut, .slice v.ta v.tn v.tc, .slice v.ga v.gn v.gc] 59 (0, 0)) := by
                rcases hfr with hB | ⟨g, cg, hg, hbg, hF⟩
                · exact ⟨h8.1.below hB, h8.2.1.trans (hB.mono (Nat.le_trans HW0.out h8.2.1.size)), below_at hB h8.2.2.2 (heap_lt h8.2.2.2)⟩
                · have hW9 : Below ab W w9 := h8.2.1.trans (hF.below (Nat.le_trans HW0.out h8.2.1.size) (fun x hx => by
                    have h1 := HRB.out
                    simp only [List.mem_cons, List.not_mem_nil, or_false] at hx
                    rcases hx with rfl | rfl <;> omega))
                  refine ⟨h8.1.fr hF (fun x hx hm => ?_) (HT.out.belowB hW9 HTL.out), hW9, hF.at h8.2.2.2 (fun hm => ?_)⟩
                  · simp only [List.mem_cons, List.not_mem_nil, or_false] at hm
                    rcases hm with rfl | rfl
                    · exact h8.1.not h8.2.2.1 (by decide) (by decide) (by decide) hx
                    · exact h8.1.not hg (by decide) (by decide) (by decide) hx
                  · have hL9 := h8.2.2.2
                    simp only [List.mem_cons, List.not_mem_nil, or_false] at hm
                    rcases hm with rfl | rfl
                    · rw [h8.2.2.1] at hL9; injection hL9 with hL9; injection hL9 with _ e; exact absurd e (by decide)
                    · rw [hg] at hL9; injection hL9 with hL9; injection hL9 with _ e; exact absurd e (by decide)
              have HCL := hid (rclone_any hR9 (by rw [HS8.out.2.2.2.2, hnb]; exact HNB.out.1) (by rw [HS8.out.2.2.2.2, hnb]; exact HNB.out.2))
              have H9 := hid (And.intro h9.1 (And.intro hR9 (And.intro h9.2.1 h9.2.2)))
              clear h8 h9 hR9 hfr HRW H8
              generalize refE bl zs (qs.map ql) = E2 at *
              go_wp2_with fail
              refine HCL.out.mono ?_
              rintro e w10 ⟨t, ht, rfl, hRt, hB10⟩
              have h9 := H9.out
              have HM : Hid (Mid W ab n i (k + 1) w10 j p r lb v (.pointer (some ⟨t, 0, none⟩)) (.bool false)) := hid ⟨h9.2.2.1.trans (hB10.mono (Nat.le_trans HW0.out h9.2.2.1.size)), below_at hB10 h9.2.2.2 (heap_lt h9.2.2.2), X', s', _, cnt', _, Br, h9.2.1.below hB10, HJB.out.2.2.2.2, HS8.out.2.2.2.1, HS8.out.2.2.2.2, .inl ⟨rfl, h9.1.below hB10, HS8.out.1, HS8.out.2.1, HS8.out.2.2.1⟩⟩
              clear h9 ht hRt hB10 HCL H9 HS8
              go_wp2_with fail
              exact ⟨⟨k + 1, HK1.out.1, HK1.out.2, rfl, HM.out⟩, by have := HK1.out; simp [intOf]; omega⟩
          · have HCL := hid (rclone_any hR8 (by rw [HBLL.out, hnb]; exact HNB.out.1) (by rw [HBLL.out, hnb]; exact HNB.out.2))
            rw [hE0]
            rw [hjb.1] at hG8
            have H8 := hid (And.intro hG8 (And.intro hR8 (And.intro hW8 (And.intro hL8 (And.intro hA8 hQ8)))))
            have HS8 : Hid (sq ≤ 25 * i + (k + 1) ∧ (refW sq bl zs (qs.map ql)).1 ≤ 25 * i + (k + 1) ∧ (refW sq bl zs (qs.map ql)).2.length = nbOf n ∧ ab ≤ Br) := hid ⟨by omega, by omega, hbl8, hjb.2.2.2.2⟩
            clear h7 hW8 hR8 hA8 hQ8 hL8 hsq8 hjb hbl8 hG8 hE0 hB8 hK8 HWR H7
            go_wp2_with fail
            refine HCL.out.mono ?_
            rintro e w9 ⟨t, ht9, rfl, hRt9, hB9⟩
            have h8 := H8.out
            have hW9 : Below ab W w9 := h8.2.2.1.trans (hB9.mono (Nat.le_trans HW0.out h8.2.2.1.size))
            have HTW := hid (hRt9.wr3 (h8.2.2.2.2.1.below hB9) (h8.2.2.2.2.2.below hB9) (by have := HZL.out; omega) (by have := HI.out; have := HK1.out; have := HS8.out.1; omega))
            obtain ⟨vb9, hr9, _⟩ := hRt9
            have H9 := hid (And.intro (h8.1.below hB9) (And.intro hW9 (And.intro (below_at hB9 h8.2.2.2.1 (heap_lt h8.2.2.2.1)) (And.intro hr9 (And.intro ht9 hB9)))))
            clear h8 hW9 hr9 ht9 hB9 HCL
            go_wp2_with fail
            refine HTW.out.mono ?_
            rintro e w10 ⟨rfl, hRt, hfr⟩
            have h9 := H9.out
            have h8 := H8.out
            have hab8 : ab ≤ w8.heap.size := Nat.le_trans HW0.out h8.2.2.1.size
            have h10 : Gone ab w10 j p X' s' n sq cnt bl (refW sq bl zs (qs.map ql)).1 cnt2 (refW sq bl zs (qs.map ql)).2 ∧ Below w8.heap.size w8 w10 ∧ w10.heap[lb]? = some (.cells #[.slice v.sa v.sn v.sc, .int .i64 v.cut, .slice v.ta v.tn v.tc, .slice v.ga v.gn v.gc] 59 (0, 0)) := by
              rcases hfr with hB | ⟨g, cg, hg, hbg, hF⟩
              · exact ⟨h9.1.below hB, h9.2.2.2.2.2.trans (hB.mono h9.2.2.2.2.2.size), below_at hB h9.2.2.1 (heap_lt h9.2.2.1)⟩
              · have hB10 : Below w8.heap.size w8 w10 := h9.2.2.2.2.2.trans (hF.below h9.2.2.2.2.2.size (fun x hx => by
                  simp only [List.mem_cons, List.not_mem_nil, or_false] at hx
                  rcases hx with rfl | rfl
                  · exact h9.2.2.2.2.1
                  · exact hbg))
                have hW10 : Below ab W w10 := h8.2.2.1.trans (hB10.mono hab8)
                refine ⟨h9.1.fr hF (fun x hx => ?_) (HT.out.belowB hW10 HTL.out), hB10, hF.at h9.2.2.1 (fun hm => ?_)⟩
                · simp only [List.mem_cons, List.not_mem_nil, or_false] at hx
                  rcases hx with rfl | rfl
                  · exact h9.1.not h9.2.2.2.1 (by decide) (by decide) (by decide)
                  · exact h9.1.not hg (by decide) (by decide) (by decide)
                · have hL9 := h9.2.2.1
                  simp only [List.mem_cons, List.not_mem_nil, or_false] at hm
                  rcases hm with rfl | rfl
                  · rw [h9.2.2.2.1] at hL9; injection hL9 with hL9; injection hL9 with _ e; exact absurd e (by decide)
                  · rw [hg] at hL9; injection hL9 with hL9; injection hL9 with _ e; exact absurd e (by decide)
            obtain ⟨qj, hqj⟩ := h10.1.jn
            have HRO := hid (jread_off hqj (by decide) 0)
            have H10 := hid (And.intro h10.1 (And.intro (h8.2.1.below h10.2.1) (And.intro hRt (And.intro h10.2.2 (And.intro (h8.2.2.1.trans (h10.2.1.mono hab8)) (And.intro (Nat.le_trans hab8 h9.2.2.2.2.1) hab8))))))
            clear h9 h8 hab8 h10 hRt hfr hqj HTW H9 H8
            generalize w8.heap.size = Bt at *
            generalize refE bl zs (qs.map ql) = E2 at *
            go_wp2_with fail
            refine HRO.out.mono ?_
            rintro e w11 ⟨rfl, hB11⟩
            have h10 := H10.out
            have hG11 := h10.1.below hB11
            obtain ⟨qj2, hqj2⟩ := hG11.jn
            have HWO := hid (jwrite_off hqj2 (by decide) (.slice none 0 0) (.slice none 0 0))
            have HM : Hid (Mid W ab n i (k + 1) w11 j p r lb v (.pointer (some ⟨t, 0, none⟩)) (.bool true)) := hid ⟨h10.2.2.2.2.1.trans (hB11.mono (Nat.le_trans HW0.out h10.2.2.2.2.1.size)), below_at hB11 h10.2.2.2.1 (heap_lt h10.2.2.2.1), X', s', sq, cnt, bl, Br, h10.2.1.below hB11, HS8.out.2.2.2, HS8.out.1, HBLL.out, .inr ⟨rfl, t, _, cnt2, _, Bt, rfl, hG11, h10.2.2.1.below hB11, h10.2.2.2.2.2.1, h10.2.2.2.2.2.2, HS8.out.2.1, HS8.out.2.2.1⟩⟩
            clear h10 hG11 hqj2 hB11 HRO H10 HS8
            go_wp2_with fail
            refine HWO.out.mono ?_
            rintro e wz ⟨rfl, hwz⟩
            obtain rfl := hwz.symm
            clear HWO
            go_wp2_with fail
            exact ⟨⟨k + 1, HK1.out.1, HK1.out.2, rfl, HM.out⟩, by have := HK1.out; simp [intOf]; omega⟩
        · have HCR := hid (crash_d (cp := v.tc) (hJ.jr.disk.below hd) HIZ.out HV.out.1.2.2.2.2.2.2)
          have HAF : Hid (Aft (s.cr v.zs) n sq cnt bl) := hid (Aft.of_cr hsn (by have h := hJ.jr.sett.cr v.zs; rw [hsn] at h; exact h))
          have HLK := hid hlk
          clear hJ hsn hops hop0 hlk hk1 hk2 hWr hL hR hBr hsq hbl hwk hd hWd HIZ
          by_cases hkn : k < v.sn
          · have hc1 : (k : Int) < (v.sn : Int) := by omega
            have hc2 : ¬ (k : Int) < 25 := by have := HLK.out; omega
            clear hkn
            go_wp2_with fail
            refine z_open (S := fun w' => w'.heap[lb]? = some (.cells #[.slice v.sa v.sn v.sc, .int .i64 v.cut, .slice v.ta v.tn v.tc, .slice v.ga v.gn v.gc] 59 (0, 0))) 13 (by kernel_rfl) (by kernel_rfl) (fun _ _ _ _ _ h => h) (L := #[false, false, false, false, false, false, false, false, false, false, false, false, false, false]) (by kernel_rfl) ?_
            intro Q' hns hP hN
            have hS := HLB.out
            refine z_pure (i := 0) (v := .pointer (some ⟨p, 0, none⟩)) hns rfl rfl rfl (by kernel_rfl) (by kernel_rfl) hP (y_move rfl (by kernel_rfl) (by kernel_rfl)) (fun _ => hS) rfl (L' := #[true, false, false, false, false, false, false, false, false, false, false, false, false, false]) (by kernel_rfl) ?_
            refine z_pure (i := 1) (v := .pointer (some ⟨lb, 2, none⟩)) hns rfl rfl rfl (by kernel_rfl) (by kernel_rfl) hP (y_faddr rfl (by kernel_rfl) (by kernel_rfl) (fa59_2 (lb))) (fun _ => hS) rfl (L' := #[true, true, false, false, false, false, false, false, false, false, false, false, false, false]) (by kernel_rfl) ?_
            refine z_read (i := 2) (v := .slice v.ta v.tn v.tc) hns rfl (by kernel_rfl) rfl rfl (by kernel_rfl) (by kernel_rfl) hP (y_load rfl (by kernel_rfl) (by kernel_rfl) (fun w' h => load1 Tryd.isAgg43 (cell_at h 2 rfl))) rfl hS rfl (L' := #[true, true, true, false, false, false, false, false, false, false, false, false, false, false]) (by kernel_rfl) ?_
            refine z_pure (i := 4) (v := .pointer (some ⟨lb, 3, none⟩)) hns rfl rfl rfl (by kernel_rfl) (by kernel_rfl) hP (y_faddr rfl (by kernel_rfl) (by kernel_rfl) (fa59_3 (lb))) (fun _ => hS) rfl (L' := #[true, true, true, false, true, false, false, false, false, false, false, false, false, false]) (by kernel_rfl) ?_
            refine z_read (i := 5) (v := .slice v.ga v.gn v.gc) hns rfl (by kernel_rfl) rfl rfl (by kernel_rfl) (by kernel_rfl) hP (y_load rfl (by kernel_rfl) (by kernel_rfl) (fun w' h => load1 Tryd.isAgg57 (cell_at h 3 rfl))) rfl hS rfl (L' := #[true, true, true, false, true, true, false, false, false, false, false, false, false, false]) (by kernel_rfl) ?_
            refine z_call (i := 3) (f := 30) (args := #[.pointer (some ⟨p, 0, none⟩), .slice v.ta v.tn v.tc]) (by kernel_rfl) rfl rfl (by kernel_rfl) (enter_go rfl (by kernel_rfl) (fun w => by go_simp)) (L' := #[true, true, true, true, true, true, false, false, false, false, false, false, false, false]) (by kernel_rfl) ?_
            refine HCR.out.mono ?_
            rintro e w5 ⟨p5, X5, rfl, hD5, hX5, hB5⟩
            have hS5 := below_at hB5 hS (heap_lt hS)
            refine ⟨_, rfl, hS5, ?_⟩
            refine z_call (i := 6) (f := 29) (args := #[.pointer (some ⟨p5, 0, none⟩), .slice v.ga v.gn v.gc]) (by kernel_rfl) rfl rfl (by kernel_rfl) (enter_go rfl (by kernel_rfl) (fun w => by go_simp)) (L' := #[true, true, true, true, true, true, true, false, false, false, false, false, false, false]) (by kernel_rfl) ?_
            have hW5 : Below ab W w5 := HWX.out.trans (hB5.mono (Nat.le_trans HW0.out HWX.out.size))
            refine (again_any HT.out HAB.out HFL.out.1 HFL.out.2 HNN.out hW5 hD5 HAF.out (fun k hk => Nat.le_trans (Nat.le_trans HW0.out HWX.out.size) (hX5 k hk))).mono ?_
            rintro e w6 ⟨p6, j6, X6, s6, rfl, hJ6, hn6, hc6, ho6, ho6b, hX6, hj6, hW6, hK6⟩
            have hS6 := hK6.block _ _ _ _ hS5 (by decide) (by decide) (by decide)
            refine ⟨_, rfl, hS6, ?_⟩
            simp only [List.setIfInBounds_toArray, List.set_cons_zero, List.set_cons_succ]
            refine z_pure (i := 7) (v := .tuple #[.pointer (some ⟨p6, 0, none⟩), .pointer (some ⟨j6, 0, none⟩), .bool true]) hns rfl rfl rfl (by kernel_rfl) (by kernel_rfl) hP (y_move rfl (by kernel_rfl) (by kernel_rfl)) (fun _ => hS6) rfl (L' := #[true, true, true, true, true, true, true, true, false, false, false, false, false, false]) (by kernel_rfl) ?_
            refine z_pure (i := 8) (v := .pointer (some ⟨p6, 0, none⟩)) hns rfl rfl rfl (by kernel_rfl) (by kernel_rfl) hP (y_ext rfl (by kernel_rfl) (by kernel_rfl) (ext3_0 (.pointer (some ⟨p6, 0, none⟩)) (.pointer (some ⟨j6, 0, none⟩)) (.bool true))) (fun _ => hS6) rfl (L' := #[true, true, true, true, true, true, true, true, true, false, false, false, false, false]) (by kernel_rfl) ?_
            refine z_pure (i := 9) (v := .pointer (some ⟨j6, 0, none⟩)) hns rfl rfl rfl (by kernel_rfl) (by kernel_rfl) hP (y_ext rfl (by kernel_rfl) (by kernel_rfl) (ext3_1 (.pointer (some ⟨p6, 0, none⟩)) (.pointer (some ⟨j6, 0, none⟩)) (.bool true))) (fun _ => hS6) rfl (L' := #[true, true, true, true, true, true, true, true, true, true, false, false, false, false]) (by kernel_rfl) ?_
            refine z_pure (i := 10) (v := .bool true) hns rfl rfl rfl (by kernel_rfl) (by kernel_rfl) hP (y_ext rfl (by kernel_rfl) (by kernel_rfl) (ext3_2 (.pointer (some ⟨p6, 0, none⟩)) (.pointer (some ⟨j6, 0, none⟩)) (.bool true))) (fun _ => hS6) rfl (L' := #[true, true, true, true, true, true, true, true, true, true, true, false, false, false]) (by kernel_rfl) ?_
            refine z_pure (i := 11) (v := .pointer (some ⟨p6, 0, none⟩)) hns rfl rfl rfl (by kernel_rfl) (by kernel_rfl) hP (y_assign rfl (by kernel_rfl) (by kernel_rfl)) (fun _ => hS6) rfl (L' := #[true, true, true, true, true, true, true, true, true, true, true, true, false, false]) (by kernel_rfl) ?_
            refine z_pure (i := 12) (v := .pointer (some ⟨j6, 0, none⟩)) hns rfl rfl rfl (by kernel_rfl) (by kernel_rfl) hP (y_assign rfl (by kernel_rfl) (by kernel_rfl)) (fun _ => hS6) rfl (L' := #[true, true, true, true, true, true, true, true, true, true, true, true, true, false]) (by kernel_rfl) ?_
            refine z_val (i := 13) (v := .bool true) (by kernel_rfl) rfl rfl (by kernel_rfl) (run_asg rfl (by kernel_rfl)) hS6 rfl (L' := #[true, true, true, true, true, true, true, true, true, true, true, true, true, true]) (by kernel_rfl) ?_
            try simp only [List.setIfInBounds_toArray, List.set_cons_zero, List.set_cons_succ]
            refine z_done (by kernel_rfl) ?_ _
            refine hN _ _ ?_
            clear hP hN hns
            clear hS HCR HLB hS5 hS6
            have hR6 := hK6.rj (HRX.out.below hB5)
            have hhas := lhas_any hJ6 hR6 rfl
            rw [decide_eq_true (And.intro rfl rfl)] at hhas
            have HHAS := hid hhas
            have H6 := hid (And.intro hJ6 (And.intro hn6 (And.intro hc6 (And.intro ho6 (And.intro ho6b (And.intro hX6 (And.intro hj6 (And.intro hW6 hR6))))))))
            clear hhas hJ6 hn6 hc6 ho6 ho6b hX6 hj6 hW6 hK6 hR6 hD5 hX5 hB5 hW5 HRX HWX HAF
            go_wp2_with fail
            refine HHAS.out.mono ?_
            rintro e wy ⟨rfl, hBy⟩
            have h6 := H6.out
            have HZ : Hid (Lst W ab n (i + 1) wy j6 p6 r X6 s6 sq _ bl Br) := hid ⟨⟨h6.1.below hBy, h6.2.2.1, h6.2.2.2.2.2.1, h6.2.2.2.2.2.2.1⟩, h6.2.2.2.2.2.2.2.2.below hBy, HRB.out.1, HRB.out.2, h6.2.2.2.2.2.2.2.1.trans (hBy.mono (Nat.le_trans HW0.out h6.2.2.2.2.2.2.2.1.size)), h6.2.1, HQS.out, by have := h6.2.2.2.2.1; omega, h6.2.2.2.1⟩
            clear h6 hBy HHAS H6
            go_wp2_with fail
            exact ⟨⟨i + 1, _, _, _, _, _, _, _, _, _, HI.out.1, HI.out.2, rfl, rfl, rfl, rfl, HZ.out⟩, by have := HI.out; simp [intOf]; omega⟩
          · have hc1 : ¬ (k : Int) < (v.sn : Int) := by omega
            clear hkn
            go_wp2_with fail
            refine z_open (S := fun w' => w'.heap[lb]? = some (.cells #[.slice v.sa v.sn v.sc, .int .i64 v.cut, .slice v.ta v.tn v.tc, .slice v.ga v.gn v.gc] 59 (0, 0))) 13 (by kernel_rfl) (by kernel_rfl) (fun _ _ _ _ _ h => h) (L := #[false, false, false, false, false, false, false, false, false, false, false, false, false, false]) (by kernel_rfl) ?_
            intro Q' hns hP hN
            have hS := HLB.out
            refine z_pure (i := 0) (v := .pointer (some ⟨p, 0, none⟩)) hns rfl rfl rfl (by kernel_rfl) (by kernel_rfl) hP (y_move rfl (by kernel_rfl) (by kernel_rfl)) (fun _ => hS) rfl (L' := #[true, false, false, false, false, false, false, false, false, false, false, false, false, false]) (by kernel_rfl) ?_
            refine z_pure (i := 1) (v := .pointer (some ⟨lb, 2, none⟩)) hns rfl rfl rfl (by kernel_rfl) (by kernel_rfl) hP (y_faddr rfl (by kernel_rfl) (by kernel_rfl) (fa59_2 (lb))) (fun _ => hS) rfl (L' := #[true, true, false, false, false, false, false, false, false, false, false, false, false, false]) (by kernel_rfl) ?_
            refine z_read (i := 2) (v := .slice v.ta v.tn v.tc) hns rfl (by kernel_rfl) rfl rfl (by kernel_rfl) (by kernel_rfl) hP (y_load rfl (by kernel_rfl) (by kernel_rfl) (fun w' h => load1 Tryd.isAgg43 (cell_at h 2 rfl))) rfl hS rfl (L' := #[true, true, true, false, false, false, false, false, false, false, false, false, false, false]) (by kernel_rfl) ?_
            refine z_pure (i := 4) (v := .pointer (some ⟨lb, 3, none⟩)) hns rfl rfl rfl (by kernel_rfl) (by kernel_rfl) hP (y_faddr rfl (by kernel_rfl) (by kernel_rfl) (fa59_3 (lb))) (fun _ => hS) rfl (L' := #[true, true, true, false, true, false, false, false, false, false, false, false, false, false]) (by kernel_rfl) ?_
            refine z_read (i := 5) (v := .slice v.ga v.gn v.gc) hns rfl (by kernel_rfl) rfl rfl (by kernel_rfl) (by kernel_rfl) hP (y_load rfl (by kernel_rfl) (by kernel_rfl) (fun w' h => load1 Tryd.isAgg57 (cell_at h 3 rfl))) rfl hS rfl (L' := #[true, true, true, false, true, true, false, false, false, false, false, false, false, false]) (by kernel_rfl) ?_
            refine z_call (i := 3) (f := 30) (args := #[.pointer (some ⟨p, 0, none⟩), .slice v.ta v.tn v.tc]) (by kernel_rfl) rfl rfl (by kernel_rfl) (enter_go rfl (by kernel_rfl) (fun w => by go_simp)) (L' := #[true, true, true, true, true, true, false, false, false, false, false, false, false, false]) (by kernel_rfl) ?_
            refine HCR.out.mono ?_
            rintro e w5 ⟨p5, X5, rfl, hD5, hX5, hB5⟩
            have hS5 := below_at hB5 hS (heap_lt hS)
            refine ⟨_, rfl, hS5, ?_⟩
            refine z_call (i := 6) (f := 29) (args := #[.pointer (some ⟨p5, 0, none⟩), .slice v.ga v.gn v.gc]) (by kernel_rfl) rfl rfl (by kernel_rfl) (enter_go rfl (by kernel_rfl) (fun w => by go_simp)) (L' := #[true, true, true, true, true, true, true, false, false, false, false, false, false, false]) (by kernel_rfl) ?_
            have hW5 : Below ab W w5 := HWX.out.trans (hB5.mono (Nat.le_trans HW0.out HWX.out.size))
            refine (again_any HT.out HAB.out HFL.out.1 HFL.out.2 HNN.out hW5 hD5 HAF.out (fun k hk => Nat.le_trans (Nat.le_trans HW0.out HWX.out.size) (hX5 k hk))).mono ?_
            rintro e w6 ⟨p6, j6, X6, s6, rfl, hJ6, hn6, hc6, ho6, ho6b, hX6, hj6, hW6, hK6⟩
            have hS6 := hK6.block _ _ _ _ hS5 (by decide) (by decide) (by decide)
            refine ⟨_, rfl, hS6, ?_⟩
            simp only [List.setIfInBounds_toArray, List.set_cons_zero, List.set_cons_succ]
            refine z_pure (i := 7) (v := .tuple #[.pointer (some ⟨p6, 0, none⟩), .pointer (some ⟨j6, 0, none⟩), .bool true]) hns rfl rfl rfl (by kernel_rfl) (by kernel_rfl) hP (y_move rfl (by kernel_rfl) (by kernel_rfl)) (fun _ => hS6) rfl (L' := #[true, true, true, true, true, true, true, true, false, false, false, false, false, false]) (by kernel_rfl) ?_
            refine z_pure (i := 8) (v := .pointer (some ⟨p6, 0, none⟩)) hns rfl rfl rfl (by kernel_rfl) (by kernel_rfl) hP (y_ext rfl (by kernel_rfl) (by kernel_rfl) (ext3_0 (.pointer (some ⟨p6, 0, none⟩)) (.pointer (some ⟨j6, 0, none⟩)) (.bool true))) (fun _ => hS6) rfl (L' := #[true, true, true, true, true, true, true, true, true, false, false, false, false, false]) (by kernel_rfl) ?_
            refine z_pure (i := 9) (v := .pointer (some ⟨j6, 0, none⟩)) hns rfl rfl rfl (by kernel_rfl) (by kernel_rfl) hP (y_ext rfl (by kernel_rfl) (by kernel_rfl) (ext3_1 (.pointer (some ⟨p6, 0, none⟩)) (.pointer (some ⟨j6, 0, none⟩)) (.bool true))) (fun _ => hS6) rfl (L' := #[true, true, true, true, true, true, true, true, true, true, false, false, false, false]) (by kernel_rfl) ?_
            refine z_pure (i := 10) (v := .bool true) hns rfl rfl rfl (by kernel_rfl) (by kernel_rfl) hP (y_ext rfl (by kernel_rfl) (by kernel_rfl) (ext3_2 (.pointer (some ⟨p6, 0, none⟩)) (.pointer (some ⟨j6, 0, none⟩)) (.bool true))) (fun _ => hS6) rfl (L' := #[true, true, true, true, true, true, true, true, true, true, true, false, false, false]) (by kernel_rfl) ?_
            refine z_pure (i := 11) (v := .pointer (some ⟨p6, 0, none⟩)) hns rfl rfl rfl (by kernel_rfl) (by kernel_rfl) hP (y_assign rfl (by kernel_rfl) (by kernel_rfl)) (fun _ => hS6) rfl (L' := #[true, true, true, true, true, true, true, true, true, true, true, true, false, false]) (by kernel_rfl) ?_
            refine z_pure (i := 12) (v := .pointer (some ⟨j6, 0, none⟩)) hns rfl rfl rfl (by kernel_rfl) (by kernel_rfl) hP (y_assign rfl (by kernel_rfl) (by kernel_rfl)) (fun _ => hS6) rfl (L' := #[true, true, true, true, true, true, true, true, true, true, true, true, true, false]) (by kernel_rfl) ?_
            refine z_val (i := 13) (v := .bool true) (by kernel_rfl) rfl rfl (by kernel_rfl) (run_asg rfl (by kernel_rfl)) hS6 rfl (L' := #[true, true, true, true, true, true, true, true, true, true, true, true, true, true]) (by kernel_rfl) ?_
            try simp only [List.setIfInBounds_toArray, List.set_cons_zero, List.set_cons_succ]
            refine z_done (by kernel_rfl) ?_ _
            refine hN _ _ ?_
            clear hP hN hns
            clear hS HCR HLB hS5 hS6
            have hR6 := hK6.rj (HRX.out.below hB5)
            have hhas := lhas_any hJ6 hR6 rfl
            rw [decide_eq_true (And.intro rfl rfl)] at hhas
            have HHAS := hid hhas
            have H6 := hid (And.intro hJ6 (And.intro hn6 (And.intro hc6 (And.intro ho6 (And.intro ho6b (And.intro hX6 (And.intro hj6 (And.intro hW6 hR6))))))))
            clear hhas hJ6 hn6 hc6 ho6 ho6b hX6 hj6 hW6 hK6 hR6 hD5 hX5 hB5 hW5 HRX HWX HAF
            go_wp2_with fail
            refine HHAS.out.mono ?_
            rintro e wy ⟨rfl, hBy⟩
            have h6 := H6.out
            have HZ : Hid (Lst W ab n (i + 1) wy j6 p6 r X6 s6 sq _ bl Br) := hid ⟨⟨h6.1.below hBy, h6.2.2.1, h6.2.2.2.2.2.1, h6.2.2.2.2.2.2.1⟩, h6.2.2.2.2.2.2.2.2.below hBy, HRB.out.1, HRB.out.2, h6.2.2.2.2.2.2.2.1.trans (hBy.mono (Nat.le_trans HW0.out h6.2.2.2.2.2.2.2.1.size)), h6.2.1, HQS.out, by have := h6.2.2.2.2.1; omega, h6.2.2.2.1⟩
            clear h6 hBy HHAS H6
            go_wp2_with fail
            exact ⟨⟨i + 1, _, _, _, _, _, _, _, _, _, HI.out.1, HI.out.2, rfl, rfl, rfl, rfl, HZ.out⟩, by have := HI.out; simp [intOf]; omega⟩
      · have HTX := hid (hRt.below hd)
        have HTB : Hid (ab ≤ t ∧ ab ≤ Bt) := hid ⟨htl, hBt⟩
        have HQT : Hid (sq2 ≤ 25 * (i + 1)) := hid (by omega)
        have HBL : Hid (bl.length = nbOf n ∧ bl2.length = nbOf n) := hid ⟨hbl, hbl2⟩
        have HCR := hid (crash_d (cp := v.tc) (hG.disk.below hd) HIZ.out HV.out.1.2.2.2.2.2.2)
        have hgn := hG.sn
        have hgc := hG.con v.zs
        clear hG hRt htl hBt hq2 hbl2 hk1 hk2 hWr hL hR hBr hsq hbl hwk hd hWd HIZ
        rcases hgc with hcon | hcon
        · have HAF : Hid (Aft (s.cr v.zs) n sq cnt bl) := hid (Aft.of_cr hgn hcon)
          clear hgn hcon HTX HTB HQT HBL
          by_cases hkn : k < v.sn
          · have hc1 : (k : Int) < (v.sn : Int) := by omega
            clear hkn
            by_cases hkm : k < 25
            · have hc2 : (k : Int) < 25 := by omega
              clear hkm
              go_wp2_with fail
              refine z_open (S := fun w' => w'.heap[lb]? = some (.cells #[.slice v.sa v.sn v.sc, .int .i64 v.cut, .slice v.ta v.tn v.tc, .slice v.ga v.gn v.gc] 59 (0, 0))) 13 (by kernel_rfl) (by kernel_rfl) (fun _ _ _ _ _ h => h) (L := #[false, false, false, false, false, false, false, false, false, false, false, false, false, false]) (by kernel_rfl) ?_
              intro Q' hns hP hN
              have hS := HLB.out
              refine z_pure (i := 0) (v := .pointer (some ⟨p, 0, none⟩)) hns rfl rfl rfl (by kernel_rfl) (by kernel_rfl) hP (y_move rfl (by kernel_rfl) (by kernel_rfl)) (fun _ => hS) rfl (L' := #[true, false, false, false, false, false, false, false, false, false, false, false, false, false]) (by kernel_rfl) ?_
              refine z_pure (i := 1) (v := .pointer (some ⟨lb, 2, none⟩)) hns rfl rfl rfl (by kernel_rfl) (by kernel_rfl) hP (y_faddr rfl (by kernel_rfl) (by kernel_rfl) (fa59_2 (lb))) (fun _ => hS) rfl (L' := #[true, true, false, false, false, false, false, false, false, false, false, false, false, false]) (by kernel_rfl) ?_
              refine z_read (i := 2) (v := .slice v.ta v.tn v.tc) hns rfl (by kernel_rfl) rfl rfl (by kernel_rfl) (by kernel_rfl) hP (y_load rfl (by kernel_rfl) (by kernel_rfl) (fun w' h => load1 Tryd.isAgg43 (cell_at h 2 rfl))) rfl hS rfl (L' := #[true, true, true, false, false, false, false, false, false, false, false, false, false, false]) (by kernel_rfl) ?_
              refine z_pure (i := 4) (v := .pointer (some ⟨lb, 3, none⟩)) hns rfl rfl rfl (by kernel_rfl) (by kernel_rfl) hP (y_faddr rfl (by kernel_rfl) (by kernel_rfl) (fa59_3 (lb))) (fun _ => hS) rfl (L' := #[true, true, true, false, true, false, false, false, false, false, false, false, false, false]) (by kernel_rfl) ?_
              refine z_read (i := 5) (v := .slice v.ga v.gn v.gc) hns rfl (by kernel_rfl) rfl rfl (by kernel_rfl) (by kernel_rfl) hP (y_load rfl (by kernel_rfl) (by kernel_rfl) (fun w' h => load1 Tryd.isAgg57 (cell_at h 3 rfl))) rfl hS rfl (L' := #[true, true, true, false, true, true, false, false, false, false, false, false, false, false]) (by kernel_rfl) ?_
              refine z_call (i := 3) (f := 30) (args := #[.pointer (some ⟨p, 0, none⟩), .slice v.ta v.tn v.tc]) (by kernel_rfl) rfl rfl (by kernel_rfl) (enter_go rfl (by kernel_rfl) (fun w => by go_simp)) (L' := #[true, true, true, true, true, true, false, false, false, false, false, false, false, false]) (by kernel_rfl) ?_
              refine HCR.out.mono ?_
              rintro e w5 ⟨p5, X5, rfl, hD5, hX5, hB5⟩
              have hS5 := below_at hB5 hS (heap_lt hS)
              refine ⟨_, rfl, hS5, ?_⟩
              refine z_call (i := 6) (f := 29) (args := #[.pointer (some ⟨p5, 0, none⟩), .slice v.ga v.gn v.gc]) (by kernel_rfl) rfl rfl (by kernel_rfl) (enter_go rfl (by kernel_rfl) (fun w => by go_simp)) (L' := #[true, true, true, true, true, true, true, false, false, false, false, false, false, false]) (by kernel_rfl) ?_
              have hW5 : Below ab W w5 := HWX.out.trans (hB5.mono (Nat.le_trans HW0.out HWX.out.size))
              refine (again_any HT.out HAB.out HFL.out.1 HFL.out.2 HNN.out hW5 hD5 HAF.out (fun k hk => Nat.le_trans (Nat.le_trans HW0.out HWX.out.size) (hX5 k hk))).mono ?_
              rintro e w6 ⟨p6, j6, X6, s6, rfl, hJ6, hn6, hc6, ho6, ho6b, hX6, hj6, hW6, hK6⟩
              have hS6 := hK6.block _ _ _ _ hS5 (by decide) (by decide) (by decide)
              refine ⟨_, rfl, hS6, ?_⟩
              simp only [List.setIfInBounds_toArray, List.set_cons_zero, List.set_cons_succ]
              refine z_pure (i := 7) (v := .tuple #[.pointer (some ⟨p6, 0, none⟩), .pointer (some ⟨j6, 0, none⟩), .bool true]) hns rfl rfl rfl (by kernel_rfl) (by kernel_rfl) hP (y_move rfl (by kernel_rfl) (by kernel_rfl)) (fun _ => hS6) rfl (L' := #[true, true, true, true, true, true, true, true, false, false, false, false, false, false]) (by kernel_rfl) ?_
              refine z_pure (i := 8) (v := .pointer (some ⟨p6, 0, none⟩)) hns rfl rfl rfl (by kernel_rfl) (by kernel_rfl) hP (y_ext rfl (by kernel_rfl) (by kernel_rfl) (ext3_0 (.pointer (some ⟨p6, 0, none⟩)) (.pointer (some ⟨j6, 0, none⟩)) (.bool true))) (fun _ => hS6) rfl (L' := #[true, true, true, true, true, true, true, true, true, false, false, false, false, false]) (by kernel_rfl) ?_
              refine z_pure (i := 9) (v := .pointer (some ⟨j6, 0, none⟩)) hns rfl rfl rfl (by kernel_rfl) (by kernel_rfl) hP (y_ext rfl (by kernel_rfl) (by kernel_rfl) (ext3_1 (.pointer (some ⟨p6, 0, none⟩)) (.pointer (some ⟨j6, 0, none⟩)) (.bool true))) (fun _ => hS6) rfl (L' := #[true, true, true, true, true, true, true, true, true, true, false, false, false, false]) (by kernel_rfl) ?_
              refine z_pure (i := 10) (v := .bool true) hns rfl rfl rfl (by kernel_rfl) (by kernel_rfl) hP (y_ext rfl (by kernel_rfl) (by kernel_rfl) (ext3_2 (.pointer (some ⟨p6, 0, none⟩)) (.pointer (some ⟨j6, 0, none⟩)) (.bool true))) (fun _ => hS6) rfl (L' := #[true, true, true, true, true, true, true, true, true, true, true, false, false, false]) (by kernel_rfl) ?_
              refine z_pure (i := 11) (v := .pointer (some ⟨p6, 0, none⟩)) hns rfl rfl rfl (by kernel_rfl) (by kernel_rfl) hP (y_assign rfl (by kernel_rfl) (by kernel_rfl)) (fun _ => hS6) rfl (L' := #[true, true, true, true, true, true, true, true, true, true, true, true, false, false]) (by kernel_rfl) ?_
              refine z_pure (i := 12) (v := .pointer (some ⟨j6, 0, none⟩)) hns rfl rfl rfl (by kernel_rfl) (by kernel_rfl) hP (y_assign rfl (by kernel_rfl) (by kernel_rfl)) (fun _ => hS6) rfl (L' := #[true, true, true, true, true, true, true, true, true, true, true, true, true, false]) (by kernel_rfl) ?_
              refine z_val (i := 13) (v := .bool true) (by kernel_rfl) rfl rfl (by kernel_rfl) (run_asg rfl (by kernel_rfl)) hS6 rfl (L' := #[true, true, true, true, true, true, true, true, true, true, true, true, true, true]) (by kernel_rfl) ?_
              try simp only [List.setIfInBounds_toArray, List.set_cons_zero, List.set_cons_succ]
              refine z_done (by kernel_rfl) ?_ _
              refine hN _ _ ?_
              clear hP hN hns
              clear hS HCR HLB hS5 hS6
              have hR6 := hK6.rj (HRX.out.below hB5)
              have hhas := lhas_any hJ6 hR6 rfl
              rw [decide_eq_true (And.intro rfl rfl)] at hhas
              have HHAS := hid hhas
              have H6 := hid (And.intro hJ6 (And.intro hn6 (And.intro hc6 (And.intro ho6 (And.intro ho6b (And.intro hX6 (And.intro hj6 (And.intro hW6 hR6))))))))
              clear hhas hJ6 hn6 hc6 ho6 ho6b hX6 hj6 hW6 hK6 hR6 hD5 hX5 hB5 hW5 HRX HWX HAF
              go_wp2_with fail
              refine HHAS.out.mono ?_
              rintro e wy ⟨rfl, hBy⟩
              have h6 := H6.out
              have HZ : Hid (Lst W ab n (i + 1) wy j6 p6 r X6 s6 sq _ bl Br) := hid ⟨⟨h6.1.below hBy, h6.2.2.1, h6.2.2.2.2.2.1, h6.2.2.2.2.2.2.1⟩, h6.2.2.2.2.2.2.2.2.below hBy, HRB.out.1, HRB.out.2, h6.2.2.2.2.2.2.2.1.trans (hBy.mono (Nat.le_trans HW0.out h6.2.2.2.2.2.2.2.1.size)), h6.2.1, HQS.out, by have := h6.2.2.2.2.1; omega, h6.2.2.2.1⟩
              clear h6 hBy HHAS H6
              go_wp2_with fail
              exact ⟨⟨i + 1, _, _, _, _, _, _, _, _, _, HI.out.1, HI.out.2, rfl, rfl, rfl, rfl, HZ.out⟩, by have := HI.out; simp [intOf]; omega⟩
            · have hc2 : ¬ (k : Int) < 25 := by omega
              clear hkm
              go_wp2_with fail
              refine z_open (S := fun w' => w'.heap[lb]? = some (.cells #[.slice v.sa v.sn v.sc, .int .i64 v.cut, .slice v.ta v.tn v.tc, .slice v.ga v.gn v.gc] 59 (0, 0))) 13 (by kernel_rfl) (by kernel_rfl) (fun _ _ _ _ _ h => h) (L := #[false, false, false, false, false, false, false, false, false, false, false, false, false, false]) (by kernel_rfl) ?_
              intro Q' hns hP hN
              have hS := HLB.out
              refine z_pure (i := 0) (v := .pointer (some ⟨p, 0, none⟩)) hns rfl rfl rfl (by kernel_rfl) (by kernel_rfl) hP (y_move rfl (by kernel_rfl) (by kernel_rfl)) (fun _ => hS) rfl (L' := #[true, false, false, false, false, false, false, false, false, false, false, false, false, false]) (by kernel_rfl) ?_
              refine z_pure (i := 1) (v := .pointer (some ⟨lb, 2, none⟩)) hns rfl rfl rfl (by kernel_rfl) (by kernel_rfl) hP (y_faddr rfl (by kernel_rfl) (by kernel_rfl) (fa59_2 (lb))) (fun _ => hS) rfl (L' := #[true, true, false, false, false, false, false, false, false, false, false, false, false, false]) (by kernel_rfl) ?_
              refine z_read (i := 2) (v := .slice v.ta v.tn v.tc) hns rfl (by kernel_rfl) rfl rfl (by kernel_rfl) (by kernel_rfl) hP (y_load rfl (by kernel_rfl) (by kernel_rfl) (fun w' h => load1 Tryd.isAgg43 (cell_at h 2 rfl))) rfl hS rfl (L' := #[true, true, true, false, false, false, false, false, false, false, false, false, false, false]) (by kernel_rfl) ?_
              refine z_pure (i := 4) (v := .pointer (some ⟨lb, 3, none⟩)) hns rfl rfl rfl (by kernel_rfl) (by kernel_rfl) hP (y_faddr rfl (by kernel_rfl) (by kernel_rfl) (fa59_3 (lb))) (fun _ => hS) rfl (L' := #[true, true, true, false, true, false, false, false, false, false, false, false, false, false]) (by kernel_rfl) ?_
              refine z_read (i := 5) (v := .slice v.ga v.gn v.gc) hns rfl (by kernel_rfl) rfl rfl (by kernel_rfl) (by kernel_rfl) hP (y_load rfl (by kernel_rfl) (by kernel_rfl) (fun w' h => load1 Tryd.isAgg57 (cell_at h 3 rfl))) rfl hS rfl (L' := #[true, true, true, false, true, true, false, false, false, false, false, false, false, false]) (by kernel_rfl) ?_
              refine z_call (i := 3) (f := 30) (args := #[.pointer (some ⟨p, 0, none⟩), .slice v.ta v.tn v.tc]) (by kernel_rfl) rfl rfl (by kernel_rfl) (enter_go rfl (by kernel_rfl) (fun w => by go_simp)) (L' := #[true, true, true, true, true, true, false, false, false, false, false, false, false, false]) (by kernel_rfl) ?_
              refine HCR.out.mono ?_
              rintro e w5 ⟨p5, X5, rfl, hD5, hX5, hB5⟩
              have hS5 := below_at hB5 hS (heap_lt hS)
              refine ⟨_, rfl, hS5, ?_⟩
              refine z_call (i := 6) (f := 29) (args := #[.pointer (some ⟨p5, 0, none⟩), .slice v.ga v.gn v.gc]) (by kernel_rfl) rfl rfl (by kernel_rfl) (enter_go rfl (by kernel_rfl) (fun w => by go_simp)) (L' := #[true, true, true, true, true, true, true, false, false, false, false, false, false, false]) (by kernel_rfl) ?_
              have hW5 : Below ab W w5 := HWX.out.trans (hB5.mono (Nat.le_trans HW0.out HWX.out.size))
              refine (again_any HT.out HAB.out HFL.out.1 HFL.out.2 HNN.out hW5 hD5 HAF.out (fun k hk => Nat.le_trans (Nat.le_trans HW0.out HWX.out.size) (hX5 k hk))).mono ?_
              rintro e w6 ⟨p6, j6, X6, s6, rfl, hJ6, hn6, hc6, ho6, ho6b, hX6, hj6, hW6, hK6⟩
              have hS6 := hK6.block _ _ _ _ hS5 (by decide) (by decide) (by decide)
              refine ⟨_, rfl, hS6, ?_⟩
              simp only [List.setIfInBounds_toArray, List.set_cons_zero, List.set_cons_succ]
              refine z_pure (i := 7) (v := .tuple #[.pointer (some ⟨p6, 0, none⟩), .pointer (some ⟨j6, 0, none⟩), .bool true]) hns rfl rfl rfl (by kernel_rfl) (by kernel_rfl) hP (y_move rfl (by kernel_rfl) (by kernel_rfl)) (fun _ => hS6) rfl (L' := #[true, true, true, true, true, true, true, true, false, false, false, false, false, false]) (by kernel_rfl) ?_
              refine z_pure (i := 8) (v := .pointer (some ⟨p6, 0, none⟩)) hns rfl rfl rfl (by kernel_rfl) (by kernel_rfl) hP (y_ext rfl (by kernel_rfl) (by kernel_rfl) (ext3_0 (.pointer (some ⟨p6, 0, none⟩)) (.pointer (some ⟨j6, 0, none⟩)) (.bool true))) (fun _ => hS6) rfl (L' := #[true, true, true, true, true, true, true, true, true, false, false, false, false, false]) (by kernel_rfl) ?_
              refine z_pure (i := 9) (v := .pointer (some ⟨j6, 0, none⟩)) hns rfl rfl rfl (by kernel_rfl) (by kernel_rfl) hP (y_ext rfl (by kernel_rfl) (by kernel_rfl) (ext3_1 (.pointer (some ⟨p6, 0, none⟩)) (.pointer (some ⟨j6, 0, none⟩)) (.bool true))) (fun _ => hS6) rfl (L' := #[true, true, true, true, true, true, true, true, true, true, false, false, false, false]) (by kernel_rfl) ?_
              refine z_pure (i := 10) (v := .bool true) hns rfl rfl rfl (by kernel_rfl) (by kernel_rfl) hP (y_ext rfl (by kernel_rfl) (by kernel_rfl) (ext3_2 (.pointer (some ⟨p6, 0, none⟩)) (.pointer (some ⟨j6, 0, none⟩)) (.bool true))) (fun _ => hS6) rfl (L' := #[true, true, true, true, true, true, true, true, true, true, true, false, false, false]) (by kernel_rfl) ?_
              refine z_pure (i := 11) (v := .pointer (some ⟨p6, 0, none⟩)) hns rfl rfl rfl (by kernel_rfl) (by kernel_rfl) hP (y_assign rfl (by kernel_rfl) (by kernel_rfl)) (fun _ => hS6) rfl (L' := #[true, true, true, true, true, true, true, true, true, true, true, true, false, false]) (by kernel_rfl) ?_
              refine z_pure (i := 12) (v := .pointer (some ⟨j6, 0, none⟩)) hns rfl rfl rfl (by kernel_rfl) (by kernel_rfl) hP (y_assign rfl (by kernel_rfl) (by kernel_rfl)) (fun _ => hS6) rfl (L' := #[true, true, true, true, true, true, true, true, true, true, true, true, true, false]) (by kernel_rfl) ?_
              refine z_val (i := 13) (v := .bool true) (by kernel_rfl) rfl rfl (by kernel_rfl) (run_asg rfl (by kernel_rfl)) hS6 rfl (L' := #[true, true, true, true, true, true, true, true, true, true, true, true, true, true]) (by kernel_rfl) ?_
              try simp only [List.setIfInBounds_toArray, List.set_cons_zero, List.set_cons_succ]
              refine z_done (by kernel_rfl) ?_ _
              refine hN _ _ ?_
              clear hP hN hns
              clear hS HCR HLB hS5 hS6
              have hR6 := hK6.rj (HRX.out.below hB5)
              have hhas := lhas_any hJ6 hR6 rfl
              rw [decide_eq_true (And.intro rfl rfl)] at hhas
              have HHAS := hid hhas
              have H6 := hid (And.intro hJ6 (And.intro hn6 (And.intro hc6 (And.intro ho6 (And.intro ho6b (And.intro hX6 (And.intro hj6 (And.intro hW6 hR6))))))))
              clear hhas hJ6 hn6 hc6 ho6 ho6b hX6 hj6 hW6 hK6 hR6 hD5 hX5 hB5 hW5 HRX HWX HAF
              go_wp2_with fail
              refine HHAS.out.mono ?_
              rintro e wy ⟨rfl, hBy⟩
              have h6 := H6.out
              have HZ : Hid (Lst W ab n (i + 1) wy j6 p6 r X6 s6 sq _ bl Br) := hid ⟨⟨h6.1.below hBy, h6.2.2.1, h6.2.2.2.2.2.1, h6.2.2.2.2.2.2.1⟩, h6.2.2.2.2.2.2.2.2.below hBy, HRB.out.1, HRB.out.2, h6.2.2.2.2.2.2.2.1.trans (hBy.mono (Nat.le_trans HW0.out h6.2.2.2.2.2.2.2.1.size)), h6.2.1, HQS.out, by have := h6.2.2.2.2.1; omega, h6.2.2.2.1⟩
              clear h6 hBy HHAS H6
              go_wp2_with fail
              exact ⟨⟨i + 1, _, _, _, _, _, _, _, _, _, HI.out.1, HI.out.2, rfl, rfl, rfl, rfl, HZ.out⟩, by have := HI.out; simp [intOf]; omega⟩
          · have hc1 : ¬ (k : Int) < (v.sn : Int) := by omega
            clear hkn
            go_wp2_with fail
            refine z_open (S := fun w' => w'.heap[lb]? = some (.cells #[.slice v.sa v.sn v.sc, .int .i64 v.cut, .slice v.ta v.tn v.tc, .slice v.ga v.gn v.gc] 59 (0, 0))) 13 (by kernel_rfl) (by kernel_rfl) (fun _ _ _ _ _ h => h) (L := #[false, false, false, false, false, false, false, false, false, false, false, false, false, false]) (by kernel_rfl) ?_
            intro Q' hns hP hN
            have hS := HLB.out
            refine z_pure (i := 0) (v := .pointer (some ⟨p, 0, none⟩)) hns rfl rfl rfl (by kernel_rfl) (by kernel_rfl) hP (y_move rfl (by kernel_rfl) (by kernel_rfl)) (fun _ => hS) rfl (L' := #[true, false, false, false, false, false, false, false, false, false, false, false, false, false]) (by kernel_rfl) ?_
            refine z_pure (i := 1) (v := .pointer (some ⟨lb, 2, none⟩)) hns rfl rfl rfl (by kernel_rfl) (by kernel_rfl) hP (y_faddr rfl (by kernel_rfl) (by kernel_rfl) (fa59_2 (lb))) (fun _ => hS) rfl (L' := #[true, true, false, false, false, false, false, false, false, false, false, false, false, false]) (by kernel_rfl) ?_
            refine z_read (i := 2) (v := .slice v.ta v.tn v.tc) hns rfl (by kernel_rfl) rfl rfl (by kernel_rfl) (by kernel_rfl) hP (y_load rfl (by kernel_rfl) (by kernel_rfl) (fun w' h => load1 Tryd.isAgg43 (cell_at h 2 rfl))) rfl hS rfl (L' := #[true, true, true, false, false, false, false, false, false, false, false, false, false, false]) (by kernel_rfl) ?_
            refine z_pure (i := 4) (v := .pointer (some ⟨lb, 3, none⟩)) hns rfl rfl rfl (by kernel_rfl) (by kernel_rfl) hP (y_faddr rfl (by kernel_rfl) (by kernel_rfl) (fa59_3 (lb))) (fun _ => hS) rfl (L' := #[true, true, true, false, true, false, false, false, false, false, false, false, false, false]) (by kernel_rfl) ?_
            refine z_read (i := 5) (v := .slice v.ga v.gn v.gc) hns rfl (by kernel_rfl) rfl rfl (by kernel_rfl) (by kernel_rfl) hP (y_load rfl (by kernel_rfl) (by kernel_rfl) (fun w' h => load1 Tryd.isAgg57 (cell_at h 3 rfl))) rfl hS rfl (L' := #[true, true, true, false, true, true, false, false, false, false, false, false, false, false]) (by kernel_rfl) ?_
            refine z_call (i := 3) (f := 30) (args := #[.pointer (some ⟨p, 0, none⟩), .slice v.ta v.tn v.tc]) (by kernel_rfl) rfl rfl (by kernel_rfl) (enter_go rfl (by kernel_rfl) (fun w => by go_simp)) (L' := #[true, true, true, true, true, true, false, false, false, false, false, false, false, false]) (by kernel_rfl) ?_
            refine HCR.out.mono ?_
            rintro e w5 ⟨p5, X5, rfl, hD5, hX5, hB5⟩
            have hS5 := below_at hB5 hS (heap_lt hS)
            refine ⟨_, rfl, hS5, ?_⟩
            refine z_call (i := 6) (f := 29) (args := #[.pointer (some ⟨p5, 0, none⟩), .slice v.ga v.gn v.gc]) (by kernel_rfl) rfl rfl (by kernel_rfl) (enter_go rfl (by kernel_rfl) (fun w => by go_simp)) (L' := #[true, true, true, true, true, true, true, false, false, false, false, false, false, false]) (by kernel_rfl) ?_
            have hW5 : Below ab W w5 := HWX.out.trans (hB5.mono (Nat.le_trans HW0.out HWX.out.size))
            refine (again_any HT.out HAB.out HFL.out.1 HFL.out.2 HNN.out hW5 hD5 HAF.out (fun k hk => Nat.le_trans (Nat.le_trans HW0.out HWX.out.size) (hX5 k hk))).mono ?_
            rintro e w6 ⟨p6, j6, X6, s6, rfl, hJ6, hn6, hc6, ho6, ho6b, hX6, hj6, hW6, hK6⟩
            have hS6 := hK6.block _ _ _ _ hS5 (by decide) (by decide) (by decide)
            refine ⟨_, rfl, hS6, ?_⟩
            simp only [List.setIfInBounds_toArray, List.set_cons_zero, List.set_cons_succ]
            refine z_pure (i := 7) (v := .tuple #[.pointer (some ⟨p6, 0, none⟩), .pointer (some ⟨j6, 0, none⟩), .bool true]) hns rfl rfl rfl (by kernel_rfl) (by kernel_rfl) hP (y_move rfl (by kernel_rfl) (by kernel_rfl)) (fun _ => hS6) rfl (L' := #[true, true, true, true, true, true, true, true, false, false, false, false, false, false]) (by kernel_rfl) ?_
            refine z_pure (i := 8) (v := .pointer (some ⟨p6, 0, none⟩)) hns rfl rfl rfl (by kernel_rfl) (by kernel_rfl) hP (y_ext rfl (by kernel_rfl) (by kernel_rfl) (ext3_0 (.pointer (some ⟨p6, 0, none⟩)) (.pointer (some ⟨j6, 0, none⟩)) (.bool true))) (fun _ => hS6) rfl (L' := #[true, true, true, true, true, true, true, true, true, false, false, false, false, false]) (by kernel_rfl) ?_
            refine z_pure (i := 9) (v := .pointer (some ⟨j6, 0, none⟩)) hns rfl rfl rfl (by kernel_rfl) (by kernel_rfl) hP (y_ext rfl (by kernel_rfl) (by kernel_rfl) (ext3_1 (.pointer (some ⟨p6, 0, none⟩)) (.pointer (some ⟨j6, 0, none⟩)) (.bool true))) (fun _ => hS6) rfl (L' := #[true, true, true, true, true, true, true, true, true, true, false, false, false, false]) (by kernel_rfl) ?_
            refine z_pure (i := 10) (v := .bool true) hns rfl rfl rfl (by kernel_rfl) (by kernel_rfl) hP (y_ext rfl (by kernel_rfl) (by kernel_rfl) (ext3_2 (.pointer (some ⟨p6, 0, none⟩)) (.pointer (some ⟨j6, 0, none⟩)) (.bool true))) (fun _ => hS6) rfl (L' := #[true, true, true, true, true, true, true, true, true, true, true, false, false, false]) (by kernel_rfl) ?_
            refine z_pure (i := 11) (v := .pointer (some ⟨p6, 0, none⟩)) hns rfl rfl rfl (by kernel_rfl) (by kernel_rfl) hP (y_assign rfl (by kernel_rfl) (by kernel_rfl)) (fun _ => hS6) rfl (L' := #[true, true, true, true, true, true, true, true, true, true, true, true, false, false]) (by kernel_rfl) ?_
            refine z_pure (i := 12) (v := .pointer (some ⟨j6, 0, none⟩)) hns rfl rfl rfl (by kernel_rfl) (by kernel_rfl) hP (y_assign rfl (by kernel_rfl) (by kernel_rfl)) (fun _ => hS6) rfl (L' := #[true, true, true, true, true, true, true, true, true, true, true, true, true, false]) (by kernel_rfl) ?_
            refine z_val (i := 13) (v := .bool true) (by kernel_rfl) rfl rfl (by kernel_rfl) (run_asg rfl (by kernel_rfl)) hS6 rfl (L' := #[true, true, true, true, true, true, true, true, true, true, true, true, true, true]) (by kernel_rfl) ?_
            try simp only [List.setIfInBounds_toArray, List.set_cons_zero, List.set_cons_succ]
            refine z_done (by kernel_rfl) ?_ _
            refine hN _ _ ?_
            clear hP hN hns
            clear hS HCR HLB hS5 hS6
            have hR6 := hK6.rj (HRX.out.below hB5)
            have hhas := lhas_any hJ6 hR6 rfl
            rw [decide_eq_true (And.intro rfl rfl)] at hhas
            have HHAS := hid hhas
            have H6 := hid (And.intro hJ6 (And.intro hn6 (And.intro hc6 (And.intro ho6 (And.intro ho6b (And.intro hX6 (And.intro hj6 (And.intro hW6 hR6))))))))
            clear hhas hJ6 hn6 hc6 ho6 ho6b hX6 hj6 hW6 hK6 hR6 hD5 hX5 hB5 hW5 HRX HWX HAF
            go_wp2_with fail
            refine HHAS.out.mono ?_
            rintro e wy ⟨rfl, hBy⟩
            have h6 := H6.out
            have HZ : Hid (Lst W ab n (i + 1) wy j6 p6 r X6 s6 sq _ bl Br) := hid ⟨⟨h6.1.below hBy, h6.2.2.1, h6.2.2.2.2.2.1, h6.2.2.2.2.2.2.1⟩, h6.2.2.2.2.2.2.2.2.below hBy, HRB.out.1, HRB.out.2, h6.2.2.2.2.2.2.2.1.trans (hBy.mono (Nat.le_trans HW0.out h6.2.2.2.2.2.2.2.1.size)), h6.2.1, HQS.out, by have := h6.2.2.2.2.1; omega, h6.2.2.2.1⟩
            clear h6 hBy HHAS H6
            go_wp2_with fail
            exact ⟨⟨i + 1, _, _, _, _, _, _, _, _, _, HI.out.1, HI.out.2, rfl, rfl, rfl, rfl, HZ.out⟩, by have := HI.out; simp [intOf]; omega⟩
        · have HAF : Hid (Aft (s.cr v.zs) n sq2 cnt2 bl2) := hid (Aft.of_cr hgn hcon)
          clear hgn hcon
          by_cases hkn : k < v.sn
          · have hc1 : (k : Int) < (v.sn : Int) := by omega
            clear hkn
            by_cases hkm : k < 25
            · have hc2 : (k : Int) < 25 := by omega
              clear hkm
              go_wp2_with fail
              refine z_open (S := fun w' => w'.heap[lb]? = some (.cells #[.slice v.sa v.sn v.sc, .int .i64 v.cut, .slice v.ta v.tn v.tc, .slice v.ga v.gn v.gc] 59 (0, 0))) 13 (by kernel_rfl) (by kernel_rfl) (fun _ _ _ _ _ h => h) (L := #[false, false, false, false, false, false, false, false, false, false, false, false, false, false]) (by kernel_rfl) ?_
              intro Q' hns hP hN
              have hS := HLB.out
              refine z_pure (i := 0) (v := .pointer (some ⟨p, 0, none⟩)) hns rfl rfl rfl (by kernel_rfl) (by kernel_rfl) hP (y_move rfl (by kernel_rfl) (by kernel_rfl)) (fun _ => hS) rfl (L' := #[true, false, false, false, false, false, false, false, false, false, false, false, false, false]) (by kernel_rfl) ?_
              refine z_pure (i := 1) (v := .pointer (some ⟨lb, 2, none⟩)) hns rfl rfl rfl (by kernel_rfl) (by kernel_rfl) hP (y_faddr rfl (by kernel_rfl) (by kernel_rfl) (fa59_2 (lb))) (fun _ => hS) rfl (L' := #[true, true, false, false, false, false, false, false, false, false, false, false, false, false]) (by kernel_rfl) ?_
              refine z_read (i := 2) (v := .slice v.ta v.tn v.tc) hns rfl (by kernel_rfl) rfl rfl (by kernel_rfl) (by kernel_rfl) hP (y_load rfl (by kernel_rfl) (by kernel_rfl) (fun w' h => load1 Tryd.isAgg43 (cell_at h 2 rfl))) rfl hS rfl (L' := #[true, true, true, false, false, false, false, false, false, false, false, false, false, false]) (by kernel_rfl) ?_
              refine z_pure (i := 4) (v := .pointer (some ⟨lb, 3, none⟩)) hns rfl rfl rfl (by kernel_rfl) (by kernel_rfl) hP (y_faddr rfl (by kernel_rfl) (by kernel_rfl) (fa59_3 (lb))) (fun _ => hS) rfl (L' := #[true, true, true, false, true, false, false, false, false, false, false, false, false, false]) (by kernel_rfl) ?_
              refine z_read (i := 5) (v := .slice v.ga v.gn v.gc) hns rfl (by kernel_rfl) rfl rfl (by kernel_rfl) (by kernel_rfl) hP (y_load rfl (by kernel_rfl) (by kernel_rfl) (fun w' h => load1 Tryd.isAgg57 (cell_at h 3 rfl))) rfl hS rfl (L' := #[true, true, true, false, true, true, false, false, false, false, false, false, false, false]) (by kernel_rfl) ?_
              refine z_call (i := 3) (f := 30) (args := #[.pointer (some ⟨p, 0, none⟩), .slice v.ta v.tn v.tc]) (by kernel_rfl) rfl rfl (by kernel_rfl) (enter_go rfl (by kernel_rfl) (fun w => by go_simp)) (L' := #[true, true, true, true, true, true, false, false, false, false, false, false, false, false]) (by kernel_rfl) ?_
              refine HCR.out.mono ?_
              rintro e w5 ⟨p5, X5, rfl, hD5, hX5, hB5⟩
              have hS5 := below_at hB5 hS (heap_lt hS)
              refine ⟨_, rfl, hS5, ?_⟩
              refine z_call (i := 6) (f := 29) (args := #[.pointer (some ⟨p5, 0, none⟩), .slice v.ga v.gn v.gc]) (by kernel_rfl) rfl rfl (by kernel_rfl) (enter_go rfl (by kernel_rfl) (fun w => by go_simp)) (L' := #[true, true, true, true, true, true, true, false, false, false, false, false, false, false]) (by kernel_rfl) ?_
              have hW5 : Below ab W w5 := HWX.out.trans (hB5.mono (Nat.le_trans HW0.out HWX.out.size))
              refine (again_any HT.out HAB.out HFL.out.1 HFL.out.2 HNN.out hW5 hD5 HAF.out (fun k hk => Nat.le_trans (Nat.le_trans HW0.out HWX.out.size) (hX5 k hk))).mono ?_
              rintro e w6 ⟨p6, j6, X6, s6, rfl, hJ6, hn6, hc6, ho6, ho6b, hX6, hj6, hW6, hK6⟩
              have hS6 := hK6.block _ _ _ _ hS5 (by decide) (by decide) (by decide)
              refine ⟨_, rfl, hS6, ?_⟩
              simp only [List.setIfInBounds_toArray, List.set_cons_zero, List.set_cons_succ]
              refine z_pure (i := 7) (v := .tuple #[.pointer (some ⟨p6, 0, none⟩), .pointer (some ⟨j6, 0, none⟩), .bool true]) hns rfl rfl rfl (by kernel_rfl) (by kernel_rfl) hP (y_move rfl (by kernel_rfl) (by kernel_rfl)) (fun _ => hS6) rfl (L' := #[true, true, true, true, true, true, true, true, false, false, false, false, false, false]) (by kernel_rfl) ?_
              refine z_pure (i := 8) (v := .pointer (some ⟨p6, 0, none⟩)) hns rfl rfl rfl (by kernel_rfl) (by kernel_rfl) hP (y_ext rfl (by kernel_rfl) (by kernel_rfl) (ext3_0 (.pointer (some ⟨p6, 0, none⟩)) (.pointer (some ⟨j6, 0, none⟩)) (.bool true))) (fun _ => hS6) rfl (L' := #[true, true, true, true, true, true, true, true, true, false, false, false, false, false]) (by kernel_rfl) ?_
              refine z_pure (i := 9) (v := .pointer (some ⟨j6, 0, none⟩)) hns rfl rfl rfl (by kernel_rfl) (by kernel_rfl) hP (y_ext rfl (by kernel_rfl) (by kernel_rfl) (ext3_1 (.pointer (some ⟨p6, 0, none⟩)) (.pointer (some ⟨j6, 0, none⟩)) (.bool true))) (fun _ => hS6) rfl (L' := #[true, true, true, true, true, true, true, true, true, true, false, false, false, false]) (by kernel_rfl) ?_
              refine z_pure (i := 10) (v := .bool true) hns rfl rfl rfl (by kernel_rfl) (by kernel_rfl) hP (y_ext rfl (by kernel_rfl) (by kernel_rfl) (ext3_2 (.pointer (some ⟨p6, 0, none⟩)) (.pointer (some ⟨j6, 0, none⟩)) (.bool true))) (fun _ => hS6) rfl (L' := #[true, true, true, true, true, true, true, true, true, true, true, false, false, false]) (by kernel_rfl) ?_
              refine z_pure (i := 11) (v := .pointer (some ⟨p6, 0, none⟩)) hns rfl rfl rfl (by kernel_rfl) (by kernel_rfl) hP (y_assign rfl (by kernel_rfl) (by kernel_rfl)) (fun _ => hS6) rfl (L' := #[true, true, true, true, true, true, true, true, true, true, true, true, false, false]) (by kernel_rfl) ?_
              refine z_pure (i := 12) (v := .pointer (some ⟨j6, 0, none⟩)) hns rfl rfl rfl (by kernel_rfl) (by kernel_rfl) hP (y_assign rfl (by kernel_rfl) (by kernel_rfl)) (fun _ => hS6) rfl (L' := #[true, true, true, true, true, true, true, true, true, true, true, true, true, false]) (by kernel_rfl) ?_
              refine z_val (i := 13) (v := .bool true) (by kernel_rfl) rfl rfl (by kernel_rfl) (run_asg rfl (by kernel_rfl)) hS6 rfl (L' := #[true, true, true, true, true, true, true, true, true, true, true, true, true, true]) (by kernel_rfl) ?_
              try simp only [List.setIfInBounds_toArray, List.set_cons_zero, List.set_cons_succ]
              refine z_done (by kernel_rfl) ?_ _
              refine hN _ _ ?_
              clear hP hN hns
              clear hS HCR HLB hS5 hS6
              have hR6 := hK6.rj (HRX.out.below hB5)
              have hhas := lhas_any hJ6 hR6 (by rw [HBL.out.1, HBL.out.2])
              have hT6 := hK6.rj (HTX.out.below hB5)
              have HHT := hid (fun wy (hBy : Below w6.heap.size w6 wy) => lhas_same (hJ6.below hBy) (hT6.below hBy))
              by_cases hsm : sq = sq2 ∧ bl = bl2
              · obtain ⟨rfl, rfl⟩ := hsm
                rw [decide_eq_true (And.intro rfl rfl)] at hhas
                have HHAS := hid hhas
                have H6 := hid (And.intro hJ6 (And.intro hn6 (And.intro hc6 (And.intro ho6 (And.intro ho6b (And.intro hX6 (And.intro hj6 (And.intro hW6 hR6))))))))
                clear hhas hJ6 hn6 hc6 ho6 ho6b hX6 hj6 hW6 hK6 hR6 hD5 hX5 hB5 hW5 HRX HWX HAF
                go_wp2_with fail
                refine HHAS.out.mono ?_
                rintro e wy ⟨rfl, hBy⟩
                have h6 := H6.out
                have HZ : Hid (Lst W ab n (i + 1) wy j6 p6 r X6 s6 sq _ bl Br) := hid ⟨⟨h6.1.below hBy, h6.2.2.1, h6.2.2.2.2.2.1, h6.2.2.2.2.2.2.1⟩, h6.2.2.2.2.2.2.2.2.below hBy, HRB.out.1, HRB.out.2, h6.2.2.2.2.2.2.2.1.trans (hBy.mono (Nat.le_trans HW0.out h6.2.2.2.2.2.2.2.1.size)), h6.2.1, HQS.out, by have := h6.2.2.2.2.1; omega, h6.2.2.2.1⟩
                clear h6 hBy HHAS H6
                go_wp2_with fail
                exact ⟨⟨i + 1, _, _, _, _, _, _, _, _, _, HI.out.1, HI.out.2, rfl, rfl, rfl, rfl, HZ.out⟩, by have := HI.out; simp [intOf]; omega⟩
              · rw [decide_eq_false (fun h => hsm ⟨h.1.symm, h.2.symm⟩)] at hhas
                have HHAS := hid hhas
                have H6 := hid (And.intro hJ6 (And.intro hn6 (And.intro hc6 (And.intro ho6 (And.intro ho6b (And.intro hX6 (And.intro hj6 (And.intro hW6 hT6))))))))
                clear hhas hsm hJ6 hn6 hc6 ho6 ho6b hX6 hj6 hW6 hK6 hR6 hT6 hD5 hX5 hB5 hW5 HRX HTX HWX HAF
                go_wp2_with fail
                refine HHAS.out.mono ?_
                rintro e wy ⟨rfl, hBy⟩
                have hh := HHT.out wy hBy
                have HH2 := hid hh
                have HBY := hid hBy
                clear hh hBy HHAS HHT
                go_wp2_with fail
                refine HH2.out.mono ?_
                rintro e wx ⟨rfl, hBx⟩
                have h6 := H6.out
                have hBy := HBY.out.trans (hBx.mono HBY.out.size)
                have HZ : Hid (Lst W ab n (i + 1) wx j6 p6 t X6 s6 sq2 _ bl2 Bt) := hid ⟨⟨h6.1.below hBy, h6.2.2.1, h6.2.2.2.2.2.1, h6.2.2.2.2.2.2.1⟩, h6.2.2.2.2.2.2.2.2.below hBy, HTB.out.1, HTB.out.2, h6.2.2.2.2.2.2.2.1.trans (hBy.mono (Nat.le_trans HW0.out h6.2.2.2.2.2.2.2.1.size)), h6.2.1, HQT.out, by have := h6.2.2.2.2.1; omega, h6.2.2.2.1⟩
                clear h6 hBx hBy HH2 H6 HBY
                go_wp2_with fail
                exact ⟨⟨i + 1, _, _, _, _, _, _, _, _, _, HI.out.1, HI.out.2, rfl, rfl, rfl, rfl, HZ.out⟩, by have := HI.out; simp [intOf]; omega⟩
            · have hc2 : ¬ (k : Int) < 25 := by omega
              clear hkm
              go_wp2_with fail
              refine z_open (S := fun w' => w'.heap[lb]? = some (.cells #[.slice v.sa v.sn v.sc, .int .i64 v.cut, .slice v.ta v.tn v.tc, .slice v.ga v.gn v.gc] 59 (0, 0))) 13 (by kernel_rfl) (by kernel_rfl) (fun _ _ _ _ _ h => h) (L := #[false, false, false, false, false, false, false, false, false, false, false, false, false, false]) (by kernel_rfl) ?_
              intro Q' hns hP hN
              have hS := HLB.out
              refine z_pure (i := 0) (v := .pointer (some ⟨p, 0, none⟩)) hns rfl rfl rfl (by kernel_rfl) (by kernel_rfl) hP (y_move rfl (by kernel_rfl) (by kernel_rfl)) (fun _ => hS) rfl (L' := #[true, false, false, false, false, false, false, false, false, false, false, false, false, false]) (by kernel_rfl) ?_
              refine z_pure (i := 1) (v := .pointer (some ⟨lb, 2, none⟩)) hns rfl rfl rfl (by kernel_rfl) (by kernel_rfl) hP (y_faddr rfl (by kernel_rfl) (by kernel_rfl) (fa59_2 (lb))) (fun _ => hS) rfl (L' := #[true, true, false, false, false, false, false, false, false, false, false, false, false, false]) (by kernel_rfl) ?_
              refine z_read (i := 2) (v := .slice v.ta v.tn v.tc) hns rfl (by kernel_rfl) rfl rfl (by kernel_rfl) (by kernel_rfl) hP (y_load rfl (by kernel_rfl) (by kernel_rfl) (fun w' h => load1 Tryd.isAgg43 (cell_at h 2 rfl))) rfl hS rfl (L' := #[true, true, true, false, false, false, false, false, false, false, false, false, false, false]) (by kernel_rfl) ?_
              refine z_pure (i := 4) (v := .pointer (some ⟨lb, 3, none⟩)) hns rfl rfl rfl (by kernel_rfl) (by kernel_rfl) hP (y_faddr rfl (by kernel_rfl) (by kernel_rfl) (fa59_3 (lb))) (fun _ => hS) rfl (L' := #[true, true, true, false, true, false, false, false, false, false, false, false, false, false]) (by kernel_rfl) ?_
              refine z_read (i := 5) (v := .slice v.ga v.gn v.gc) hns rfl (by kernel_rfl) rfl rfl (by kernel_rfl) (by kernel_rfl) hP (y_load rfl (by kernel_rfl) (by kernel_rfl) (fun w' h => load1 Tryd.isAgg57 (cell_at h 3 rfl))) rfl hS rfl (L' := #[true, true, true, false, true, true, false, false, false, false, false, false, false, false]) (by kernel_rfl) ?_
              refine z_call (i := 3) (f := 30) (args := #[.pointer (some ⟨p, 0, none⟩), .slice v.ta v.tn v.tc]) (by kernel_rfl) rfl rfl (by kernel_rfl) (enter_go rfl (by kernel_rfl) (fun w => by go_simp)) (L' := #[true, true, true, true, true, true, false, false, false, false, false, false, false, false]) (by kernel_rfl) ?_
              refine HCR.out.mono ?_
              rintro e w5 ⟨p5, X5, rfl, hD5, hX5, hB5⟩
              have hS5 := below_at hB5 hS (heap_lt hS)
              refine ⟨_, rfl, hS5, ?_⟩
              refine z_call (i := 6) (f := 29) (args := #[.pointer (some ⟨p5, 0, none⟩), .slice v.ga v.gn v.gc]) (by kernel_rfl) rfl rfl (by kernel_rfl) (enter_go rfl (by kernel_rfl) (fun w => by go_simp)) (L' := #[true, true, true, true, true, true, true, false, false, false, false, false, false, false]) (by kernel_rfl) ?_
              have hW5 : Below ab W w5 := HWX.out.trans (hB5.mono (Nat.le_trans HW0.out HWX.out.size))
              refine (again_any HT.out HAB.out HFL.out.1 HFL.out.2 HNN.out hW5 hD5 HAF.out (fun k hk => Nat.le_trans (Nat.le_trans HW0.out HWX.out.size) (hX5 k hk))).mono ?_
              rintro e w6 ⟨p6, j6, X6, s6, rfl, hJ6, hn6, hc6, ho6, ho6b, hX6, hj6, hW6, hK6⟩
              have hS6 := hK6.block _ _ _ _ hS5 (by decide) (by decide) (by decide)
              refine ⟨_, rfl, hS6, ?_⟩
              simp only [List.setIfInBounds_toArray, List.set_cons_zero, List.set_cons_succ]
              refine z_pure (i := 7) (v := .tuple #[.pointer (some ⟨p6, 0, none⟩), .pointer (some ⟨j6, 0, none⟩), .bool true]) hns rfl rfl rfl (by kernel_rfl) (by kernel_rfl) hP (y_move rfl (by kernel_rfl) (by kernel_rfl)) (fun _ => hS6) rfl (L' := #[true, true, true, true, true, true, true, true, false, false, false, false, false, false]) (by kernel_rfl) ?_
              refine z_pure (i := 8) (v := .pointer (some ⟨p6, 0, none⟩)) hns rfl rfl rfl (by kernel_rfl) (by kernel_rfl) hP (y_ext rfl (by kernel_rfl) (by kernel_rfl) (ext3_0 (.pointer (some ⟨p6, 0, none⟩)) (.pointer (some ⟨j6, 0, none⟩)) (.bool true))) (fun _ => hS6) rfl (L' := #[true, true, true, true, true, true, true, true, true, false, false, false, false, false]) (by kernel_rfl) ?_
              refine z_pure (i := 9) (v := .pointer (some ⟨j6, 0, none⟩)) hns rfl rfl rfl (by kernel_rfl) (by kernel_rfl) hP (y_ext rfl (by kernel_rfl) (by kernel_rfl) (ext3_1 (.pointer (some ⟨p6, 0, none⟩)) (.pointer (some ⟨j6, 0, none⟩)) (.bool true))) (fun _ => hS6) rfl (L' := #[true, true, true, true, true, true, true, true, true, true, false, false, false, false]) (by kernel_rfl) ?_
              refine z_pure (i := 10) (v := .bool true) hns rfl rfl rfl (by kernel_rfl) (by kernel_rfl) hP (y_ext rfl (by kernel_rfl) (by kernel_rfl) (ext3_2 (.pointer (some ⟨p6, 0, none⟩)) (.pointer (some ⟨j6, 0, none⟩)) (.bool true))) (fun _ => hS6) rfl (L' := #[true, true, true, true, true, true, true, true, true, true, true, false, false, false]) (by kernel_rfl) ?_
              refine z_pure (i := 11) (v := .pointer (some ⟨p6, 0, none⟩)) hns rfl rfl rfl (by kernel_rfl) (by kernel_rfl) hP (y_assign rfl (by kernel_rfl) (by kernel_rfl)) (fun _ => hS6) rfl (L' := #[true, true, true, true, true, true, true, true, true, true, true, true, false, false]) (by kernel_rfl) ?_
              refine z_pure (i := 12) (v := .pointer (some ⟨j6, 0, none⟩)) hns rfl rfl rfl (by kernel_rfl) (by kernel_rfl) hP (y_assign rfl (by kernel_rfl) (by kernel_rfl)) (fun _ => hS6) rfl (L' := #[true, true, true, true, true, true, true, true, true, true, true, true, true, false]) (by kernel_rfl) ?_
              refine z_val (i := 13) (v := .bool true) (by kernel_rfl) rfl rfl (by kernel_rfl) (run_asg rfl (by kernel_rfl)) hS6 rfl (L' := #[true, true, true, true, true, true, true, true, true, true, true, true, true, true]) (by kernel_rfl) ?_
              try simp only [List.setIfInBounds_toArray, List.set_cons_zero, List.set_cons_succ]
              refine z_done (by kernel_rfl) ?_ _
              refine hN _ _ ?_
              clear hP hN hns
              clear hS HCR HLB hS5 hS6
              have hR6 := hK6.rj (HRX.out.below hB5)
              have hhas := lhas_any hJ6 hR6 (by rw [HBL.out.1, HBL.out.2])
              have hT6 := hK6.rj (HTX.out.below hB5)
              have HHT := hid (fun wy (hBy : Below w6.heap.size w6 wy) => lhas_same (hJ6.below hBy) (hT6.below hBy))
              by_cases hsm : sq = sq2 ∧ bl = bl2
              · obtain ⟨rfl, rfl⟩ := hsm
                rw [decide_eq_true (And.intro rfl rfl)] at hhas
                have HHAS := hid hhas
                have H6 := hid (And.intro hJ6 (And.intro hn6 (And.intro hc6 (And.intro ho6 (And.intro ho6b (And.intro hX6 (And.intro hj6 (And.intro hW6 hR6))))))))
                clear hhas hJ6 hn6 hc6 ho6 ho6b hX6 hj6 hW6 hK6 hR6 hD5 hX5 hB5 hW5 HRX HWX HAF
                go_wp2_with fail
                refine HHAS.out.mono ?_
                rintro e wy ⟨rfl, hBy⟩
                have h6 := H6.out
                have HZ : Hid (Lst W ab n (i + 1) wy j6 p6 r X6 s6 sq _ bl Br) := hid ⟨⟨h6.1.below hBy, h6.2.2.1, h6.2.2.2.2.2.1, h6.2.2.2.2.2.2.1⟩, h6.2.2.2.2.2.2.2.2.below hBy, HRB.out.1, HRB.out.2, h6.2.2.2.2.2.2.2.1.trans (hBy.mono (Nat.le_trans HW0.out h6.2.2.2.2.2.2.2.1.size)), h6.2.1, HQS.out, by have := h6.2.2.2.2.1; omega, h6.2.2.2.1⟩
                clear h6 hBy HHAS H6
                go_wp2_with fail
                exact ⟨⟨i + 1, _, _, _, _, _, _, _, _, _, HI.out.1, HI.out.2, rfl, rfl, rfl, rfl, HZ.out⟩, by have := HI.out; simp [intOf]; omega⟩
              · rw [decide_eq_false (fun h => hsm ⟨h.1.symm, h.2.symm⟩)] at hhas
                have HHAS := hid hhas
                have H6 := hid (And.intro hJ6 (And.intro hn6 (And.intro hc6 (And.intro ho6 (And.intro ho6b (And.intro hX6 (And.intro hj6 (And.intro hW6 hT6))))))))
                clear hhas hsm hJ6 hn6 hc6 ho6 ho6b hX6 hj6 hW6 hK6 hR6 hT6 hD5 hX5 hB5 hW5 HRX HTX HWX HAF
                go_wp2_with fail
                refine HHAS.out.mono ?_
                rintro e wy ⟨rfl, hBy⟩
                have hh := HHT.out wy hBy
                have HH2 := hid hh
                have HBY := hid hBy
                clear hh hBy HHAS HHT
                go_wp2_with fail
                refine HH2.out.mono ?_
                rintro e wx ⟨rfl, hBx⟩
                have h6 := H6.out
                have hBy := HBY.out.trans (hBx.mono HBY.out.size)
                have HZ : Hid (Lst W ab n (i + 1) wx j6 p6 t X6 s6 sq2 _ bl2 Bt) := hid ⟨⟨h6.1.below hBy, h6.2.2.1, h6.2.2.2.2.2.1, h6.2.2.2.2.2.2.1⟩, h6.2.2.2.2.2.2.2.2.below hBy, HTB.out.1, HTB.out.2, h6.2.2.2.2.2.2.2.1.trans (hBy.mono (Nat.le_trans HW0.out h6.2.2.2.2.2.2.2.1.size)), h6.2.1, HQT.out, by have := h6.2.2.2.2.1; omega, h6.2.2.2.1⟩
                clear h6 hBx hBy HH2 H6 HBY
                go_wp2_with fail
                exact ⟨⟨i + 1, _, _, _, _, _, _, _, _, _, HI.out.1, HI.out.2, rfl, rfl, rfl, rfl, HZ.out⟩, by have := HI.out; simp [intOf]; omega⟩
          · have hc1 : ¬ (k : Int) < (v.sn : Int) := by omega
            clear hkn
            go_wp2_with fail
            refine z_open (S := fun w' => w'.heap[lb]? = some (.cells #[.slice v.sa v.sn v.sc, .int .i64 v.cut, .slice v.ta v.tn v.tc, .slice v.ga v.gn v.gc] 59 (0, 0))) 13 (by kernel_rfl) (by kernel_rfl) (fun _ _ _ _ _ h => h) (L := #[false, false, false, false, false, false, false, false, false, false, false, false, false, false]) (by kernel_rfl) ?_
            intro Q' hns hP hN
            have hS := HLB.out
            refine z_pure (i := 0) (v := .pointer (some ⟨p, 0, none⟩)) hns rfl rfl rfl (by kernel_rfl) (by kernel_rfl) hP (y_move rfl (by kernel_rfl) (by kernel_rfl)) (fun _ => hS) rfl (L' := #[true, false, false, false, false, false, false, false, false, false, false, false, false, false]) (by kernel_rfl) ?_
            refine z_pure (i := 1) (v := .pointer (some ⟨lb, 2, none⟩)) hns rfl rfl rfl (by kernel_rfl) (by kernel_rfl) hP (y_faddr rfl (by kernel_rfl) (by kernel_rfl) (fa59_2 (lb))) (fun _ => hS) rfl (L' := #[true, true, false, false, false, false, false, false, false, false, false, false, false, false]) (by kernel_rfl) ?_
            refine z_read (i := 2) (v := .slice v.ta v.tn v.tc) hns rfl (by kernel_rfl) rfl rfl (by kernel_rfl) (by kernel_rfl) hP (y_load rfl (by kernel_rfl) (by kernel_rfl) (fun w' h => load1 Tryd.isAgg43 (cell_at h 2 rfl))) rfl hS rfl (L' := #[true, true, true, false, false, false, false, false, false, false, false, false, false, false]) (by kernel_rfl) ?_
            refine z_pure (i := 4) (v := .pointer (some ⟨lb, 3, none⟩)) hns rfl rfl rfl (by kernel_rfl) (by kernel_rfl) hP (y_faddr rfl (by kernel_rfl) (by kernel_rfl) (fa59_3 (lb))) (fun _ => hS) rfl (L' := #[true, true, true, false, true, false, false, false, false, false, false, false, false, false]) (by kernel_rfl) ?_
            refine z_read (i := 5) (v := .slice v.ga v.gn v.gc) hns rfl (by kernel_rfl) rfl rfl (by kernel_rfl) (by kernel_rfl) hP (y_load rfl (by kernel_rfl) (by kernel_rfl) (fun w' h => load1 Tryd.isAgg57 (cell_at h 3 rfl))) rfl hS rfl (L' := #[true, true, true, false, true, true, false, false, false, false, false, false, false, false]) (by kernel_rfl) ?_
            refine z_call (i := 3) (f := 30) (args := #[.pointer (some ⟨p, 0, none⟩), .slice v.ta v.tn v.tc]) (by kernel_rfl) rfl rfl (by kernel_rfl) (enter_go rfl (by kernel_rfl) (fun w => by go_simp)) (L' := #[true, true, true, true, true, true, false, false, false, false, false, false, false, false]) (by kernel_rfl) ?_
            refine HCR.out.mono ?_
            rintro e w5 ⟨p5, X5, rfl, hD5, hX5, hB5⟩
            have hS5 := below_at hB5 hS (heap_lt hS)
            refine ⟨_, rfl, hS5, ?_⟩
            refine z_call (i := 6) (f := 29) (args := #[.pointer (some ⟨p5, 0, none⟩), .slice v.ga v.gn v.gc]) (by kernel_rfl) rfl rfl (by kernel_rfl) (enter_go rfl (by kernel_rfl) (fun w => by go_simp)) (L' := #[true, true, true, true, true, true, true, false, false, false, false, false, false, false]) (by kernel_rfl) ?_
            have hW5 : Below ab W w5 := HWX.out.trans (hB5.mono (Nat.le_trans HW0.out HWX.out.size))
            refine (again_any HT.out HAB.out HFL.out.1 HFL.out.2 HNN.out hW5 hD5 HAF.out (fun k hk => Nat.le_trans (Nat.le_trans HW0.out HWX.out.size) (hX5 k hk))).mono ?_
            rintro e w6 ⟨p6, j6, X6, s6, rfl, hJ6, hn6, hc6, ho6, ho6b, hX6, hj6, hW6, hK6⟩
            have hS6 := hK6.block _ _ _ _ hS5 (by decide) (by decide) (by decide)
            refine ⟨_, rfl, hS6, ?_⟩
            simp only [List.setIfInBounds_toArray, List.set_cons_zero, List.set_cons_succ]
            refine z_pure (i := 7) (v := .tuple #[.pointer (some ⟨p6, 0, none⟩), .pointer (some ⟨j6, 0, none⟩), .bool true]) hns rfl rfl rfl (by kernel_rfl) (by kernel_rfl) hP (y_move rfl (by kernel_rfl) (by kernel_rfl)) (fun _ => hS6) rfl (L' := #[true, true, true, true, true, true, true, true, false, false, false, false, false, false]) (by kernel_rfl) ?_
            refine z_pure (i := 8) (v := .pointer (some ⟨p6, 0, none⟩)) hns rfl rfl rfl (by kernel_rfl) (by kernel_rfl) hP (y_ext rfl (by kernel_rfl) (by kernel_rfl) (ext3_0 (.pointer (some ⟨p6, 0, none⟩)) (.pointer (some ⟨j6, 0, none⟩)) (.bool true))) (fun _ => hS6) rfl (L' := #[true, true, true, true, true, true, true, true, true, false, false, false, false, false]) (by kernel_rfl) ?_
            refine z_pure (i := 9) (v := .pointer (some ⟨j6, 0, none⟩)) hns rfl rfl rfl (by kernel_rfl) (by kernel_rfl) hP (y_ext rfl (by kernel_rfl) (by kernel_rfl) (ext3_1 (.pointer (some ⟨p6, 0, none⟩)) (.pointer (some ⟨j6, 0, none⟩)) (.bool true))) (fun _ => hS6) rfl (L' := #[true, true, true, true, true, true, true, true, true, true, false, false, false, false]) (by kernel_rfl) ?_
            refine z_pure (i := 10) (v := .bool true) hns rfl rfl rfl (by kernel_rfl) (by kernel_rfl) hP (y_ext rfl (by kernel_rfl) (by kernel_rfl) (ext3_2 (.pointer (some ⟨p6, 0, none⟩)) (.pointer (some ⟨j6, 0, none⟩)) (.bool true))) (fun _ => hS6) rfl (L' := #[true, true, true, true, true, true, true, true, true, true, true, false, false, false]) (by kernel_rfl) ?_
            refine z_pure (i := 11) (v := .pointer (some ⟨p6, 0, none⟩)) hns rfl rfl rfl (by kernel_rfl) (by kernel_rfl) hP (y_assign rfl (by kernel_rfl) (by kernel_rfl)) (fun _ => hS6) rfl (L' := #[true, true, true, true, true, true, true, true, true, true, true, true, false, false]) (by kernel_rfl) ?_
            refine z_pure (i := 12) (v := .pointer (some ⟨j6, 0, none⟩)) hns rfl rfl rfl (by kernel_rfl) (by kernel_rfl) hP (y_assign rfl (by kernel_rfl) (by kernel_rfl)) (fun _ => hS6) rfl (L' := #[true, true, true, true, true, true, true, true, true, true, true, true, true, false]) (by kernel_rfl) ?_
            refine z_val (i := 13) (v := .bool true) (by kernel_rfl) rfl rfl (by kernel_rfl) (run_asg rfl (by kernel_rfl)) hS6 rfl (L' := #[true, true, true, true, true, true, true, true, true, true, true, true, true, true]) (by kernel_rfl) ?_
            try simp only [List.setIfInBounds_toArray, List.set_cons_zero, List.set_cons_succ]
            refine z_done (by kernel_rfl) ?_ _
            refine hN _ _ ?_
            clear hP hN hns
            clear hS HCR HLB hS5 hS6
            have hR6 := hK6.rj (HRX.out.below hB5)
            have hhas := lhas_any hJ6 hR6 (by rw [HBL.out.1, HBL.out.2])
            have hT6 := hK6.rj (HTX.out.below hB5)
            have HHT := hid (fun wy (hBy : Below w6.heap.size w6 wy) => lhas_same (hJ6.below hBy) (hT6.below hBy))
            by_cases hsm : sq = sq2 ∧ bl = bl2
            · obtain ⟨rfl, rfl⟩ := hsm
              rw [decide_eq_true (And.intro rfl rfl)] at hhas
              have HHAS := hid hhas
              have H6 := hid (And.intro hJ6 (And.intro hn6 (And.intro hc6 (And.intro ho6 (And.intro ho6b (And.intro hX6 (And.intro hj6 (And.intro hW6 hR6))))))))
              clear hhas hJ6 hn6 hc6 ho6 ho6b hX6 hj6 hW6 hK6 hR6 hD5 hX5 hB5 hW5 HRX HWX HAF
              go_wp2_with fail
              refine HHAS.out.mono ?_
              rintro e wy ⟨rfl, hBy⟩
              have h6 := H6.out
              have HZ : Hid (Lst W ab n (i + 1) wy j6 p6 r X6 s6 sq _ bl Br) := hid ⟨⟨h6.1.below hBy, h6.2.2.1, h6.2.2.2.2.2.1, h6.2.2.2.2.2.2.1⟩, h6.2.2.2.2.2.2.2.2.below hBy, HRB.out.1, HRB.out.2, h6.2.2.2.2.2.2.2.1.trans (hBy.mono (Nat.le_trans HW0.out h6.2.2.2.2.2.2.2.1.size)), h6.2.1, HQS.out, by have := h6.2.2.2.2.1; omega, h6.2.2.2.1⟩
              clear h6 hBy HHAS H6
              go_wp2_with fail
              exact ⟨⟨i + 1, _, _, _, _, _, _, _, _, _, HI.out.1, HI.out.2, rfl, rfl, rfl, rfl, HZ.out⟩, by have := HI.out; simp [intOf]; omega⟩
            · rw [decide_eq_false (fun h => hsm ⟨h.1.symm, h.2.symm⟩)] at hhas
              have HHAS := hid hhas
              have H6 := hid (And.intro hJ6 (And.intro hn6 (And.intro hc6 (And.intro ho6 (And.intro ho6b (And.intro hX6 (And.intro hj6 (And.intro hW6 hT6))))))))
              clear hhas hsm hJ6 hn6 hc6 ho6 ho6b hX6 hj6 hW6 hK6 hR6 hT6 hD5 hX5 hB5 hW5 HRX HTX HWX HAF
              go_wp2_with fail
              refine HHAS.out.mono ?_
              rintro e wy ⟨rfl, hBy⟩
              have hh := HHT.out wy hBy
              have HH2 := hid hh
              have HBY := hid hBy
              clear hh hBy HHAS HHT
              go_wp2_with fail
              refine HH2.out.mono ?_
              rintro e wx ⟨rfl, hBx⟩
              have h6 := H6.out
              have hBy := HBY.out.trans (hBx.mono HBY.out.size)
              have HZ : Hid (Lst W ab n (i + 1) wx j6 p6 t X6 s6 sq2 _ bl2 Bt) := hid ⟨⟨h6.1.below hBy, h6.2.2.1, h6.2.2.2.2.2.1, h6.2.2.2.2.2.2.1⟩, h6.2.2.2.2.2.2.2.2.below hBy, HTB.out.1, HTB.out.2, h6.2.2.2.2.2.2.2.1.trans (hBy.mono (Nat.le_trans HW0.out h6.2.2.2.2.2.2.2.1.size)), h6.2.1, HQT.out, by have := h6.2.2.2.2.1; omega, h6.2.2.2.1⟩
              clear h6 hBx hBy HH2 H6 HBY
              go_wp2_with fail
              exact ⟨⟨i + 1, _, _, _, _, _, _, _, _, _, HI.out.1, HI.out.2, rfl, rfl, rfl, rfl, HZ.out⟩, by have := HI.out; simp [intOf]; omega⟩
    · have HPF := hid hP.below
      have HLT := hid hlt
      clear hP hlt hi1 hi2
      by_cases hN : i < N
      · have hb1 : (i : Int) < (N : Int) := by omega
        have hb2 : ¬ (i : Int) < 5 := by have := HLT.out; omega
        go_wp2
        go_ret
        exact ⟨rfl, HPF.out⟩
      · have hb1 : ¬ (i : Int) < (N : Int) := by omega
        go_wp2
        go_ret
        exact ⟨rfl, HPF.out⟩
end Go.Proofs.YtdogjicccajnkaaDoor
